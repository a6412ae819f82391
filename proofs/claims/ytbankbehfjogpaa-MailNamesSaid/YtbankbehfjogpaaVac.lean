/- The law of XOver again, where the body of a round is told which front of what comes it stands at. -/
/- Package mass: parts. -/
/- Package dyad: lowest, Check, anyBad, side. -/
/- Package dyad: sum. -/
/- Dyads: words for their boxes, for what is handed in, and for what is answered. -/
import Derived.Test.YtbankbehfjogpaaVab
import Derived.Sort.QuietIn
import Derived.Sort.CutIn
import Derived.Test.YtbankbehfjogpaaProg
import Derived.Laws.ResultCell
import Derived.Laws.Rows

namespace Go.Proofs.Ytbankbehfjogpaa
set_option maxRecDepth 100000
open Go.RowKit

/-- What the iterator keeps to, where each front of what comes is as Gd says: what it is asked between two rounds may be told again when its own block g has been written. -/
def ComesG {α : Type} (F : Fence) (n : Nat) (P : Program) (gf : Nat) (lb : Array Value) (encs : α → Array Value) (K : Nat → Prop) (g : Nat) (Gd : List α → Prop) (S : List α → World → Prop) (Sp : List α → Prop) (w : World) : Prop :=
  ∀ (l : Nat) (J Jx : List α → World → Prop) (W : World), Below w.heap.size w W → (∀ s X Y, J s X → X.grownBy Y (some g) → J s Y) →
    (∀ pre x X, Gd (pre ++ [x]) → J pre X → YieldAt F (n - 1) P l (encs x) X fun e Y => (e = .returned (.bool true) ∧ J (pre ++ [x]) Y ∧ Kb K X Y) ∨ (e = .returned (.bool false) ∧ Jx (pre ++ [x]) Y)) →
    J [] W → CallsIn F n P gf (#[.func (.yield l) #[] #[]] ++ lb) W fun e Y => (∃ v, e = .returned v) ∧ ((∃ xs, S xs Y ∧ J xs Y) ∨ ∃ pre, Sp pre ∧ Jx pre Y)

set_option maxHeartbeats 1000000 in
theorem range_overG {F : Fence} {n : Nat} {P : Program} {α : Type} {gop : Operand} {ps : Array Tmp} {assign body : Code} {Q : Exit → Act → World → Prop} {a : Act} {w : World}
    (hro : F.round = none) (h1 : 1 ≤ n) {gf : Nat} {lb : Array Value} (hv : a.eval gop = .func (.func gf) #[] lb) (hF : F.fn gf) (en : ∀ args w, (callFunc gf args).run P w = .ok (.enter gf args) w)
    {encs : α → Array Value} {K : Nat → Prop} {g : Nat} (hgn : K g) (hnw : ∀ b, K b → b < w.heap.size) {Gd : List α → Prop} {S : List α → World → Prop} {Sp : List α → Prop} (hseq : ComesG F (n - 1) P gf lb encs K g Gd S Sp w) (hps : ∀ x, (encs x).size = ps.size)
    (I Ix : List α → World → Prop) (hI : ∀ s X Y r, I s X → X.grownBy Y (some r) → (r = w.heap.size ∨ r = w.heap.size + 1 ∨ r = g) → I s Y)
    (hIx : ∀ s X Y r, Ix s X → X.grownBy Y (some r) → r = w.heap.size ∨ r = w.heap.size + 1 → Ix s Y) (hS : ∀ s X Y r, S s X → X.grownBy Y (some r) → r = w.heap.size ∨ r = w.heap.size + 1 → S s Y) (h0 : I [] w) (a₁ : α → Act)
    (hassign : ∀ (l : Nat) (x : α) (W : World) (K : Act → World → Prop), K (a₁ x) W →
      assign.wpIn (F.inRound l) (n - 1 - 1) P (Exit.then K (fun _ _ _ => False)) { tmps := (ps.zip (encs x)).foldl (fun t (p, v) => t.setIfInBounds p v) a.tmps, defers := [] } W)
    (hbody : ∀ (l : Nat) (pre : List α) (x : α) (W : World), Gd (pre ++ [x]) → w.heap.size + 2 ≤ W.heap.size → I pre W → body.wpIn (F.inRound l) (n - 1 - 1) P (outOf w.heap.size K I Ix (pre ++ [x]) W) (a₁ x) W)
    (hdone : ∀ (D : Nat) (xs : List α) (W : World), D = w.heap.size → S xs W → I xs W → W.heap[D]? = some (.deferred (some [])) → Q .normal { a with defers := { target := .collected D, args := #[] } :: a.defers } W)
    (hstop : ∀ (D : Nat) (pre : List α) (W : World), D = w.heap.size → Sp pre → Ix pre W → W.heap[D]? = some (.deferred (some [])) → Code.ret.wpIn F n P Q { a with defers := { target := .collected D, args := #[] } :: a.defers } W) :
    (Code.rangeFunc gop ps assign body).wpIn F n P Q a w := by
  refine wpIn_rangeFunc fun fn hfn => ?_
  rw [hro]
  let rec0 (st : LoopState) (pe : Option Code) : Loop := { state := st, pending := pe, fn, tmps := a.tmps, params := ps, assign, body, defers := w.heap.size }
  have hsz1 : (w.alloc (.deferred (some []))).heap.size = w.heap.size + 1 := by simp
  have hkept : Kept w.heap.size (rec0 .ready none) ((w.alloc (.deferred (some []))).alloc (.loop (rec0 .ready none))) := by
    refine ⟨?_, (Below.heap_alloc _ _ _ (by simp)).trans (World.alloc_heap_new w _)⟩
    have := World.alloc_heap_new (w.alloc (.deferred (some []))) (.loop (rec0 .ready none))
    rwa [hsz1] at this
  have hI1 : I [] ((w.alloc (.deferred (some []))).alloc (.loop (rec0 .ready none))) :=
    hI _ _ _ _ (hI _ _ _ _ h0 (World.grownBy_alloc w _ (some w.heap.size)) (.inl rfl)) (World.grownBy_alloc _ _ (some w.heap.size)) (.inl rfl)
  have hb1 : Below w.heap.size w ((w.alloc (.deferred (some []))).alloc (.loop (rec0 .ready none))) := ((Below.refl _ w).alloc (Nat.le_refl _) _).alloc (by simp) _
  generalize hW1 : (w.alloc (.deferred (some []))).alloc (.loop (rec0 .ready none)) = W1 at hkept hI1 hb1
  refine ⟨w.heap.size + 1, [{ target := .collected w.heap.size, args := #[] }], W1, { target := .fn (.func gf) lb, args := #[.func (.yield (w.heap.size + 1)) #[] #[]] }, W1, gf,
    #[.func (.yield (w.heap.size + 1)) #[] #[]] ++ lb, W1, ?_, ?_, ?_, ?_, fun _ => h1, ?_⟩
  · rw [← hW1]; exact run_enterLoop_outer _ _ _ _ _
  · simp only [resolve, hv]
    simp [go_sem]
  · intro f hf; simp [Target.leads] at hf; exact hf ▸ hF
  · simp [invoke, go_sem, en]
  have hround : ∀ (pre : List α) (x : α) (X : World), Gd (pre ++ [x]) → (I pre X ∧ Kept w.heap.size (rec0 .ready none) X) →
      YieldAt F (n - 1 - 1) P (w.heap.size + 1) (encs x) X fun e Y =>
        (e = .returned (.bool true) ∧ (I (pre ++ [x]) Y ∧ Kept w.heap.size (rec0 .ready none) Y) ∧ Kb K X Y) ∨
        (e = .returned (.bool false) ∧ (Ix (pre ++ [x]) Y ∧ Kept w.heap.size (rec0 .done (some .ret)) Y)) := by
    rintro pre x X hgd ⟨hi, hk⟩
    refine ⟨fn, _, assign, body, run_yield (P := P) (args := encs x) hk.1 (hps x), roundIn_of_wpIn hfn (hassign _ x X _ ⟨_, run_beginRound hk.1 rfl, ?_⟩)⟩
    have hnK : ¬ K (w.heap.size + 1) := fun h => by have := hnw _ h; omega
    have hbz : Kb K X (X.putObj (w.heap.size + 1) (.loop { rec0 .ready none with state := .busy })) := Kb.putObj _ hnK
    have hkz := hk.put (rec0 .busy none)
    refine wpIn_mono (hbody _ pre x _ hgd (by have := lt_of_heap hk.1; simp; omega) (hI _ _ _ _ hi (grownBy_putObj' X (w.heap.size + 1) _) (.inr (.inl rfl)))) ?_
    rintro e a3 Z hp
    cases e with
    | normal =>
      obtain ⟨hkp, hbl, hi3⟩ := hp
      have hkZ := hkz.keeps hkp
      exact ⟨_, _, run_endRound (P := P) none hkZ.1, .inl ⟨rfl, ⟨hI _ _ _ _ hi3 (grownBy_putObj' Z (w.heap.size + 1) _) (.inr (.inl rfl)), hkZ.put _⟩, (hbz.trans hbl).trans (Kb.putObj _ hnK)⟩⟩
    | ret =>
      obtain ⟨hkp, hi3⟩ := hp
      have hkZ := hkz.keeps hkp
      exact ⟨_, _, run_endRound (P := P) (some .ret) hkZ.1, .inr ⟨rfl, hIx _ _ _ _ hi3 (grownBy_putObj' Z (w.heap.size + 1) _) (.inr rfl), hkZ.put _⟩⟩
    | exit _ => exact hp.elim
    | goto _ => exact hp.elim
    | panic _ => exact hp.elim
    | outgrown => exact hp.elim
  refine (hseq (w.heap.size + 1) (fun pre X => I pre X ∧ Kept w.heap.size (rec0 .ready none) X) (fun pre X => Ix pre X ∧ Kept w.heap.size (rec0 .done (some .ret)) X) W1 hb1
    (fun s X Y h hg => ⟨hI _ _ _ _ h.1 hg (.inr (.inr rfl)), h.2.grown hg (hnw _ hgn)⟩) hround ⟨hI1, hkept⟩).mono ?_
  rintro e Y ⟨⟨v, rfl⟩, (⟨xs, hs, hi, hk⟩ | ⟨pre, hs, hi, hk⟩)⟩
  · exact ⟨none, _, run_endLoop (P := P) hk.1 (by simp [rec0]), hdone _ xs _ rfl (hS _ _ _ _ hs (grownBy_putObj' Y (w.heap.size + 1) _) (.inr rfl)) (hI _ _ _ _ hi (grownBy_putObj' Y (w.heap.size + 1) _) (.inr (.inl rfl))) (hk.put { rec0 .ready none with state := .exhausted }).2⟩
  · exact ⟨some .ret, _, run_endLoop (P := P) hk.1 (by simp [rec0]), hstop _ pre _ rfl hs (hIx _ _ _ _ hi (grownBy_putObj' Y (w.heap.size + 1) _) (.inr rfl)) (hk.put { rec0 .done (some .ret) with state := .exhausted }).2⟩

end Go.Proofs.Ytbankbehfjogpaa


namespace Go.Proofs.Ytbankbehfjogpaa
set_option maxRecDepth 100000
open Go.RowKit Go.Shelf
attribute [local go_sem] Oper.semAt_some

/-- The pointer to part k of the mass at block g. -/
def pptr (g k : Nat) : Value := .pointer (some ⟨g, 3 * k, none⟩)
/-- The first k parts' numbers. -/
def fst (k : Nat) : List Nat := upto (fun j => j) k

theorem fst_length (k : Nat) : (fst k).length = k := by unfold fst; exact upto_length _ _
/-- A front of the parts, in order. -/
def Pre4 (s : List (Idx 4)) : Prop := s.map (·.1) = fst s.length
theorem pre4_of {s : List (Idx 4)} {k : Nat} (h : s.map (·.1) = fst k) : Pre4 s := by
  have e := congrArg List.length h
  rw [List.length_map, fst_length] at e
  unfold Pre4
  rw [e]
  exact h
theorem Pre4.front {s : List (Idx 4)} {x : Idx 4} (h : Pre4 (s ++ [x])) : x.1 = s.length ∧ Pre4 s := by
  unfold Pre4 at h
  rw [List.length_append, List.length_singleton, List.map_append, show fst (s.length + 1) = fst s.length ++ [s.length] by unfold fst; rw [upto_succ]] at h
  have e := List.append_inj h (by rw [List.length_map, fst_length])
  exact ⟨by simpa using e.2, e.1⟩

set_option maxRecDepth 100000 in
set_option maxHeartbeats 4000000 in
theorem parts1_in (n : Nat) (hn : 1 ≤ n) (l Bs g : Nat) (R : World → World → Prop) (J Jx : List (Idx 4) → World → Prop)
    (hdr : ∀ W W' m, R W W' → R W (W'.drewN m)) (htr : ∀ W W' W'', R W W' → R W' W'' → R W W'')
    (hJd : ∀ pre W m, J pre W → J pre (W.drewN m))
    (hY : ∀ pre x W, J pre W → Pre4 (pre ++ [x]) → YieldAt Fence.wide (n - 1) Try.prog l #[pptr g x.1] W fun e W' =>
      (e = .returned (.bool true) ∧ J (pre ++ [x]) W' ∧ R W W') ∨ (e = .returned (.bool false) ∧ Jx (pre ++ [x]) W'))
    (W : World) (hR0 : R W W) (hBs : W.cell? ⟨Bs, 0, none⟩ = some (.pointer (some ⟨g, 0, none⟩))) (h0 : J [] W) :
    CallsIn Fence.wide n Try.prog 78 #[.func (.yield l) #[] #[], .pointer (some ⟨Bs, 0, none⟩)] W fun e W' => (∃ v, e = .returned v) ∧
      ((∃ ys : List (Idx 4), ys.map (·.1) = fst 4 ∧ J ys W') ∨ (∃ pre : List (Idx 4), (∃ k, k ≤ 4 ∧ pre.map (·.1) = fst k) ∧ Jx pre W')) := by
  have i0 : ∀ w : World, (Instr.index 129 (.agg #[.pointer (some ⟨g, 0, none⟩), .pointer (some ⟨g, 3, none⟩), .pointer (some ⟨g, 6, none⟩), .pointer (some ⟨g, 9, none⟩)]) (.int .i64 0)).run Try.prog w = .ok (.pointer (some ⟨g, 0, none⟩)) w := fun _ => by kernel_rfl
  have i1 : ∀ w : World, (Instr.index 129 (.agg #[.pointer (some ⟨g, 0, none⟩), .pointer (some ⟨g, 3, none⟩), .pointer (some ⟨g, 6, none⟩), .pointer (some ⟨g, 9, none⟩)]) (.int .i64 1)).run Try.prog w = .ok (.pointer (some ⟨g, 3, none⟩)) w := fun _ => by kernel_rfl
  have i2 : ∀ w : World, (Instr.index 129 (.agg #[.pointer (some ⟨g, 0, none⟩), .pointer (some ⟨g, 3, none⟩), .pointer (some ⟨g, 6, none⟩), .pointer (some ⟨g, 9, none⟩)]) (.int .i64 2)).run Try.prog w = .ok (.pointer (some ⟨g, 6, none⟩)) w := fun _ => by kernel_rfl
  have i3 : ∀ w : World, (Instr.index 129 (.agg #[.pointer (some ⟨g, 0, none⟩), .pointer (some ⟨g, 3, none⟩), .pointer (some ⟨g, 6, none⟩), .pointer (some ⟨g, 9, none⟩)]) (.int .i64 3)).run Try.prog w = .ok (.pointer (some ⟨g, 9, none⟩)) w := fun _ => by kernel_rfl
  refine callsIn_of_wp Try.func78 rfl trivial ?_ rfl
  simp only [Try.ntmps78, List.size_toArray, List.length_cons, List.length_nil, Nat.reduceAdd, Nat.reduceSub, Array.replicate_succ, Array.replicate_zero, List.push_toArray, List.append_toArray, List.nil_append, List.cons_append]
  gi_wp2
  gi_quiet (fail)
  gi_wp2
  gi_loopw [18] (fun i wr => ∃ (k : Nat) (pre : List (Idx 4)), k ≤ 4 ∧ i = .int .i64 (k : Int) ∧ pre.map (·.1) = fst k ∧ J pre wr ∧ R W wr)
    (fun i _ => 4 - (intOf i).toNat)
  case atStart => exact ⟨0, [], by omega, rfl, rfl, hJd _ _ _ h0, hdr _ _ _ hR0⟩
  case round =>
    obtain ⟨k, pre, hk, rfl, hpre, hJs, hRr⟩ := hrel
    by_cases hk4 : k < 4
    · have hk1 : k + 1 ≤ 4 := by omega
      have hb : (pre ++ [(⟨k, hk4⟩ : Idx 4)]).map (·.1) = fst (k + 1) := by
        unfold fst at hpre ⊢
        rw [List.map_append, hpre, upto_succ]
        rfl
      obtain ⟨fn, tmps, assign, body, hy, hR⟩ := hY pre ⟨k, hk4⟩ wr hJs (pre4_of hb)
      dsimp only at hy
      unfold pptr at hy
      have hc : k = 0 ∨ k = 1 ∨ k = 2 ∨ k = 3 := by omega
      rcases hc with rfl | rfl | rfl | rfl
      all_goals
        simp only [Nat.mul_zero, Nat.mul_one, Nat.reduceMul] at hy
        gi_wp2
        refine hR.mono ?_
        rintro e W3 (⟨rfl, hJ3, hR3⟩ | ⟨rfl, hJx3⟩)
        · gi_wp2
          go_roundw
          case rel => exact ⟨_, _, hk1, rfl, hb, hJ3, htr _ _ _ hRr hR3⟩
          case measure => simp [intOf]
        · gi_wp2
          refine bodyPost_ret (results_none rfl _ _ _) rfl ?_
          exact ⟨⟨_, rfl⟩, .inr ⟨_, ⟨_, hk1, hb⟩, hJx3⟩⟩
    · obtain rfl : k = 4 := by omega
      gi_wp2
      go_end0
      exact ⟨⟨_, rfl⟩, .inl ⟨_, hpre, hJs⟩⟩

theorem grownBy_drewN (W : World) (m : Nat) (r : Option Nat) : W.grownBy (W.drewN m) r := ⟨rfl, rfl, rfl, Nat.le_refl _, fun _ _ _ => rfl⟩

/-- parts$1, as the law of a loop over an iterator wants it. -/
theorem parts_comes (n : Nat) (hn : 1 ≤ n) {Bs g : Nat} {K : Nat → Prop} {w : World} (hBs : w.cell? ⟨Bs, 0, none⟩ = some (.pointer (some ⟨g, 0, none⟩))) (hlt : Bs < w.heap.size) :
    Comes Fence.wide n Try.prog 78 #[.pointer (some ⟨Bs, 0, none⟩)] (fun x : Idx 4 => #[pptr g x.1]) K Bs (fun ys _ => ys.map (·.1) = fst 4) (fun pre => ∃ k, k ≤ 4 ∧ pre.map (·.1) = fst k) w := by
  intro l J Jx W hW hJg hY h0
  refine parts1_in n hn l Bs g (Kb K) J Jx (fun W W' m h => ⟨h.size, h.block⟩) (fun _ _ _ h k => h.trans k) (fun pre W m h => hJg _ _ _ h (grownBy_drewN W m _)) (fun pre x W h _ => hY pre x W h) W (Kb.refl K W) ((hW.cell (p := ⟨Bs, 0, none⟩) hlt).trans hBs) h0

/-- parts$1, as XMover's law of a loop wants it. -/
theorem parts_comesG (n : Nat) (hn : 1 ≤ n) {Bs g : Nat} {K : Nat → Prop} {w : World} (hBs : w.cell? ⟨Bs, 0, none⟩ = some (.pointer (some ⟨g, 0, none⟩))) (hlt : Bs < w.heap.size) :
    ComesG Fence.wide n Try.prog 78 #[.pointer (some ⟨Bs, 0, none⟩)] (fun x : Idx 4 => #[pptr g x.1]) K Bs Pre4 (fun ys _ => ys.map (·.1) = fst 4) (fun pre => ∃ k, k ≤ 4 ∧ pre.map (·.1) = fst k) w := by
  intro l J Jx W hW hJg hY h0
  refine parts1_in n hn l Bs g (Kb K) J Jx (fun W W' m h => ⟨h.size, h.block⟩) (fun _ _ _ h k => h.trans k) (fun pre W m h => hJg _ _ _ h (grownBy_drewN W m _)) (fun pre x W h hg => hY pre x W hg h) W (Kb.refl K W) ((hW.cell (p := ⟨Bs, 0, none⟩) hlt).trans hBs) h0

set_option maxHeartbeats 1000000 in
theorem parts_any (n : Nat) (g : Nat) (w : World) :
    CallsIn Fence.wide n Try.prog 65 #[.pointer (some ⟨g, 0, none⟩)] w fun e w' => e = .returned (.func (.func 78) #[] #[.pointer (some ⟨w.heap.size, 0, none⟩)]) ∧ w' = w.alloc (.cells #[.pointer (some ⟨g, 0, none⟩)] 105) := by
  refine callsIn_of_wp Try.func65 rfl trivial ?_ rfl
  simp only [Try.ntmps65, List.size_toArray, List.length_cons, List.length_nil, Nat.reduceAdd, Nat.reduceSub, Array.replicate_succ, Array.replicate_zero, List.push_toArray, List.append_toArray, List.nil_append, List.cons_append]
  gi_wp2
  go_ret
  exact ⟨rfl, rfl⟩

end Go.Proofs.Ytbankbehfjogpaa


namespace Go.Proofs.Ytbankbehfjogpaa
set_option maxRecDepth 100000
open Go.RowKit

theorem and_one_u32 (x : Nat) (hx : x < 4294967296) : bits BinOp.and IntKind.u32 (x : Int) 1 = ((x % 2 : Nat) : Int) := by
  have h := bit_u32 x 0 hx
  simpa using h

set_option maxHeartbeats 400000 in
theorem lowest_nil (A : Option Addr) (c : Nat) (w : World) :
    Calls Try.prog 80 #[.slice A 0 c] w fun e w' => e = .returned (.int .u32 0) ∧ w = w' := by
  go_enter Try.func80, Try.ntmps80
  go_wp2
  go_ret
  exact ⟨rfl, rfl⟩
set_option maxHeartbeats 400000 in
theorem lowest_pos (b off n c x : Nat) (w : World) (h0 : 0 < n) (_hc : n ≤ c) (_hm : n ≤ 140737488355328) (hl : x < 4294967296) (hx : w.cell? ⟨b, off, none⟩ = some (.int .u32 (x : Int))) :
    Calls Try.prog 80 #[.slice (some ⟨b, off, none⟩) n c] w fun e w' => e = .returned (.int .u32 ((x % 2 : Nat) : Int)) ∧ w = w' := by
  have hn : ((n : Int) == 0) = false := by simp; omega
  have e := and_one_u32 x hl
  go_enter Try.func80, Try.ntmps80
  go_wp2
  go_ret
  exact ⟨rfl, rfl⟩
theorem lowest_any {B : Nat} {A : Option Addr} {n c : Nat} {f : Nat → Nat} {w : World} (h : Rd w B A n c f) :
    Calls Try.prog 80 #[.slice A n c] w fun e w' => e = .returned (.int .u32 ((f 0 % 2 : Nat) : Int)) ∧ w = w' := by
  rcases Nat.eq_zero_or_pos n with h0 | h0
  · subst h0
    rw [h.out 0 (Nat.le_refl _)]
    exact lowest_nil A c w
  · obtain ⟨b, off, rfl, _, hc⟩ := h.at_ h0
    have := hc 0 h0
    exact lowest_pos b off n c _ w h0 h.cap h.max (h.lt 0) this

/-- May a dyad be? -/
def DMay (s : Bool) (n : Nat) (f : Nat → Nat) (x : Int) : Prop := Fit n f ∧ 0 ≤ x ∧ x ≤ 1024 ∧ (n = 0 → s = false) ∧ (0 < x → f 0 % 2 = 1)

instance (s : Bool) (n : Nat) (f : Nat → Nat) (x : Int) : Decidable (DMay s n f x) := by unfold DMay; infer_instance

/-- Check's number. -/
def dchk (s : Bool) (n : Nat) (f : Nat → Nat) (x : Int) : Int := if DMay s n f x then 0 else 8

set_option maxHeartbeats 800000 in
theorem dcheck_any {A : Option Addr} {n c : Nat} {f : Nat → Nat} {w : World} (h : Rd w w.heap.size A n c f) (s : Bool) (x : Int) :
    Calls Try.prog 66 #[.agg #[.bool s, .slice A n c, .int .i64 x]] w fun e w' => e = .returned (.int .i64 (dchk s n f x)) ∧ Below w.heap.size w w' := by
  have bel : Below w.heap.size w (w.alloc (.cells #[.bool s, .slice A n c, .int .i64 x] 24)) := (Below.refl _ w).alloc (Nat.le_refl _) _
  have Cc := hid (check_any (h.below bel))
  have Cl := hid (lowest_any (h.below bel))
  have Hb := hid bel
  clear bel
  by_cases hf : Fit n f
  · rw [chk_fit hf] at Cc
    have hm := h.max
    by_cases hx0 : x < 0
    · have hd : dchk s n f x = 8 := if_neg (fun h => by have := h.2.1; omega)
      rw [hd]
      clear hd hf h Cl
      go_enter Try.func66, Try.ntmps66
      go_wp2_with fail
      refine Cc.out.mono ?_
      rintro e w' ⟨rfl, rfl⟩
      go_wp2
      go_ret
      exact ⟨rfl, Hb.out⟩
    · by_cases hx1 : 1024 < x
      · have hd : dchk s n f x = 8 := if_neg (fun h => by have := h.2.2.1; omega)
        rw [hd]
        clear hd hf h Cl
        go_enter Try.func66, Try.ntmps66
        go_wp2_with fail
        refine Cc.out.mono ?_
        rintro e w' ⟨rfl, rfl⟩
        go_wp2
        go_ret
        exact ⟨rfl, Hb.out⟩
      · have he := @id (n = 0 ∧ s = true ∨ (n = 0 → s = false)) (by cases s <;> simp; omega)
        rcases he with ⟨rfl, rfl⟩ | hs
        · have hd : dchk true 0 f x = 8 := if_neg (fun h => by have := h.2.2.2.1 rfl; cases this)
          rw [hd]
          clear hd hf h Cl
          go_enter Try.func66, Try.ntmps66
          go_wp2_with fail
          refine Cc.out.mono ?_
          rintro e w' ⟨rfl, rfl⟩
          go_wp2
          go_ret
          exact ⟨rfl, Hb.out⟩
        · by_cases hx2 : 0 < x
          · by_cases hp : f 0 % 2 = 1
            · have hd : dchk s n f x = 0 := if_pos ⟨hf, by omega, by omega, hs, fun _ => hp⟩
              rw [hd]
              rw [hp] at Cl
              have hn0 : n ≠ 0 := by
                rintro rfl
                rw [h.out 0 (Nat.le_refl _)] at hp
                cases hp
              have hn1 : ((n : Int) == 0) = false := by simp; omega
              clear hd hf h hs hp
              go_enter Try.func66, Try.ntmps66
              go_wp2_with fail
              refine Cc.out.mono ?_
              rintro e w' ⟨rfl, rfl⟩
              go_wp2_with fail
              refine Cl.out.mono ?_
              rintro e w' ⟨rfl, rfl⟩
              go_wp2
              go_ret
              exact ⟨rfl, Hb.out⟩
            · have hd : dchk s n f x = 8 := if_neg (fun h => hp (h.2.2.2.2 hx2))
              rw [hd]
              have hp0 : f 0 % 2 = 0 := by omega
              rw [hp0] at Cl
              have he2 := @id (n = 0 ∧ s = false ∨ ((n : Int) == 0) = false) (by
                rcases Nat.eq_zero_or_pos n with h0 | h0
                · exact .inl ⟨h0, hs h0⟩
                · right; simp; omega)
              clear hd hf h hs hp hp0
              rcases he2 with ⟨rfl, rfl⟩ | hn1
              all_goals
                go_enter Try.func66, Try.ntmps66
                go_wp2_with fail
                refine Cc.out.mono ?_
                rintro e w' ⟨rfl, rfl⟩
                go_wp2_with fail
                refine Cl.out.mono ?_
                rintro e w' ⟨rfl, rfl⟩
                go_wp2
                go_ret
                exact ⟨rfl, Hb.out⟩
          · have hd : dchk s n f x = 0 := if_pos ⟨hf, by omega, by omega, hs, fun h => absurd h hx2⟩
            rw [hd]
            have he2 := @id (n = 0 ∧ s = false ∨ ((n : Int) == 0) = false) (by
              rcases Nat.eq_zero_or_pos n with h0 | h0
              · exact .inl ⟨h0, hs h0⟩
              · right; simp; omega)
            clear hd hf h hs Cl
            rcases he2 with ⟨rfl, rfl⟩ | hn1
            all_goals
              go_enter Try.func66, Try.ntmps66
              go_wp2_with fail
              refine Cc.out.mono ?_
              rintro e w' ⟨rfl, rfl⟩
              go_wp2
              go_ret
              exact ⟨rfl, Hb.out⟩
  · rw [chk_bad hf] at Cc
    have hd : dchk s n f x = 8 := if_neg (fun h => hf h.1)
    rw [hd]
    clear hd hf h
    go_enter Try.func66, Try.ntmps66
    go_wp2_with fail
    refine Cc.out.mono ?_
    rintro e w' ⟨rfl, rfl⟩
    go_wp2
    go_ret
    exact ⟨rfl, Hb.out⟩

end Go.Proofs.Ytbankbehfjogpaa


namespace Go.Proofs.Ytbankbehfjogpaa
open Go.RowKit

theorem vl_mod2 {f : Nat → Nat} {n : Nat} (h0 : 0 < n) : vl f n % 2 = f 0 % 2 := by
  rw [show n = 1 + (n - 1) by omega, vl_shift]
  rw [show vl f 1 = f 0 by simp [vl, pw], show pw 1 = 2 * 2147483648 by decide, Nat.mul_assoc]
  omega
theorem vl_zero_iff {f : Nat → Nat} {n : Nat} (hf : Fit n f) : vl f n = 0 ↔ n = 0 := by
  constructor
  · intro hV
    rcases Nat.eq_zero_or_pos n with h0 | h0
    · exact h0
    · have a := vl_ge (f := f) h0 (hf.2 h0)
      have b := pw_pos (n - 1)
      omega
  · rintro rfl; rfl
theorem may_canon {s : Bool} {n : Nat} {f : Nat → Nat} {x : Int} (h : DMay s n f x) (hout : ∀ j, n ≤ j → f j = 0) : ∃ X : Nat, x = (X : Int) ∧ Canon s (vl f n) X ∧ X ≤ 1024 := by
  obtain ⟨hf, h0, h1, h2, h3⟩ := h
  obtain ⟨X, rfl⟩ := Int.eq_ofNat_of_zero_le h0
  refine ⟨X, rfl, ⟨fun hV => ?_, fun hx => ?_⟩, by omega⟩
  · have hn := (vl_zero_iff hf).1 hV
    refine ⟨h2 hn, ?_⟩
    rcases Nat.eq_zero_or_pos X with hX | hX
    · exact hX
    · have a := h3 (by omega)
      rw [hout 0 (by omega)] at a
      cases a
  · have a := h3 (by omega)
    rcases Nat.eq_zero_or_pos n with hn | hn
    · rw [hout 0 (by omega)] at a
      cases a
    · rw [vl_mod2 hn]
      exact a
theorem canon_may {s : Bool} {n : Nat} {f : Nat → Nat} {X : Nat} (hf : Fit n f) (hc : Canon s (vl f n) X) (hX : X ≤ 1024) : DMay s n f (X : Int) := by
  refine ⟨hf, by omega, by omega, fun hn => (hc.1 ((vl_zero_iff hf).2 hn)).1, fun hx => ?_⟩
  have a := hc.2 (by omega)
  rcases Nat.eq_zero_or_pos n with hn | hn
  · subst hn
    cases a
  · rwa [vl_mod2 hn] at a

theorem tp_split {E X : Nat} (h : X ≤ E) (hE : E ≤ 4000) : tp (4000 - X) = tp (E - X) * tp (4000 - E) := by
  rw [← tp_add]
  congr 1
  omega
theorem sum_scaled {s t : Bool} {V U X Y E : Nat} (hX : X ≤ E) (hY : Y ≤ E) (hE : E ≤ 4000) : dv s V X + dv t U Y = (num s (V * tp (E - X)) + num t (U * tp (E - Y))) * (tp (4000 - E) : Int) := by
  unfold dv
  rw [tp_split hX hE, tp_split hY hE, ← Nat.mul_assoc, ← Nat.mul_assoc, num_mul, num_mul s, num_mul t (U * _), Int.add_mul]
theorem sum_not {r : Bool} {N E : Nat} {M : Int} (h : M = num r N * (tp (4000 - E) : Int)) (hN : pw 40 ≤ N) (hor : E = 0 ∨ N % 2 = 1) (hE : E ≤ 1024) : ¬ Okay M := by
  rw [← num_mul] at h
  rw [h]
  have := pw_pos 40
  exact not_okay (s := r) (V := N) (x := E) ⟨fun h0 => by omega, fun h1 => by omega⟩ (by omega) (.inl hN)
theorem sum_form (s t : Bool) (n m : Nat) : ∃ r N, num r N = num s n + num t m ∧ N % 2 = (n + m) % 2 ∧ n ≤ N + m ∧ m ≤ N + n := by
  by_cases h : s = t
  · subst h
    exact ⟨s, n + m, num_like s n m, rfl, by omega, by omega⟩
  · rcases Nat.le_total m n with h2 | h2
    · exact ⟨s, n - m, num_unlike h h2, by omega, by omega, by omega⟩
    · exact ⟨t, m - n, by rw [num_unlike (Ne.symm h) h2, Int.add_comm], by omega, by omega, by omega⟩
theorem tp_even {k : Nat} (h : 0 < k) (V : Nat) : (V * tp k) % 2 = 0 := by
  obtain ⟨j, rfl⟩ : ∃ j, k = j + 1 := ⟨k - 1, by omega⟩
  rw [tp_succ, ← Nat.mul_assoc]
  omega
/-- One of the two is too great to be written in the other's parts: then the sum is too great. -/
theorem wide_not {s t : Bool} {V U X Y E : Nat} (hU : U < pw 40) (hc : 0 < Y → U % 2 = 1) (hYE : Y = E) (hX : X < E) (hE : E ≤ 1024) (hbig : 2 * pw 40 ≤ V * tp (E - X)) : ¬ Okay (dv s V X + dv t U Y) := by
  subst hYE
  rw [sum_scaled (by omega : X ≤ Y) (Nat.le_refl Y) (by omega), Nat.sub_self, tp_zero, Nat.mul_one]
  obtain ⟨r, N, hN, hpar, h1, h2⟩ := sum_form s t (V * tp (Y - X)) U
  rw [← hN]
  have ho := hc (by omega)
  have he := tp_even (by omega : 0 < Y - X) V
  exact sum_not rfl (by omega) (.inr (by omega)) hE
/-- Two of like signs that are too great together. -/
theorem like_not {s : Bool} {V U X Y E : Nat} (hV : V < pw 40) (hU : U < pw 40) (hc : 0 < X → V % 2 = 1) (hc2 : 0 < Y → U % 2 = 1) (hX : X ≤ E) (hY : Y ≤ E) (hor : X = E ∨ Y = E) (hE : E ≤ 1024) (hbig : 2 * pw 40 ≤ V * tp (E - X) + U * tp (E - Y)) : ¬ Okay (dv s V X + dv s U Y) := by
  rw [sum_scaled hX hY (by omega), ← num_like]
  refine sum_not rfl (by omega) ?_ hE
  rcases Nat.eq_zero_or_pos E with h0 | h0
  · exact .inl h0
  · right
    rcases Nat.lt_or_ge X E with h1 | h1
    · have h2 : Y = E := by omega
      subst h2
      have a := tp_even (by omega : 0 < Y - X) V
      have b := hc2 h0
      rw [Nat.sub_self, tp_zero, Nat.mul_one]
      omega
    · have h2 : X = E := by omega
      subst h2
      rcases Nat.lt_or_ge Y X with h3 | h3
      · have a := tp_even (by omega : 0 < X - Y) U
        have b := hc h0
        rw [Nat.sub_self, tp_zero, Nat.mul_one]
        omega
      · have h4 : Y = X := by omega
        subst h4
        rw [Nat.sub_self, tp_zero, Nat.mul_one, Nat.mul_one] at hbig
        omega

end Go.Proofs.Ytbankbehfjogpaa


namespace Go.Proofs.Ytbankbehfjogpaa
open Go.RowKit

theorem bool_of_dec {p : Prop} [Decidable p] (h : p) : decide p = true := by simp [h]
theorem bool_of_not {p : Prop} [Decidable p] (h : ¬ p) : decide p = false := by simp [h]

theorem heap3_0 (w : World) (a b c : Obj) : (((w.alloc a).alloc b).alloc c).heap[w.heap.size]? = some a :=
  (Below.heap_alloc _ c _ (by simp; omega)).trans ((Below.heap_alloc _ b _ (by simp)).trans (heap_alloc_new w a))
theorem heap3_1 (w : World) (a b c : Obj) : (((w.alloc a).alloc b).alloc c).heap[w.heap.size + 1]? = some b :=
  (Below.heap_alloc _ c _ (by simp)).trans (heap_alloc2_new w a b)
theorem heap3_2 (w : World) (a b c : Obj) : (((w.alloc a).alloc b).alloc c).heap[w.heap.size + 2]? = some c := by
  have h := heap_alloc_new ((w.alloc a).alloc b) c
  have e : ((w.alloc a).alloc b).heap.size = w.heap.size + 2 := by simp
  rwa [e] at h

section
variable (w : World) (a b c d : Obj)
theorem heap4_0 : ((((w.alloc a).alloc b).alloc c).alloc d).heap[w.heap.size]? = some a := (Below.heap_alloc _ d _ (by simp; omega)).trans (heap3_0 w a b c)
theorem heap4_1 : ((((w.alloc a).alloc b).alloc c).alloc d).heap[w.heap.size + 1]? = some b := (Below.heap_alloc _ d _ (by simp <;> omega)).trans (heap3_1 w a b c)
theorem heap4_2 : ((((w.alloc a).alloc b).alloc c).alloc d).heap[w.heap.size + 2]? = some c := (Below.heap_alloc _ d _ (by simp)).trans (heap3_2 w a b c)
theorem heap4_3 : ((((w.alloc a).alloc b).alloc c).alloc d).heap[w.heap.size + 3]? = some d := by
  have h := heap_alloc_new (((w.alloc a).alloc b).alloc c) d
  have e : (((w.alloc a).alloc b).alloc c).heap.size = w.heap.size + 3 := by simp
  rwa [e] at h
theorem below4 : Below w.heap.size w ((((w.alloc a).alloc b).alloc c).alloc d) :=
  ((((Below.refl w.heap.size w).alloc (Nat.le_refl _) a).alloc (by simp) b).alloc (by simp <;> omega) c).alloc (by simp <;> omega) d
end

/-- Block g is a dyad's. -/
def Dbox (w : World) (g : Nat) (s : Bool) (v : Value) (x : Int) : Prop := w.heap[g]? = some (.cells #[.bool s, v, .int .i64 x] 24 (0, 0))
section
variable {w w' : World} {g : Nat} {s : Bool} {v : Value} {x : Int}
theorem Dbox.lt (h : Dbox w g s v x) : g < w.heap.size := lt_of_heap h
theorem Dbox.c0 (h : Dbox w g s v x) : w.cell? ⟨g, 0, none⟩ = some (.bool s) := by rw [cell_of_row w g 0 _ _ (0, 0) h]; rfl
theorem Dbox.c1 (h : Dbox w g s v x) : w.cell? ⟨g, 1, none⟩ = some v := by rw [cell_of_row w g 1 _ _ (0, 0) h]; rfl
theorem Dbox.c2 (h : Dbox w g s v x) : w.cell? ⟨g, 2, none⟩ = some (.int .i64 x) := by rw [cell_of_row w g 2 _ _ (0, 0) h]; rfl
theorem Dbox.frozen (h : Dbox w g s v x) (j : Nat) : w.frozen? ⟨g, j, none⟩ = false := frozen_of_row w g j _ _ h
theorem Dbox.below {B : Nat} (h : Dbox w g s v x) (hb : Below B w w') (hg : g < B) : Dbox w' g s v x := (hb.block g hg).trans h
theorem Dbox.grown {k : Nat} (h : Dbox w g s v x) (hb : w.grownBy w' (some k)) (hg : g ≠ k) : Dbox w' g s v x := (hb.block g h.lt (by intro e; injection e with e; exact hg e)).trans h
end

/-- d is a dyad that may be, of the call's own, and M of it. -/
def Dn (B : Nat) (w : World) (M : Int) (d : Value) : Prop := ∃ s v x V, d = .agg #[.bool s, v, .int .i64 ((x : Nat) : Int)] ∧ Num 34 B w V v ∧ Canon s V x ∧ x ≤ 1024 ∧ dv s V x = M
/-- What is told beside an error. -/
def resD (er : Int) (M : Int) : Int := if er = 0 then M else 0
theorem resD_ok {er M : Int} (h : er = 0) : resD er M = M := if_pos h
theorem resD_bad {er M : Int} (h : er ≠ 0) : resD er M = 0 := if_neg h
/-- What a call hands back that answers a dyad and an error. -/
def DRes (w : World) (E : Int → Prop) (M : Int) (e : Ending) (w' : World) : Prop := ∃ d er, e = .returned (.tuple #[d, .int .i64 er]) ∧ Hid (E er) ∧ Hid (Dn w.heap.size w' (resD er M) d) ∧ Hid (Below w.heap.size w w')
theorem Dn.zero (B : Nat) (w : World) : Dn B w 0 (.agg #[.bool false, .slice none 0 0, .int .i64 0]) :=
  ⟨false, _, 0, 0, rfl, Num.zero _ _ _, ⟨fun _ => ⟨rfl, rfl⟩, fun h => absurd h (by omega)⟩, by omega, by simp [dv, num]⟩

theorem Val.len0 {w : World} {V n c : Nat} {A : Option Addr} (h : Val w V (.slice A n c)) : (n = 0 ↔ V = 0) := by
  obtain ⟨A', n', c', f, hv, hr, hf, rfl⟩ := h
  injection hv with _ hn _
  subst hn
  constructor
  · rintro rfl; rfl
  · intro hV
    rcases Nat.eq_zero_or_pos n with h0 | h0
    · exact h0
    · have a := vl_ge (f := f) h0 (hf.2 h0)
      have b := pw_pos (n - 1)
      omega
theorem Val.len {w : World} {V n c : Nat} {A : Option Addr} (h : Val w V (.slice A n c)) : n ≤ 40 ∧ n ≤ c := by
  obtain ⟨A', n', c', f, hv, hr, hf, rfl⟩ := h
  injection hv with _ hn hc
  subst hn hc
  exact ⟨hf.1, hr.cap⟩

/-- The world behind a dyad that is stored into its box. -/
def put3 (w : World) (g : Nat) (s : Bool) (v : Value) (x : Int) : World := ((w.setCell ⟨g, 0, none⟩ (.bool s)).setCell ⟨g, 1, none⟩ v).setCell ⟨g, 2, none⟩ (.int .i64 x)
theorem Dbox.store {w : World} {g : Nat} {s t : Bool} {v u : Value} {x y : Int} (h : Dbox w g s v x) : Dbox (put3 w g t u y) g t u y := by
  have h0 := heap_setCell_same w g 0 _ _ (.bool t) h
  have h1 := heap_setCell_same _ g 1 _ _ u h0
  exact heap_setCell_same _ g 2 _ _ (.int .i64 y) h1
theorem below_put3 {B : Nat} {w w' : World} {g : Nat} {s : Bool} {v : Value} {x : Int} (h : Below B w w') (hg : B ≤ g) : Below B w (put3 w' g s v x) :=
  ((h.setCell (p := ⟨g, 0, none⟩) hg _).setCell (p := ⟨g, 1, none⟩) hg _).setCell (p := ⟨g, 2, none⟩) hg _
theorem Num.put3 {t : TypeId} {B V g : Nat} {w : World} {v u : Value} {s : Bool} {x : Int} (h : Num t B w V v) (hg : g < B) : Num t B (put3 w g s u x) V v := ((h.set hg 0 _).set hg 1 _).set hg 2 _

theorem cells_agg_tmp {P : Program} {fn : Func} {p u : Tmp} {ty : TypeId} (h : fn.results = #[.cell p ty, .tmp u]) (tmps : Array Value) (w : World) (g : Nat) (t : TypeId) (cs : Array Value) (fr : Nat × Nat) (d : TypeDesc)
    (hp : tmps.getD p undef = .pointer (some ⟨g, 0, none⟩)) (hg : w.heap[g]? = some (.cells cs t fr))
    (hu : P.underlying ty = some d) (hd : (match d with | .struct _ | .array _ _ => true | _ => false) = true) (hi : (P.info? ty).map (·.size) = some cs.size) :
    (results fn tmps).run P w = .ok (.tuple #[.agg cs, tmps.getD u undef]) w := by
  rw [results_cell_tmp h, hp]
  simp [asAddr, Result.andThen, run_loadVar_row w g t ty cs fr d hg hu hd hi]
theorem dyad_size : (Try.prog.info? 24).map (·.size) = some 3 := by kernel_rfl
theorem ret_dyad {fn : Func} {R : Ending → World → Prop} {a : Act} {w : World} {p u : Tmp} {g : Nat} {s : Bool} {v er : Value} {x : Int} (h : fn.results = #[.cell p 24, .tmp u]) (hp : a.tmps.getD p undef = .pointer (some ⟨g, 0, none⟩)) (hu : a.tmps.getD u undef = er)
    (hd : a.defers = []) (hg : Dbox w g s v x) (hR : R (.returned (.tuple #[.agg #[.bool s, v, .int .i64 x], er])) w) : bodyPost Try.prog fn R .ret a w := by
  refine bodyPost_ret ?_ hd hR
  rw [← hu]
  exact cells_agg_tmp h a.tmps w g _ _ _ _ hp hg Try.underlying24 rfl dyad_size
theorem Dbox.alloc {w : World} {g : Nat} {s : Bool} {v : Value} {x : Int} (h : Dbox w g s v x) (o : Obj) : Dbox (w.alloc o) g s v x := (Below.heap_alloc w o g h.lt).trans h
theorem Num.alloc {t : TypeId} {B V : Nat} {w : World} {v : Value} (h : Num t B w V v) (o : Obj) : Num t B (w.alloc o) V v := h.below ((Below.refl w.heap.size w).alloc (Nat.le_refl _) o) (Nat.le_refl _)

theorem Dbox.drew {w : World} {g : Nat} {s : Bool} {v : Value} {x : Int} (h : Dbox w g s v x) : Dbox w.drew g s v x := h

/-- A result that lies in one variable. -/
theorem cells_agg {P : Program} {fn : Func} {p : Tmp} {ty : TypeId} (h : fn.results = #[.cell p ty]) (tmps : Array Value) (w : World) (g : Nat) (t : TypeId) (cs : Array Value) (fr : Nat × Nat) (d : TypeDesc)
    (hp : tmps.getD p undef = .pointer (some ⟨g, 0, none⟩)) (hg : w.heap[g]? = some (.cells cs t fr))
    (hu : P.underlying ty = some d) (hd : (match d with | .struct _ | .array _ _ => true | _ => false) = true) (hi : (P.info? ty).map (·.size) = some cs.size) :
    (results fn tmps).run P w = .ok (.agg cs) w := results_cell_row h tmps w g t cs fr d hp hg hu hd hi
theorem ret_one {fn : Func} {R : Ending → World → Prop} {a : Act} {w : World} {p : Tmp} {g : Nat} {s : Bool} {v : Value} {x : Int} (h : fn.results = #[.cell p 24]) (hp : a.tmps.getD p undef = .pointer (some ⟨g, 0, none⟩))
    (hd : a.defers = []) (hg : Dbox w g s v x) (hR : R (.returned (.agg #[.bool s, v, .int .i64 x])) w) : bodyPost Try.prog fn R .ret a w :=
  bodyPost_ret (cells_agg h a.tmps w g _ _ _ _ hp hg Try.underlying24 rfl dyad_size) hd hR

/-- A dyad that may be just if p, of so many parts. -/
def DArg (w : World) (p : Prop) (M : Int) (v : Value) : Prop := ∃ s A n c f x, v = .agg #[.bool s, .slice A n c, .int .i64 x] ∧ Rd w w.heap.size A n c f ∧ (p ↔ DMay s n f x) ∧ (p → ∃ X : Nat, x = (X : Int) ∧ M = dv s (vl f n) X)
theorem DArg.below {w w' : World} {p : Prop} {M : Int} {v : Value} (h : DArg w p M v) (hb : Below w.heap.size w w') : DArg w' p M v := by
  obtain ⟨s, A, n, c, f, x, hv, hr, hp, hM⟩ := h
  exact ⟨s, A, n, c, f, x, hv, (hr.below hb).mono hb.size, hp, hM⟩
theorem Dn.arg {B : Nat} {w : World} {M : Int} {v : Value} (h : Dn B w M v) : DArg w True M v := by
  obtain ⟨s, u, X, V, rfl, hn, hc, hX, hd⟩ := h
  obtain ⟨A, n, c, f, rfl, hr, hf, rfl⟩ := hn.val
  exact ⟨s, A, n, c, f, (X : Int), rfl, hr, ⟨fun _ => canon_may hf hc hX, fun _ => trivial⟩, fun _ => ⟨X, rfl, hd.symm⟩⟩
/-- The error of a call on dyads: bad ones first, then 'over'. -/
def Derrs (p : Prop) (M : Int) (er : Int) : Prop := (p → Derr M er) ∧ (¬ p → er = 8)


end Go.Proofs.Ytbankbehfjogpaa

