/- The law of XOver again, where the body of a round is told which front of what comes it stands at. -/
/- Package mass: parts. -/
/- Package dyad: lowest, Check, anyBad, side. -/
import Derived.Test.YtejngjhdmneaiaaVac
import Derived.Sort.QuietIn
import Derived.Sort.CutIn
import Derived.Test.YtejngjhdmneaiaaProg
import Derived.Test.YtejngjhdmneaiaaVab

namespace Go.Proofs.Ytejngjhdmneaiaa
set_option maxRecDepth 100000
open Go.RowKit

/-- What the iterator keeps to, where each front of what comes is as Gd says: what it is asked between two rounds may be told again when its own block g has been written. -/
def ComesG {α : Type} (F : Fence) (n : Nat) (P : Program) (gf : Nat) (lb : Array Value) (encs : α → Array Value) (K : Nat → Prop) (g : Nat) (Gd : List α → Prop) (S : List α → World → Prop) (Sp : List α → Prop) (w : World) : Prop :=
  ∀ (l : Nat) (J Jx : List α → World → Prop) (W : World), Below w.heap.size w W → (∀ s X Y, J s X → X.grownBy Y (some g) → J s Y) →
    (∀ pre x X, Gd (pre ++ [x]) → J pre X → YieldAt F (n - 1) P l (encs x) X fun e Y => (e = .returned (.bool true) ∧ J (pre ++ [x]) Y ∧ Kb K X Y) ∨ (e = .returned (.bool false) ∧ Jx (pre ++ [x]) Y)) →
    J [] W → CallsIn F n P gf (#[.func (.yield l) #[] #[]] ++ lb) W fun e Y => (∃ v, e = .returned v) ∧ ((∃ xs, S xs Y ∧ J xs Y) ∨ ∃ pre, Sp pre ∧ Jx pre Y)

set_option maxHeartbeats 1000000 in
theorem range_overG {F : Fence} {n : Nat} {P : Program} {α : Type} {gop : Operand} {ps : Array Tmp} {assign body : Code} {Q : Exit → Act → World → Prop} {a : Act} {w : World}
    (hro : F.round = none) (h1 : 1 ≤ n) {gf : Nat} {lb : Array Value} (hv : a.eval gop = .func (.func gf) #[] lb) (hF : F.fn gf) (en : ∀ args w, (callFunc gf args).run P w = .ok (.enter gf args) w)
    {encs : α → Array Value} {K : Nat → Prop} {g : Nat} (hgn : K g) (hnw : ∀ b, K b → b < w.heap.size) {Gd : List α → Prop} {S : List α → World → Prop} {Sp : List α → Prop} (hseq : ComesG F (n - 1) P gf lb encs K g Gd S Sp w) (hps : ∀ x, (encs x).size = ps.size)
    (I Ix : List α → World → Prop) (hI : ∀ s X Y r, I s X → X.grownBy Y (some r) → (r = w.heap.size ∨ r = w.heap.size + 1 ∨ r = g) → I s Y)
    (hIx : ∀ s X Y r, Ix s X → X.grownBy Y (some r) → r = w.heap.size ∨ r = w.heap.size + 1 → Ix s Y) (hS : ∀ s X Y r, S s X → X.grownBy Y (some r) → r = w.heap.size ∨ r = w.heap.size + 1 → S s Y) (h0 : I [] w) (a₁ : α → Act)
    (hassign : ∀ (l : Nat) (x : α) (W : World) (K : Act → World → Prop), K (a₁ x) W →
      assign.wpIn (F.inRound l) (n - 1 - 1) P (Exit.then K (fun _ _ _ => False)) { tmps := (ps.zip (encs x)).foldl (fun t (p, v) => t.setIfInBounds p v) a.tmps, defers := [] } W)
    (hbody : ∀ (l : Nat) (pre : List α) (x : α) (W : World), Gd (pre ++ [x]) → w.heap.size + 2 ≤ W.heap.size → I pre W → body.wpIn (F.inRound l) (n - 1 - 1) P (outOf w.heap.size K I Ix (pre ++ [x]) W) (a₁ x) W)
    (hdone : ∀ (D : Nat) (xs : List α) (W : World), D = w.heap.size → S xs W → I xs W → W.heap[D]? = some (.deferred (some [])) → Q .normal { a with defers := { target := .collected D, args := #[] } :: a.defers } W)
    (hstop : ∀ (D : Nat) (pre : List α) (W : World), D = w.heap.size → Sp pre → Ix pre W → W.heap[D]? = some (.deferred (some [])) → Code.ret.wpIn F n P Q { a with defers := { target := .collected D, args := #[] } :: a.defers } W) :
    (Code.rangeFunc gop ps assign body).wpIn F n P Q a w := by
  refine wpIn_rangeFunc fun fn hfn => ?_
  rw [hro]
  let rec0 (st : LoopState) (pe : Option Code) : Loop := { state := st, pending := pe, fn, tmps := a.tmps, params := ps, assign, body, defers := w.heap.size }
  have hsz1 : (w.alloc (.deferred (some []))).heap.size = w.heap.size + 1 := by simp
  have hkept : Kept w.heap.size (rec0 .ready none) ((w.alloc (.deferred (some []))).alloc (.loop (rec0 .ready none))) := by
    refine ⟨?_, (Below.heap_alloc _ _ _ (by simp)).trans (World.alloc_heap_new w _)⟩
    have := World.alloc_heap_new (w.alloc (.deferred (some []))) (.loop (rec0 .ready none))
    rwa [hsz1] at this
  have hI1 : I [] ((w.alloc (.deferred (some []))).alloc (.loop (rec0 .ready none))) :=
    hI _ _ _ _ (hI _ _ _ _ h0 (World.grownBy_alloc w _ (some w.heap.size)) (.inl rfl)) (World.grownBy_alloc _ _ (some w.heap.size)) (.inl rfl)
  have hb1 : Below w.heap.size w ((w.alloc (.deferred (some []))).alloc (.loop (rec0 .ready none))) := ((Below.refl _ w).alloc (Nat.le_refl _) _).alloc (by simp) _
  generalize hW1 : (w.alloc (.deferred (some []))).alloc (.loop (rec0 .ready none)) = W1 at hkept hI1 hb1
  refine ⟨w.heap.size + 1, [{ target := .collected w.heap.size, args := #[] }], W1, { target := .fn (.func gf) lb, args := #[.func (.yield (w.heap.size + 1)) #[] #[]] }, W1, gf,
    #[.func (.yield (w.heap.size + 1)) #[] #[]] ++ lb, W1, ?_, ?_, ?_, ?_, fun _ => h1, ?_⟩
  · rw [← hW1]; exact run_enterLoop_outer _ _ _ _ _
  · simp only [resolve, hv]
    simp [go_sem]
  · intro f hf; simp [Target.leads] at hf; exact hf ▸ hF
  · simp [invoke, go_sem, en]
  have hround : ∀ (pre : List α) (x : α) (X : World), Gd (pre ++ [x]) → (I pre X ∧ Kept w.heap.size (rec0 .ready none) X) →
      YieldAt F (n - 1 - 1) P (w.heap.size + 1) (encs x) X fun e Y =>
        (e = .returned (.bool true) ∧ (I (pre ++ [x]) Y ∧ Kept w.heap.size (rec0 .ready none) Y) ∧ Kb K X Y) ∨
        (e = .returned (.bool false) ∧ (Ix (pre ++ [x]) Y ∧ Kept w.heap.size (rec0 .done (some .ret)) Y)) := by
    rintro pre x X hgd ⟨hi, hk⟩
    refine ⟨fn, _, assign, body, run_yield (P := P) (args := encs x) hk.1 (hps x), roundIn_of_wpIn hfn (hassign _ x X _ ⟨_, run_beginRound hk.1 rfl, ?_⟩)⟩
    have hnK : ¬ K (w.heap.size + 1) := fun h => by have := hnw _ h; omega
    have hbz : Kb K X (X.putObj (w.heap.size + 1) (.loop { rec0 .ready none with state := .busy })) := Kb.putObj _ hnK
    have hkz := hk.put (rec0 .busy none)
    refine wpIn_mono (hbody _ pre x _ hgd (by have := lt_of_heap hk.1; simp; omega) (hI _ _ _ _ hi (grownBy_putObj' X (w.heap.size + 1) _) (.inr (.inl rfl)))) ?_
    rintro e a3 Z hp
    cases e with
    | normal =>
      obtain ⟨hkp, hbl, hi3⟩ := hp
      have hkZ := hkz.keeps hkp
      exact ⟨_, _, run_endRound (P := P) none hkZ.1, .inl ⟨rfl, ⟨hI _ _ _ _ hi3 (grownBy_putObj' Z (w.heap.size + 1) _) (.inr (.inl rfl)), hkZ.put _⟩, (hbz.trans hbl).trans (Kb.putObj _ hnK)⟩⟩
    | ret =>
      obtain ⟨hkp, hi3⟩ := hp
      have hkZ := hkz.keeps hkp
      exact ⟨_, _, run_endRound (P := P) (some .ret) hkZ.1, .inr ⟨rfl, hIx _ _ _ _ hi3 (grownBy_putObj' Z (w.heap.size + 1) _) (.inr rfl), hkZ.put _⟩⟩
    | exit _ => exact hp.elim
    | goto _ => exact hp.elim
    | panic _ => exact hp.elim
    | outgrown => exact hp.elim
  refine (hseq (w.heap.size + 1) (fun pre X => I pre X ∧ Kept w.heap.size (rec0 .ready none) X) (fun pre X => Ix pre X ∧ Kept w.heap.size (rec0 .done (some .ret)) X) W1 hb1
    (fun s X Y h hg => ⟨hI _ _ _ _ h.1 hg (.inr (.inr rfl)), h.2.grown hg (hnw _ hgn)⟩) hround ⟨hI1, hkept⟩).mono ?_
  rintro e Y ⟨⟨v, rfl⟩, (⟨xs, hs, hi, hk⟩ | ⟨pre, hs, hi, hk⟩)⟩
  · exact ⟨none, _, run_endLoop (P := P) hk.1 (by simp [rec0]), hdone _ xs _ rfl (hS _ _ _ _ hs (grownBy_putObj' Y (w.heap.size + 1) _) (.inr rfl)) (hI _ _ _ _ hi (grownBy_putObj' Y (w.heap.size + 1) _) (.inr (.inl rfl))) (hk.put { rec0 .ready none with state := .exhausted }).2⟩
  · exact ⟨some .ret, _, run_endLoop (P := P) hk.1 (by simp [rec0]), hstop _ pre _ rfl hs (hIx _ _ _ _ hi (grownBy_putObj' Y (w.heap.size + 1) _) (.inr rfl)) (hk.put { rec0 .done (some .ret) with state := .exhausted }).2⟩

end Go.Proofs.Ytejngjhdmneaiaa


namespace Go.Proofs.Ytejngjhdmneaiaa
set_option maxRecDepth 100000
open Go.RowKit Go.Shelf
attribute [local go_sem] Oper.semAt_some

/-- The pointer to part k of the mass at block g. -/
def pptr (g k : Nat) : Value := .pointer (some ⟨g, 3 * k, none⟩)
/-- The first k parts' numbers. -/
def fst (k : Nat) : List Nat := upto (fun j => j) k

theorem fst_length (k : Nat) : (fst k).length = k := by unfold fst; exact upto_length _ _
/-- A front of the parts, in order. -/
def Pre4 (s : List (Idx 4)) : Prop := s.map (·.1) = fst s.length
theorem pre4_of {s : List (Idx 4)} {k : Nat} (h : s.map (·.1) = fst k) : Pre4 s := by
  have e := congrArg List.length h
  rw [List.length_map, fst_length] at e
  unfold Pre4
  rw [e]
  exact h
theorem Pre4.front {s : List (Idx 4)} {x : Idx 4} (h : Pre4 (s ++ [x])) : x.1 = s.length ∧ Pre4 s := by
  unfold Pre4 at h
  rw [List.length_append, List.length_singleton, List.map_append, show fst (s.length + 1) = fst s.length ++ [s.length] by unfold fst; rw [upto_succ]] at h
  have e := List.append_inj h (by rw [List.length_map, fst_length])
  exact ⟨by simpa using e.2, e.1⟩

set_option maxRecDepth 100000 in
set_option maxHeartbeats 4000000 in
theorem parts1_in (n : Nat) (hn : 1 ≤ n) (l Bs g : Nat) (R : World → World → Prop) (J Jx : List (Idx 4) → World → Prop)
    (hdr : ∀ W W' m, R W W' → R W (W'.drewN m)) (htr : ∀ W W' W'', R W W' → R W' W'' → R W W'')
    (hJd : ∀ pre W m, J pre W → J pre (W.drewN m))
    (hY : ∀ pre x W, J pre W → Pre4 (pre ++ [x]) → YieldAt Fence.wide (n - 1) Try.prog l #[pptr g x.1] W fun e W' =>
      (e = .returned (.bool true) ∧ J (pre ++ [x]) W' ∧ R W W') ∨ (e = .returned (.bool false) ∧ Jx (pre ++ [x]) W'))
    (W : World) (hR0 : R W W) (hBs : W.cell? ⟨Bs, 0, none⟩ = some (.pointer (some ⟨g, 0, none⟩))) (h0 : J [] W) :
    CallsIn Fence.wide n Try.prog 67 #[.func (.yield l) #[] #[], .pointer (some ⟨Bs, 0, none⟩)] W fun e W' => (∃ v, e = .returned v) ∧
      ((∃ ys : List (Idx 4), ys.map (·.1) = fst 4 ∧ J ys W') ∨ (∃ pre : List (Idx 4), (∃ k, k ≤ 4 ∧ pre.map (·.1) = fst k) ∧ Jx pre W')) := by
  have i0 : ∀ w : World, (Instr.index 99 (.agg #[.pointer (some ⟨g, 0, none⟩), .pointer (some ⟨g, 3, none⟩), .pointer (some ⟨g, 6, none⟩), .pointer (some ⟨g, 9, none⟩)]) (.int .i64 0)).run Try.prog w = .ok (.pointer (some ⟨g, 0, none⟩)) w := fun _ => by kernel_rfl
  have i1 : ∀ w : World, (Instr.index 99 (.agg #[.pointer (some ⟨g, 0, none⟩), .pointer (some ⟨g, 3, none⟩), .pointer (some ⟨g, 6, none⟩), .pointer (some ⟨g, 9, none⟩)]) (.int .i64 1)).run Try.prog w = .ok (.pointer (some ⟨g, 3, none⟩)) w := fun _ => by kernel_rfl
  have i2 : ∀ w : World, (Instr.index 99 (.agg #[.pointer (some ⟨g, 0, none⟩), .pointer (some ⟨g, 3, none⟩), .pointer (some ⟨g, 6, none⟩), .pointer (some ⟨g, 9, none⟩)]) (.int .i64 2)).run Try.prog w = .ok (.pointer (some ⟨g, 6, none⟩)) w := fun _ => by kernel_rfl
  have i3 : ∀ w : World, (Instr.index 99 (.agg #[.pointer (some ⟨g, 0, none⟩), .pointer (some ⟨g, 3, none⟩), .pointer (some ⟨g, 6, none⟩), .pointer (some ⟨g, 9, none⟩)]) (.int .i64 3)).run Try.prog w = .ok (.pointer (some ⟨g, 9, none⟩)) w := fun _ => by kernel_rfl
  refine callsIn_of_wp Try.func67 rfl trivial ?_ rfl
  simp only [Try.ntmps67, List.size_toArray, List.length_cons, List.length_nil, Nat.reduceAdd, Nat.reduceSub, Array.replicate_succ, Array.replicate_zero, List.push_toArray, List.append_toArray, List.nil_append, List.cons_append]
  gi_wp2
  gi_quiet (fail)
  gi_wp2
  gi_loopw [18] (fun i wr => ∃ (k : Nat) (pre : List (Idx 4)), k ≤ 4 ∧ i = .int .i64 (k : Int) ∧ pre.map (·.1) = fst k ∧ J pre wr ∧ R W wr)
    (fun i _ => 4 - (intOf i).toNat)
  case atStart => exact ⟨0, [], by omega, rfl, rfl, hJd _ _ _ h0, hdr _ _ _ hR0⟩
  case round =>
    obtain ⟨k, pre, hk, rfl, hpre, hJs, hRr⟩ := hrel
    by_cases hk4 : k < 4
    · have hk1 : k + 1 ≤ 4 := by omega
      have hb : (pre ++ [(⟨k, hk4⟩ : Idx 4)]).map (·.1) = fst (k + 1) := by
        unfold fst at hpre ⊢
        rw [List.map_append, hpre, upto_succ]
        rfl
      obtain ⟨fn, tmps, assign, body, hy, hR⟩ := hY pre ⟨k, hk4⟩ wr hJs (pre4_of hb)
      dsimp only at hy
      unfold pptr at hy
      have hc : k = 0 ∨ k = 1 ∨ k = 2 ∨ k = 3 := by omega
      rcases hc with rfl | rfl | rfl | rfl
      all_goals
        simp only [Nat.mul_zero, Nat.mul_one, Nat.reduceMul] at hy
        gi_wp2
        refine hR.mono ?_
        rintro e W3 (⟨rfl, hJ3, hR3⟩ | ⟨rfl, hJx3⟩)
        · gi_wp2
          go_roundw
          case rel => exact ⟨_, _, hk1, rfl, hb, hJ3, htr _ _ _ hRr hR3⟩
          case measure => simp [intOf]
        · gi_wp2
          refine bodyPost_ret (results_none rfl _ _ _) rfl ?_
          exact ⟨⟨_, rfl⟩, .inr ⟨_, ⟨_, hk1, hb⟩, hJx3⟩⟩
    · obtain rfl : k = 4 := by omega
      gi_wp2
      go_end0
      exact ⟨⟨_, rfl⟩, .inl ⟨_, hpre, hJs⟩⟩

theorem grownBy_drewN (W : World) (m : Nat) (r : Option Nat) : W.grownBy (W.drewN m) r := ⟨rfl, rfl, rfl, Nat.le_refl _, fun _ _ _ => rfl⟩

/-- parts$1, as the law of a loop over an iterator wants it. -/
theorem parts_comes (n : Nat) (hn : 1 ≤ n) {Bs g : Nat} {K : Nat → Prop} {w : World} (hBs : w.cell? ⟨Bs, 0, none⟩ = some (.pointer (some ⟨g, 0, none⟩))) (hlt : Bs < w.heap.size) :
    Comes Fence.wide n Try.prog 67 #[.pointer (some ⟨Bs, 0, none⟩)] (fun x : Idx 4 => #[pptr g x.1]) K Bs (fun ys _ => ys.map (·.1) = fst 4) (fun pre => ∃ k, k ≤ 4 ∧ pre.map (·.1) = fst k) w := by
  intro l J Jx W hW hJg hY h0
  refine parts1_in n hn l Bs g (Kb K) J Jx (fun W W' m h => ⟨h.size, h.block⟩) (fun _ _ _ h k => h.trans k) (fun pre W m h => hJg _ _ _ h (grownBy_drewN W m _)) (fun pre x W h _ => hY pre x W h) W (Kb.refl K W) ((hW.cell (p := ⟨Bs, 0, none⟩) hlt).trans hBs) h0

/-- parts$1, as XMover's law of a loop wants it. -/
theorem parts_comesG (n : Nat) (hn : 1 ≤ n) {Bs g : Nat} {K : Nat → Prop} {w : World} (hBs : w.cell? ⟨Bs, 0, none⟩ = some (.pointer (some ⟨g, 0, none⟩))) (hlt : Bs < w.heap.size) :
    ComesG Fence.wide n Try.prog 67 #[.pointer (some ⟨Bs, 0, none⟩)] (fun x : Idx 4 => #[pptr g x.1]) K Bs Pre4 (fun ys _ => ys.map (·.1) = fst 4) (fun pre => ∃ k, k ≤ 4 ∧ pre.map (·.1) = fst k) w := by
  intro l J Jx W hW hJg hY h0
  refine parts1_in n hn l Bs g (Kb K) J Jx (fun W W' m h => ⟨h.size, h.block⟩) (fun _ _ _ h k => h.trans k) (fun pre W m h => hJg _ _ _ h (grownBy_drewN W m _)) (fun pre x W h hg => hY pre x W hg h) W (Kb.refl K W) ((hW.cell (p := ⟨Bs, 0, none⟩) hlt).trans hBs) h0

set_option maxHeartbeats 1000000 in
theorem parts_any (n : Nat) (g : Nat) (w : World) :
    CallsIn Fence.wide n Try.prog 55 #[.pointer (some ⟨g, 0, none⟩)] w fun e w' => e = .returned (.func (.func 67) #[] #[.pointer (some ⟨w.heap.size, 0, none⟩)]) ∧ w' = w.alloc (.cells #[.pointer (some ⟨g, 0, none⟩)] 81) := by
  refine callsIn_of_wp Try.func55 rfl trivial ?_ rfl
  simp only [Try.ntmps55, List.size_toArray, List.length_cons, List.length_nil, Nat.reduceAdd, Nat.reduceSub, Array.replicate_succ, Array.replicate_zero, List.push_toArray, List.append_toArray, List.nil_append, List.cons_append]
  gi_wp2
  go_ret
  exact ⟨rfl, rfl⟩

end Go.Proofs.Ytejngjhdmneaiaa


namespace Go.Proofs.Ytejngjhdmneaiaa
set_option maxRecDepth 100000
open Go.RowKit

theorem and_one_u32 (x : Nat) (hx : x < 4294967296) : bits BinOp.and IntKind.u32 (x : Int) 1 = ((x % 2 : Nat) : Int) := by
  have h := bit_u32 x 0 hx
  simpa using h

set_option maxHeartbeats 400000 in
theorem lowest_nil (A : Option Addr) (c : Nat) (w : World) :
    Calls Try.prog 69 #[.slice A 0 c] w fun e w' => e = .returned (.int .u32 0) ∧ w = w' := by
  go_enter Try.func69, Try.ntmps69
  go_wp2
  go_ret
  exact ⟨rfl, rfl⟩
set_option maxHeartbeats 400000 in
theorem lowest_pos (b off n c x : Nat) (w : World) (h0 : 0 < n) (_hc : n ≤ c) (_hm : n ≤ 140737488355328) (hl : x < 4294967296) (hx : w.cell? ⟨b, off, none⟩ = some (.int .u32 (x : Int))) :
    Calls Try.prog 69 #[.slice (some ⟨b, off, none⟩) n c] w fun e w' => e = .returned (.int .u32 ((x % 2 : Nat) : Int)) ∧ w = w' := by
  have hn : ((n : Int) == 0) = false := by simp; omega
  have e := and_one_u32 x hl
  go_enter Try.func69, Try.ntmps69
  go_wp2
  go_ret
  exact ⟨rfl, rfl⟩
theorem lowest_any {B : Nat} {A : Option Addr} {n c : Nat} {f : Nat → Nat} {w : World} (h : Rd w B A n c f) :
    Calls Try.prog 69 #[.slice A n c] w fun e w' => e = .returned (.int .u32 ((f 0 % 2 : Nat) : Int)) ∧ w = w' := by
  rcases Nat.eq_zero_or_pos n with h0 | h0
  · subst h0
    rw [h.out 0 (Nat.le_refl _)]
    exact lowest_nil A c w
  · obtain ⟨b, off, rfl, _, hc⟩ := h.at_ h0
    have := hc 0 h0
    exact lowest_pos b off n c _ w h0 h.cap h.max (h.lt 0) this

/-- May a dyad be? -/
def DMay (s : Bool) (n : Nat) (f : Nat → Nat) (x : Int) : Prop := Fit n f ∧ 0 ≤ x ∧ x ≤ 1024 ∧ (n = 0 → s = false) ∧ (0 < x → f 0 % 2 = 1)

instance (s : Bool) (n : Nat) (f : Nat → Nat) (x : Int) : Decidable (DMay s n f x) := by unfold DMay; infer_instance

/-- Check's number. -/
def dchk (s : Bool) (n : Nat) (f : Nat → Nat) (x : Int) : Int := if DMay s n f x then 0 else 8

set_option maxHeartbeats 800000 in
theorem dcheck_any {A : Option Addr} {n c : Nat} {f : Nat → Nat} {w : World} (h : Rd w w.heap.size A n c f) (s : Bool) (x : Int) :
    Calls Try.prog 56 #[.agg #[.bool s, .slice A n c, .int .i64 x]] w fun e w' => e = .returned (.int .i64 (dchk s n f x)) ∧ Below w.heap.size w w' := by
  have bel : Below w.heap.size w (w.alloc (.cells #[.bool s, .slice A n c, .int .i64 x] 25)) := (Below.refl _ w).alloc (Nat.le_refl _) _
  have Cc := hid (check_any (h.below bel))
  have Cl := hid (lowest_any (h.below bel))
  have Hb := hid bel
  clear bel
  by_cases hf : Fit n f
  · rw [chk_fit hf] at Cc
    have hm := h.max
    by_cases hx0 : x < 0
    · have hd : dchk s n f x = 8 := if_neg (fun h => by have := h.2.1; omega)
      rw [hd]
      clear hd hf h Cl
      go_enter Try.func56, Try.ntmps56
      go_wp2_with fail
      refine Cc.out.mono ?_
      rintro e w' ⟨rfl, rfl⟩
      go_wp2
      go_ret
      exact ⟨rfl, Hb.out⟩
    · by_cases hx1 : 1024 < x
      · have hd : dchk s n f x = 8 := if_neg (fun h => by have := h.2.2.1; omega)
        rw [hd]
        clear hd hf h Cl
        go_enter Try.func56, Try.ntmps56
        go_wp2_with fail
        refine Cc.out.mono ?_
        rintro e w' ⟨rfl, rfl⟩
        go_wp2
        go_ret
        exact ⟨rfl, Hb.out⟩
      · have he := @id (n = 0 ∧ s = true ∨ (n = 0 → s = false)) (by cases s <;> simp; omega)
        rcases he with ⟨rfl, rfl⟩ | hs
        · have hd : dchk true 0 f x = 8 := if_neg (fun h => by have := h.2.2.2.1 rfl; cases this)
          rw [hd]
          clear hd hf h Cl
          go_enter Try.func56, Try.ntmps56
          go_wp2_with fail
          refine Cc.out.mono ?_
          rintro e w' ⟨rfl, rfl⟩
          go_wp2
          go_ret
          exact ⟨rfl, Hb.out⟩
        · by_cases hx2 : 0 < x
          · by_cases hp : f 0 % 2 = 1
            · have hd : dchk s n f x = 0 := if_pos ⟨hf, by omega, by omega, hs, fun _ => hp⟩
              rw [hd]
              rw [hp] at Cl
              have hn0 : n ≠ 0 := by
                rintro rfl
                rw [h.out 0 (Nat.le_refl _)] at hp
                cases hp
              have hn1 : ((n : Int) == 0) = false := by simp; omega
              clear hd hf h hs hp
              go_enter Try.func56, Try.ntmps56
              go_wp2_with fail
              refine Cc.out.mono ?_
              rintro e w' ⟨rfl, rfl⟩
              go_wp2_with fail
              refine Cl.out.mono ?_
              rintro e w' ⟨rfl, rfl⟩
              go_wp2
              go_ret
              exact ⟨rfl, Hb.out⟩
            · have hd : dchk s n f x = 8 := if_neg (fun h => hp (h.2.2.2.2 hx2))
              rw [hd]
              have hp0 : f 0 % 2 = 0 := by omega
              rw [hp0] at Cl
              have he2 := @id (n = 0 ∧ s = false ∨ ((n : Int) == 0) = false) (by
                rcases Nat.eq_zero_or_pos n with h0 | h0
                · exact .inl ⟨h0, hs h0⟩
                · right; simp; omega)
              clear hd hf h hs hp hp0
              rcases he2 with ⟨rfl, rfl⟩ | hn1
              all_goals
                go_enter Try.func56, Try.ntmps56
                go_wp2_with fail
                refine Cc.out.mono ?_
                rintro e w' ⟨rfl, rfl⟩
                go_wp2_with fail
                refine Cl.out.mono ?_
                rintro e w' ⟨rfl, rfl⟩
                go_wp2
                go_ret
                exact ⟨rfl, Hb.out⟩
          · have hd : dchk s n f x = 0 := if_pos ⟨hf, by omega, by omega, hs, fun h => absurd h hx2⟩
            rw [hd]
            have he2 := @id (n = 0 ∧ s = false ∨ ((n : Int) == 0) = false) (by
              rcases Nat.eq_zero_or_pos n with h0 | h0
              · exact .inl ⟨h0, hs h0⟩
              · right; simp; omega)
            clear hd hf h hs Cl
            rcases he2 with ⟨rfl, rfl⟩ | hn1
            all_goals
              go_enter Try.func56, Try.ntmps56
              go_wp2_with fail
              refine Cc.out.mono ?_
              rintro e w' ⟨rfl, rfl⟩
              go_wp2
              go_ret
              exact ⟨rfl, Hb.out⟩
  · rw [chk_bad hf] at Cc
    have hd : dchk s n f x = 8 := if_neg (fun h => hf h.1)
    rw [hd]
    clear hd hf h
    go_enter Try.func56, Try.ntmps56
    go_wp2_with fail
    refine Cc.out.mono ?_
    rintro e w' ⟨rfl, rfl⟩
    go_wp2
    go_ret
    exact ⟨rfl, Hb.out⟩

end Go.Proofs.Ytejngjhdmneaiaa

