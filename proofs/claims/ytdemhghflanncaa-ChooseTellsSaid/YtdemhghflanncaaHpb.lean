/- A loop over a method value, or over whatever function, whose rounds may leave a block further out; what a loop's mark asks where the function returns. No program is named here. -/
/- The program's left.each: those that are left come, with their places. -/
/- A region that draws its order, within a round of a range over a function: the walk that takes loads first (of Derived/OrdersHeld) serves there too. No program is named here. -/
/- What stays where blocks turn that are no cells; a row of numbers in a round. -/
/- The program's Draws. -/
import Derived.RangeFuncNested
import Derived.RangeFuncLeaves
import Derived.RangeFuncRecord
import Derived.RangeFuncBound
import Derived.RangeFuncCalls
import Derived.RangeFuncBox
import Derived.Shelf.RegionOpen
import Derived.OwnWalkIn
import Derived.TacticsInMore
import Derived.LoopNIn
import Derived.LoopIn
import Derived.Test.YtdemhghflanncaaKds
import Derived.Deep.RegionHeld3
import Derived.TacticsIn
import Derived.OrdersIn
import Derived.Test.YtdemhghflanncaaHpa

namespace Go.Proofs.Ytdemhghflanncaa
open Go.RowKit

/-- The blocks of K lie as they lay. -/
structure Kb (K : Nat → Prop) (W W' : World) : Prop where
  size : W.heap.size ≤ W'.heap.size
  block : ∀ b, K b → W'.heap[b]? = W.heap[b]?
theorem Kb.trans {K : Nat → Prop} {A B C : World} (h : Kb K A B) (k : Kb K B C) : Kb K A C := ⟨Nat.le_trans h.size k.size, fun b hb => (k.block b hb).trans (h.block b hb)⟩
theorem Kb.refl (K : Nat → Prop) (W : World) : Kb K W W := ⟨Nat.le_refl _, fun _ _ => rfl⟩
theorem Kb.putObj {K : Nat → Prop} {W : World} {l : Nat} (o : Obj) (hl : ¬ K l) : Kb K W (W.putObj l o) := ⟨by simp, fun b hb => World.putObj_heap_other (by rintro rfl; exact hl hb)⟩
theorem Kb.of_below {N : Nat} {W W' : World} (h : Below N W W') : Kb (fun b => b < N) W W' := ⟨h.size, fun b hb => h.block b hb⟩

/-- The loop's two blocks lie as the loop wants them. -/
def Kept (k : Nat) (r : Loop) (W : World) : Prop := W.heap[k + 1]? = some (.loop r) ∧ W.heap[k]? = some (.deferred (some []))
theorem Kept.none {k : Nat} {r : Loop} {X Y : World} (h : Kept k r X) (hg : X.grownBy Y none) : Kept k r Y :=
  ⟨(hg.block _ (Array.getElem?_eq_some_iff.1 h.1).1 (by simp)).trans h.1, (hg.block _ (Array.getElem?_eq_some_iff.1 h.2).1 (by simp)).trans h.2⟩
theorem Kept.keeps {k : Nat} {r : Loop} {X Y : World} (h : Kept k r X) (hk : KeepsFrom k X Y) : Kept k r Y := ⟨hk.same _ _ (by omega) h.1 rfl, hk.same _ _ (Nat.le_refl _) h.2 rfl⟩
theorem Kept.put {k : Nat} {r : Loop} {X : World} (h : Kept k r X) (r' : Loop) : Kept k r' (X.putObj (k + 1) (.loop r')) :=
  ⟨World.putObj_heap_same (Array.getElem?_eq_some_iff.1 h.1).1, (World.putObj_heap_other (by omega)).trans h.2⟩

/-- How the body of a round may be left: it goes on, or it leaves a block further out. -/
def outE {α : Type} (k : Nat) (K : Nat → Prop) (I : List α → World → Prop) (Ix : Nat → List α → World → Prop) (xs : List α) (W : World) : Exit → Act → World → Prop
  | .normal, _, W' => KeepsFrom k W W' ∧ Kb K W W' ∧ I xs W'
  | .exit id, _, W' => KeepsFrom k W W' ∧ Ix id xs W'
  | _, _, _ => False

/-- What an iterator keeps to that writes nothing but new memory, where each front of what comes is as Gd says. -/
def ComesE {α : Type} (F : Fence) (n : Nat) (P : Program) (gf : Nat) (bd lb : Array Value) (encs : α → Array Value) (K : Nat → Prop) (Gd : List α → Prop) (S Sp : List α → Prop) (w : World) : Prop :=
  ∀ (l : Nat) (J Jx : List α → World → Prop) (W : World), Below w.heap.size w W → (∀ s X Y, J s X → X.grownBy Y none → J s Y) →
    (∀ pre x X, Gd (pre ++ [x]) → J pre X → YieldAt F (n - 1) P l (encs x) X fun e Y => (e = .returned (.bool true) ∧ J (pre ++ [x]) Y ∧ Kb K X Y) ∨ (e = .returned (.bool false) ∧ Jx (pre ++ [x]) Y)) →
    J [] W → CallsIn F n P gf (bd ++ #[.func (.yield l) #[] #[]] ++ lb) W fun e Y => (∃ v, e = .returned v) ∧ ((∃ xs, S xs ∧ J xs Y) ∨ ∃ pre, Sp pre ∧ Jx pre Y)

set_option maxHeartbeats 1000000 in
theorem range_overE {F : Fence} {n : Nat} {P : Program} {α : Type} {gop : Operand} {ps : Array Tmp} {assign body : Code} {Q : Exit → Act → World → Prop} {a : Act} {w : World}
    (hro : F.round = none) (h1 : 1 ≤ n) {gf : Nat} {bd lb : Array Value} (hv : a.eval gop = .func (.func gf) bd lb) (hF : F.fn gf) (en : ∀ args w, (callFunc gf args).run P w = .ok (.enter gf args) w)
    {encs : α → Array Value} {K : Nat → Prop} (hnw : ∀ b, K b → b < w.heap.size) {Gd S Sp : List α → Prop} (hseq : ComesE F (n - 1) P gf bd lb encs K Gd S Sp w) (hps : ∀ x, (encs x).size = ps.size)
    (I : List α → World → Prop) (Ix : Nat → List α → World → Prop) (hI : ∀ s X Y r, I s X → X.grownBy Y r → (r = none ∨ r = some w.heap.size ∨ r = some (w.heap.size + 1)) → I s Y)
    (hIx : ∀ id s X Y r, Ix id s X → X.grownBy Y (some r) → (r = w.heap.size ∨ r = w.heap.size + 1) → (∃ o, X.heap[r]? = some o ∧ o.isCells = false) → Ix id s Y) (h0 : I [] w)
    (Ax : α → Act → World → Prop) (hAx : ∀ x a' X Y, Ax x a' X → X.grownBy Y (some (w.heap.size + 1)) → Ax x a' Y)
    (hassign : ∀ (l : Nat) (pre : List α) (x : α) (W : World) (K' : Act → World → Prop), Gd (pre ++ [x]) → w.heap.size + 2 ≤ W.heap.size → I pre W → (∀ a' W', KeepsFrom w.heap.size W W' → Kb K W W' → I pre W' → Ax x a' W' → K' a' W') →
      assign.wpIn (F.inRound l) (n - 1 - 1) P (Exit.then K' (fun _ _ _ => False)) { tmps := (ps.zip (encs x)).foldl (fun t (p, v) => t.setIfInBounds p v) a.tmps, defers := [] } W)
    (hbody : ∀ (l : Nat) (pre : List α) (x : α) (a' : Act) (W : World), Gd (pre ++ [x]) → w.heap.size + 2 ≤ W.heap.size → I pre W → Ax x a' W → body.wpIn (F.inRound l) (n - 1 - 1) P (outE w.heap.size K I Ix (pre ++ [x]) W) a' W)
    (hdone : ∀ (xs : List α) (W : World), S xs → I xs W → W.heap[w.heap.size]? = some (.deferred (some [])) → Q .normal { a with defers := { target := .collected w.heap.size, args := #[] } :: a.defers } W)
    (hstop : ∀ (id : Nat) (pre : List α) (W : World), Sp pre → Ix id pre W → W.heap[w.heap.size]? = some (.deferred (some [])) → (Code.exit id).wpIn F n P Q { a with defers := { target := .collected w.heap.size, args := #[] } :: a.defers } W) :
    (Code.rangeFunc gop ps assign body).wpIn F n P Q a w := by
  refine wpIn_rangeFunc fun fn hfn => ?_
  rw [hro]
  let rec0 (st : LoopState) (pe : Option Code) : Loop := { state := st, pending := pe, fn, tmps := a.tmps, params := ps, assign, body, defers := w.heap.size }
  have hsz1 : (w.alloc (.deferred (some []))).heap.size = w.heap.size + 1 := by simp
  have hkept : Kept w.heap.size (rec0 .ready none) ((w.alloc (.deferred (some []))).alloc (.loop (rec0 .ready none))) := by
    refine ⟨?_, (Below.heap_alloc _ _ _ (by simp)).trans (World.alloc_heap_new w _)⟩
    have := World.alloc_heap_new (w.alloc (.deferred (some []))) (.loop (rec0 .ready none))
    rwa [hsz1] at this
  have hI1 : I [] ((w.alloc (.deferred (some []))).alloc (.loop (rec0 .ready none))) :=
    hI _ _ _ _ (hI _ _ _ _ h0 (World.grownBy_alloc w _ none) (.inl rfl)) (World.grownBy_alloc _ _ none) (.inl rfl)
  have hb1 : Below w.heap.size w ((w.alloc (.deferred (some []))).alloc (.loop (rec0 .ready none))) := ((Below.refl _ w).alloc (Nat.le_refl _) _).alloc (by simp) _
  generalize hW1 : (w.alloc (.deferred (some []))).alloc (.loop (rec0 .ready none)) = W1 at hkept hI1 hb1
  refine ⟨w.heap.size + 1, [{ target := .collected w.heap.size, args := #[] }], W1, { target := .fn (.func gf) lb, args := bd ++ #[.func (.yield (w.heap.size + 1)) #[] #[]] }, W1, gf,
    bd ++ #[.func (.yield (w.heap.size + 1)) #[] #[]] ++ lb, W1, ?_, ?_, ?_, ?_, fun _ => h1, ?_⟩
  · rw [← hW1]; exact run_enterLoop_outer _ _ _ _ _
  · simp only [resolve, hv]
    simp [go_sem]
  · intro f hf; simp [Target.leads] at hf; exact hf ▸ hF
  · simp [invoke, go_sem, en]
  have hnK : ¬ K (w.heap.size + 1) := fun h => by have := hnw _ h; omega
  have hround : ∀ (pre : List α) (x : α) (X : World), Gd (pre ++ [x]) → (I pre X ∧ Kept w.heap.size (rec0 .ready none) X) →
      YieldAt F (n - 1 - 1) P (w.heap.size + 1) (encs x) X fun e Y =>
        (e = .returned (.bool true) ∧ (I (pre ++ [x]) Y ∧ Kept w.heap.size (rec0 .ready none) Y) ∧ Kb K X Y) ∨
        (e = .returned (.bool false) ∧ (∃ id, Ix id (pre ++ [x]) Y ∧ Kept w.heap.size (rec0 .done (some (.exit id))) Y)) := by
    rintro pre x X hgd ⟨hi, hk⟩
    have hlt := (Array.getElem?_eq_some_iff.1 hk.1).1
    refine ⟨fn, _, assign, body, run_yield (P := P) (args := encs x) hk.1 (hps x), roundIn_of_wpIn hfn (hassign _ pre x X _ hgd (by omega) hi ?_)⟩
    intro a' Xa hka hba hia hax
    have hk' := hk.keeps hka
    have hlt' := (Array.getElem?_eq_some_iff.1 hk'.1).1
    refine ⟨_, run_beginRound hk'.1 rfl, ?_⟩
    have hbz : Kb K Xa (Xa.putObj (w.heap.size + 1) (.loop { rec0 .ready none with state := .busy })) := Kb.putObj _ hnK
    have hkz := hk'.put (rec0 .busy none)
    refine wpIn_mono (hbody _ pre x a' _ hgd (by simp; omega) (hI _ _ _ _ hia (grownBy_putObj' Xa (w.heap.size + 1) _) (.inr (.inr rfl))) (hAx _ _ _ _ hax (grownBy_putObj' Xa (w.heap.size + 1) _))) ?_
    rintro e a3 Z hp
    cases e with
    | normal =>
      obtain ⟨hkp, hbl, hi3⟩ := hp
      have hkZ := hkz.keeps hkp
      exact ⟨_, _, run_endRound (P := P) none hkZ.1, .inl ⟨rfl, ⟨hI _ _ _ _ hi3 (grownBy_putObj' Z (w.heap.size + 1) _) (.inr (.inr rfl)), hkZ.put _⟩, ((hba.trans hbz).trans hbl).trans (Kb.putObj _ hnK)⟩⟩
    | exit id =>
      obtain ⟨hkp, hi3⟩ := hp
      have hkZ := hkz.keeps hkp
      exact ⟨_, _, run_endRound (P := P) (some (.exit id)) hkZ.1, .inr ⟨rfl, id, hIx _ _ _ _ _ hi3 (grownBy_putObj' Z (w.heap.size + 1) _) (.inr rfl) ⟨_, hkZ.1, rfl⟩, hkZ.put _⟩⟩
    | ret => exact hp.elim
    | goto _ => exact hp.elim
    | panic _ => exact hp.elim
    | outgrown => exact hp.elim
  refine (hseq (w.heap.size + 1) (fun pre X => I pre X ∧ Kept w.heap.size (rec0 .ready none) X) (fun pre X => ∃ id, Ix id pre X ∧ Kept w.heap.size (rec0 .done (some (.exit id))) X) W1 hb1
    (fun s X Y h hg => ⟨hI _ _ _ _ h.1 hg (.inl rfl), h.2.none hg⟩) hround ⟨hI1, hkept⟩).mono ?_
  rintro e Y ⟨⟨v, rfl⟩, (⟨xs, hs, hi, hk⟩ | ⟨pre, hs, id, hi, hk⟩)⟩
  · exact ⟨none, _, run_endLoop (P := P) hk.1 (by simp [rec0]), hdone xs _ hs (hI _ _ _ _ hi (grownBy_putObj' Y (w.heap.size + 1) _) (.inr (.inr rfl))) (hk.put { rec0 .ready none with state := .exhausted }).2⟩
  · exact ⟨some (.exit id), _, run_endLoop (P := P) hk.1 (by simp [rec0]), hstop id pre _ hs (hIx _ _ _ _ _ hi (grownBy_putObj' Y (w.heap.size + 1) _) (.inr rfl) ⟨_, hk.1, rfl⟩) (hk.put { rec0 .done (some (.exit id)) with state := .exhausted }).2⟩

/-- The marks of loops that are over. -/
def marks (L : List Nat) : List Deferred := L.map fun D => { target := .collected D, args := #[] }
/-- Nothing but the blocks of L has turned. -/
structure Shut (L : List Nat) (W W' : World) : Prop where
  os : W'.os = W.os
  tape : W'.tape = W.tape
  output : W'.output = W.output
  size : W'.heap.size = W.heap.size
  block : ∀ b, b ∉ L → W'.heap[b]? = W.heap[b]?
theorem Shut.refl (L : List Nat) (W : World) : Shut L W W := ⟨rfl, rfl, rfl, rfl, fun _ _ => rfl⟩

/-- A function leaves by the marks of its loops. -/
theorem leave_marks {F : Fence} {n : Nat} {P : Program} {fn : Func} {tmps : Array Value} {R : Ending → World → Prop} : ∀ (L : List Nat) (w : World), L.Nodup → (∀ D ∈ L, w.heap[D]? = some (.deferred (some []))) →
    (∀ w', Shut L w w' → LeavesInM F n P fn tmps R [] .returning w') → LeavesInM F n P fn tmps R (marks L) .returning w
  | [], w, _, _, h => h w (Shut.refl _ _)
  | D :: L, w, hN, hd, h => by
    rw [List.nodup_cons] at hN
    refine ⟨by simp, .inl ⟨D, _, rfl, run_takeDeferred (hd D List.mem_cons_self), ?_⟩⟩
    refine leave_marks L _ hN.2 (fun E hE => (World.putObj_heap_other (by rintro rfl; exact hN.1 hE)).trans (hd E (List.mem_cons_of_mem _ hE))) fun w' hs => h w' ⟨hs.os, hs.tape, hs.output, by rw [hs.size]; simp, fun b hb => ?_⟩
    rw [List.mem_cons, not_or] at hb
    exact (hs.block b hb.2).trans (World.putObj_heap_other hb.1)
end Go.Proofs.Ytdemhghflanncaa


namespace Go.Proofs.Ytdemhghflanncaa
open Go.RowKit Go.Shelf
attribute [local go_sem] Oper.semAt_some

/-- The first k of a list, with their places. -/
def ups (t : List De) (k : Nat) : List (Nat × De) := (List.range k).map fun i => (i, (t[i]?).getD (0, 0))
theorem ups_succ (t : List De) (k : Nat) : ups t (k + 1) = ups t k ++ [(k, (t[k]?).getD (0, 0))] := by simp [ups, List.range_succ]
theorem ups_length (t : List De) (k : Nat) : (ups t k).length = k := by simp [ups]
/-- A front of what comes. -/
def Front (t : List De) (s : List (Nat × De)) : Prop := s = ups t s.length ∧ s.length ≤ t.length
theorem Front.last {t : List De} {s : List (Nat × De)} {x : Nat × De} (h : Front t (s ++ [x])) : x.1 = s.length ∧ t[x.1]? = some x.2 ∧ Front t s := by
  obtain ⟨h1, h2⟩ := h
  rw [List.length_append, List.length_singleton] at h1 h2
  rw [ups_succ] at h1
  have e := List.append_inj h1 (by rw [ups_length])
  have e2 : x = (s.length, (t[s.length]?).getD (0, 0)) := by simpa using e.2
  refine ⟨by rw [e2], ?_, e.1, by omega⟩
  rw [e2]
  have h3 : s.length < t.length := by omega
  rw [List.getElem?_eq_getElem h3]
  rfl
theorem front_ups {t : List De} {k : Nat} (h : k ≤ t.length) : Front t (ups t k) := ⟨by rw [ups_length], by rw [ups_length]; exact h⟩
theorem mem_ups {t : List De} {d : De} (h : d ∈ t) : ∃ x ∈ ups t t.length, x.2 = d := by
  obtain ⟨i, hi⟩ := List.mem_iff_getElem?.1 h
  have hl := (List.getElem?_eq_some_iff.1 hi).1
  exact ⟨(i, (t[i]?).getD (0, 0)), List.mem_map.2 ⟨i, List.mem_range.2 hl, rfl⟩, by rw [hi]; rfl⟩

theorem Ds.kb {W W' : World} {B n c : Nat} {A : Option Addr} {l : List De} (h : Ds W B A n c l) (hb : Kb (fun b => b < B) W W') : Ds W' B A n c l :=
  ⟨h.len, h.cap, h.max, h.nil, fun hn => by
    obtain ⟨b, off, rfl, hB, hc⟩ := h.at_ hn
    have hk := hb.block b hB
    refine ⟨b, off, rfl, hB, fun i d hd => ?_⟩
    obtain ⟨h1, h2⟩ := hc i d hd
    exact ⟨(World.cell?_of_block (a := ⟨b, off + i * 2, none⟩) hk).trans h1, (World.cell?_of_block (a := ⟨b, off + i * 2 + 1, none⟩) hk).trans h2⟩⟩

set_option maxRecDepth 100000 in
set_option maxHeartbeats 4000000 in
theorem each_comes (n : Nat) (hn : 1 ≤ n) {w : World} {N m c : Nat} {A : Option Addr} {t : List De} (h : Ds w N A m c t) (hN : N ≤ w.heap.size) :
    ComesE Fence.wide n Try.prog 26 #[.slice A m c] #[] (fun x : Nat × De => #[.int .i64 (x.1 : Int), dv x.2]) (fun b => b < N) (Front t) (fun s => s = ups t t.length) (fun s => ∃ p x, s = p ++ [x] ∧ Front t s) w := by
  intro l J Jx W hW hJ hY h0
  have hlen := h.len
  have hmax := h.max
  have HW : Hid (Ds W N A m c t) := hid (h.kb ⟨hW.size, fun b hb => hW.block b (by omega)⟩)
  have hcap := h.cap
  have hNW : N ≤ W.heap.size := Nat.le_trans hN hW.size
  clear h
  have HJ := hid hJ
  have HY := hid hY
  have HL := hid hlen
  clear hJ hY hlen
  refine callsIn_of_wp Try.func26 rfl trivial ?_ rfl
  simp only [Try.ntmps26, List.size_toArray, List.length_cons, List.length_nil, Nat.reduceAdd, Nat.reduceSub, Array.replicate_succ, Array.replicate_zero, List.push_toArray, List.append_toArray, List.nil_append, List.cons_append]
  gi_wp2
  gi_loopw [8] (fun i wr => ∃ k : Nat, k ≤ m ∧ i = .int .i64 (k : Int) ∧ Hid (J (ups t k) wr) ∧ Hid (Ds wr N A m c t) ∧ Hid (N ≤ wr.heap.size)) (fun i _ => m - (intOf i).toNat)
  case atStart => exact ⟨0, Nat.zero_le _, rfl, hid h0, HW, hid hNW⟩
  case round =>
    obtain ⟨k, hk, rfl, HJs, HD, HNw⟩ := hrel
    by_cases hlt : k < m
    · have hltz : (k : Int) < (m : Int) := by omega
      obtain ⟨d, hd⟩ := HD.out.get hlt
      obtain ⟨b, off, rfl, hb, hc⟩ := HD.out.at_ (by omega)
      obtain ⟨c1, c2⟩ := hc k d hd
      obtain ⟨d1, d2⟩ := d
      change wr.cell? ⟨b, off + k * 2, none⟩ = some (.int .i64 d1) at c1
      change wr.cell? ⟨b, off + k * 2 + 1, none⟩ = some (.int .i64 d2) at c2
      have HU := hid (show ups t (k + 1) = ups t k ++ [(k, (d1, d2))] from by rw [ups_succ, hd]; rfl)
      have HF := hid (show Front t (ups t k ++ [(k, (d1, d2))]) from by rw [← HU.out]; exact front_ups (by rw [HL.out]; omega))
      obtain ⟨fn, tmps, assign, body, hy, hR⟩ := HY.out (ups t k) (k, (d1, d2)) (wr.alloc (.cells #[.int .i64 d1, .int .i64 d2] 23)) HF.out (HJ.out _ _ _ HJs.out (World.grownBy_alloc wr _ none))
      have HD2 := hid (HD.out.kb (Kb.of_below (N := N) (W' := wr.alloc (.cells #[.int .i64 d1, .int .i64 d2] 23)) ((Below.refl N wr).alloc HNw.out _)))
      dsimp only [dv] at hy
      clear hc hd
      gi_wp2
      refine hR.mono ?_
      rintro e W3 (⟨rfl, hJ3, hk3⟩ | ⟨rfl, hJx3⟩)
      · gi_wp2
        go_roundw
        case rel => exact ⟨k + 1, hlt, by go_num, hid (by rw [HU.out]; exact hJ3), hid (HD2.out.kb hk3), hid (Nat.le_trans HNw.out (Nat.le_trans (by simp) hk3.size))⟩
        case measure => simp [intOf]; omega
      · gi_wp2
        refine bodyPost_ret (results_none rfl _ _ _) rfl ?_
        exact ⟨⟨_, rfl⟩, .inr ⟨_, ⟨_, _, rfl, HF.out⟩, hJx3⟩⟩
    · have hltz : ¬ (k : Int) < (m : Int) := by omega
      obtain rfl : k = m := by omega
      gi_wp2
      go_end0
      exact ⟨⟨_, rfl⟩, .inl (by rw [HL.out]; exact HJs.out)⟩
end Go.Proofs.Ytdemhghflanncaa


namespace Go.Proofs.Ytdemhghflanncaa

/-- No operation defers. -/
def plainOps (ops : Array Oper) : Bool := ops.all fun o => match o.op with | .defer _ => false | _ => true
theorem plainOps_at {ops : Array Oper} (h : plainOps ops = true) {i : Nat} {o : Oper} (ho : ops[i]? = some o) : ∀ c, o.op ≠ .defer c := by
  intro c e
  have hm := Array.all_eq_true_iff_forall_mem.1 h o (Array.mem_of_getElem? ho)
  rw [e] at hm
  cases hm
theorem oper_in {l n : Nat} {P : Program} {o : Oper} {a : Act} {w : World} {K : Act → World → Prop} {Q : Exit → Act → World → Prop} (hd : ∀ c, o.op ≠ .defer c) (h : o.wp P a w K Q) : o.wpIn (Fence.wide.inRound l) n P a w K Q := by
  refine ⟨fun _ _ => trivial, ?_⟩
  unfold Oper.wp at h
  rw [show (Fence.wide.inRound l).round = some l from rfl, Oper.semAt_some l a.eval o hd]
  generalize (execOp a.eval o).run P w = r at *
  cases r with
  | ok x w' =>
    cases x with
    | value v => exact h
    | skip => exact h
    | defer d => exact h
    | enter f args =>
      refine ⟨(fun h => by cases h), CallsIn.inRound l (callsIn_wide.2 (Calls.mono h fun e w'' he => ?_))⟩
      cases e <;> exact he
    | row row args => exact ⟨(fun h => by cases h), fun c cs _ => let ⟨v, w'', hr, hs⟩ := h c cs; ⟨v, w'', hr, stepsIn_wide.2 hs⟩⟩
    | _ => exact h.elim
  | halt x w' => cases x <;> exact h
theorem wpOp_in {l n : Nat} {P : Program} {ops : Array Oper} {Q : Exit → Act → World → Prop} {i : Nat} {K : Act → World → Prop} {a : Act} {w : World} (hd : plainOps ops = true) (hlo : ¬ LetsOut Q) (h : wpOp P ops Q i K a w) : wpOpIn (Fence.wide.inRound l) n P ops Q i K a w := by
  unfold wpOp at h
  unfold wpOpIn
  cases ho : ops[i]? with
  | none => simpa [ho] using h
  | some o =>
    simp only [ho] at h ⊢
    split
    · rename_i hw
      rw [if_pos hw] at h
      rcases h with h | ⟨_, h⟩
      · exact oper_in (plainOps_at hd ho) h
      · exact absurd h hlo
    · rename_i hw
      rw [if_neg hw] at h
      exact ⟨fun _ _ => trivial, h⟩
theorem wpAny_in {l n : Nat} {P : Program} {md : Region.Mode} {ops : Array Oper} {Q : Exit → Act → World → Prop} (hd : plainOps ops = true) (hlo : ¬ LetsOut Q) :
    ∀ (fuel : Nat) (listed : Array Bool) (a : Act) (w : World), wpAny P md ops Q fuel listed a w → wpAnyIn (Fence.wide.inRound l) n P md ops Q fuel listed a w
  | 0, _, _, _, h => h
  | fuel + 1, _, _, _, h => ⟨h.1, fun i hi => wpOp_in hd hlo (wpOp_mono (fun a' w' h' => wpAny_in hd hlo fuel _ a' w' h') (h.2 i hi))⟩

/-- The beginning of such a region, in a round. -/
theorem region_held {l n id : Nat} {P : Program} {ops : Array Oper} {Q : Exit → Act → World → Prop} {S : World → Prop} {a : Act} {w : World} (hm : P.follows .mixedOrders = true) (hd : plainOps ops = true) (hlo : ¬ LetsOut Q) (hS : S w.drew)
    (h : S w.drew → wpAnyH P .any ops Q S ops.size (Array.replicate ops.size false) a w.drew) : (Code.region id ops true).wpIn (Fence.wide.inRound l) n P Q a w :=
  wpIn_region_any hm (wpAny_in hd hlo _ _ _ _ (wpAny_of_held _ _ _ _ (h hS)))

end Go.Proofs.Ytdemhghflanncaa


namespace Go.Proofs.Ytdemhghflanncaa
open Go.RowKit Go.Shelf Go.Lib

theorem Ds.keptc {W W' : World} {B n c : Nat} {A : Option Addr} {l : List De} {row : Option Nat} (h : Ds W B A n c l) (hg : W.grownBy W' row) (hr : ∀ r, row = some r → ∃ o : Obj, W.heap[r]? = some o ∧ o.isCells = false) : Ds W' B A n c l :=
  ⟨h.len, h.cap, h.max, h.nil, fun hn => by
    obtain ⟨b, off, rfl, hB, hc⟩ := h.at_ hn
    exact ⟨b, off, rfl, hB, fun i d hd => ⟨cell_kept (hc i d hd).1 hg hr, cell_kept (hc i d hd).2 hg hr⟩⟩⟩
theorem ou_cells {W : World} {B : Nat} {v : Value} {l : List Nat} (h : Ou W B v l) : ∀ k, v.ownBlock = some k → ∃ x : Obj, W.heap[k]? = some x ∧ x.isCells = true := by
  intro k hk
  rcases h.own.2 with ⟨rfl, _⟩ | ⟨g, cap, cur, rfl, _, hg, _⟩
  · cases hk
  · have hk' : g = k := by injection hk
    subst hk'
    exact ⟨_, hg, rfl⟩
theorem Ou.keptc {W W' : World} {B : Nat} {v : Value} {l : List Nat} {row : Option Nat} (h : Ou W B v l) (hg : W.grownBy W' row) (hr : ∀ r, row = some r → ∃ o : Obj, W.heap[r]? = some o ∧ o.isCells = false) : Ou W' B v l := by
  refine h.kept hg ?_
  cases hv : v.ownBlock with
  | none => exact .inl rfl
  | some k =>
    refine .inr fun e => ?_
    obtain ⟨o, h1, h2⟩ := hr k e.symm
    obtain ⟨x, h3, h4⟩ := ou_cells h k hv
    rw [h1] at h3
    cases h3
    rw [h2] at h4
    cases h4
theorem boxed_keptc {W W' : World} {B : Nat} {t : TypeId} {v : Value} {r : Nat} (h : Boxed W B t v) (hg : W.grownBy W' (some r)) (hr : B ≠ r) : Boxed W' B t v := h.kept hg (fun e => hr (by cases e; rfl))
theorem keeps_grown {B : Nat} {W W' : World} {o : Option Nat} (hg : W.grownBy W' o) (hc : ∀ k, o = some k → ∃ x : Obj, W.heap[k]? = some x ∧ x.isCells = true) : KeepsFrom B W W' :=
  ⟨hg.size, fun k x _ h0 hx => by
    refine (hg.block k (Array.getElem?_eq_some_iff.1 h0).1 (fun e => ?_)).trans h0
    obtain ⟨y, h1, h2⟩ := hc k e.symm
    rw [h0] at h1
    cases h1
    rw [hx] at h2
    cases h2⟩
theorem keeps_below {B : Nat} {W W' : World} (h : Below W.heap.size W W') : KeepsFrom B W W' := keeps_grown (below_grown h) (by simp)

theorem Ou.shut {L : List Nat} {W W' : World} {B : Nat} {v : Value} {l : List Nat} (h : Ou W B v l) (hs : Shut L W W') (hL : ∀ D ∈ L, W.heap[D]? = some (.deferred (some []))) : Ou W' B v l := by
  cases hv : v.ownBlock with
  | none =>
    obtain ⟨⟨h1, h2⟩, hm, hf⟩ := h
    rcases h2 with h2 | ⟨g, cap, cur, rfl, _⟩
    · exact ⟨⟨h1, .inl h2⟩, hm, hf⟩
    · cases hv
  | some k =>
    obtain ⟨x, h3, h4⟩ := ou_cells h k hv
    have hk : k ∉ L := fun e => by
      rw [hL k e] at h3
      cases h3
      cases h4
    obtain ⟨⟨h1, h2⟩, hm, hf⟩ := h
    rcases h2 with ⟨rfl, _⟩ | ⟨g, cap, cur, rfl, q1, q2, q3⟩
    · cases hv
    · have hv' : g = k := by injection hv
      subst hv'
      exact ⟨⟨h1, .inr ⟨g, cap, cur, rfl, q1, (hs.block g hk).trans q2, q3⟩⟩, hm, hf⟩
theorem shut_below {L : List Nat} {B : Nat} {w W W' : World} (h : Below B w W) (hs : Shut L W W') (hL : ∀ D ∈ L, B ≤ D) : Below B w W' :=
  ⟨hs.os.trans h.os, hs.tape.trans h.tape, hs.output.trans h.output, by rw [hs.size]; exact h.size, fun k hk => (hs.block k (fun e => by have := hL k e; omega)).trans (h.block k hk)⟩

/-- Append onto a row of numbers, in a round. -/
theorem listIn_appU {l n : Nat} {w : World} {ops : Array Oper} {rest : List Oper} {o : Oper} {a : Act} {Q : Exit → Act → World → Prop} (hgd : o.guard = none) (s x : Operand)
    (ho : o.op = .call { callee := .builtin .append, args := #[s, x], argTypes := #[34, 34] }) {B C m c : Nat} {v : Value} {A : Option Addr} {u r : List Nat} (hs : a.eval s = v) (hx : a.eval x = .slice A m c)
    (hO : Ou w B v u) (hD : Us w C A m c r) (hn : u.length + m ≤ 100000) (hB : B ≤ w.heap.size)
    (h : ∀ v' w', Hid (TurnU w w' B v v' (u ++ r)) → wpListIn (Fence.wide.inRound l) n Try.prog ops Q rest (a.put o.dst v') w') : wpListIn (Fence.wide.inRound l) n Try.prog ops Q (o :: rest) a w := by
  obtain ⟨v', w', hr, hT⟩ := run_appU o.type hO hD hn hB
  exact wpListIn_plain hgd fun _ hK => oper_in (fun c e => by rw [ho] at e; cases e) (Lib.wp_append_run w s x _ _ ho _ _ hs hx v' w' hr (hK _ _ (h v' w' (hid hT))))
end Go.Proofs.Ytdemhghflanncaa


namespace Go.Proofs.Ytdemhghflanncaa
open Go.RowKit Go.Shelf Go.Lib
attribute [local go_sem] Oper.semAt_some

/-- What the loop's variables hold: the draws so far, and who is left. -/
def DrS (g B : Nat) (t : List De) (u : List Nat) (W : World) : Prop :=
  ∃ (v : Value) (A : Option Addr) (q c : Nat), Boxed W g 34 v ∧ Boxed W (g + 1) 55 (.slice A q c) ∧ Ou W B v u ∧ Ds W W.heap.size A q c t ∧ (0 < q → ∀ z, A = some z → z.block ≠ g ∧ z.block ≠ g + 1 ∧ v.ownBlock ≠ some z.block)
theorem DrS.keptc {g B : Nat} {t : List De} {u : List Nat} {W W' : World} {r : Nat} (h : DrS g B t u W) (hg : W.grownBy W' (some r)) (hr : ∃ o : Obj, W.heap[r]? = some o ∧ o.isCells = false) (h1 : g ≠ r) (h2 : g + 1 ≠ r) : DrS g B t u W' := by
  obtain ⟨v, A, q, c, a1, a2, a3, a4, a5⟩ := h
  have hrr : ∀ k, some r = some k → ∃ o : Obj, W.heap[k]? = some o ∧ o.isCells = false := fun k e => by injection e with e; exact e ▸ hr
  exact ⟨v, A, q, c, boxed_keptc a1 hg h1, boxed_keptc a2 hg h2, a3.keptc hg hrr, (a4.keptc hg hrr).mono hg.size, a5⟩
theorem DrS.below {g B : Nat} {t : List De} {u : List Nat} {W W' : World} (h : DrS g B t u W) (hb : Below W.heap.size W W') : DrS g B t u W' := by
  obtain ⟨v, A, q, c, a1, a2, a3, a4, a5⟩ := h
  exact ⟨v, A, q, c, (hb.block g (lt_of_heap a1)).trans a1, (hb.block _ (lt_of_heap a2)).trans a2, a3.below hb, (a4.below hb).mono hb.size, a5⟩
/-- What the loop keeps. -/
structure DrI (w : World) (g B n m : Nat) (l r : List De) (gg i : Nat) (L : List Nat) (W : World) : Prop where
  hle : i ≤ m
  ms : m - i ≤ gg
  nd : L.Nodup
  mks : ∀ D ∈ L, W.heap[D]? = some (.deferred (some []))
  ml : ∀ D ∈ L, B ≤ D
  bel : Below w.heap.size w W
  sz : B ≤ W.heap.size
  st : ∃ (t : List De) (u : List Nat), DrS g B t u W ∧ Ids t ∧ u.length + t.length = n ∧ drs l r = (drs t (r.drop i)).map (u ++ ·)

/-- None that came is d. -/
def NoHit (d : De) (s : List (Nat × De)) : Prop := ∀ y ∈ s, y.2 ≠ d
theorem NoHit.snoc {d : De} {s : List (Nat × De)} {y : Nat × De} (h : NoHit d s) (hy : y.2 ≠ d) : NoHit d (s ++ [y]) := fun z hz => by
  rcases List.mem_append.1 hz with hz | hz
  · exact h z hz
  · rw [List.mem_singleton] at hz
    rw [hz]
    exact hy
theorem NoHit.none {d : De} {t : List De} (h : NoHit d (ups t t.length)) : d ∉ t := fun hd => by
  obtain ⟨x, hx, e⟩ := mem_ups hd
  exact h x hx e

theorem Ds.apart {W W' : World} {A : Option Addr} {n c : Nat} {l : List De} {row : Option Nat} (h : Ds W W.heap.size A n c l) (hg : W.grownBy W' row) (hne : 0 < n → ∀ z, A = some z → row ≠ some z.block) : Ds W' W'.heap.size A n c l :=
  ⟨h.len, h.cap, h.max, h.nil, fun hn => by
    obtain ⟨b, off, rfl, hB, hc⟩ := h.at_ hn
    have hb := hg.block b hB (fun e => hne hn _ rfl e.symm)
    refine ⟨b, off, rfl, Nat.lt_of_lt_of_le hB hg.size, fun i d hd => ?_⟩
    obtain ⟨h1, h2⟩ := hc i d hd
    exact ⟨(World.cell?_of_block (a := ⟨b, off + i * 2, none⟩) hb).trans h1, (World.cell?_of_block (a := ⟨b, off + i * 2 + 1, none⟩) hb).trans h2⟩⟩
theorem Ds.lt {W : World} {B n c : Nat} {A : Option Addr} {l : List De} (h : Ds W B A n c l) (hn : 0 < n) : ∀ z, A = some z → z.block < B := fun z hz => by
  obtain ⟨b, off, e, hB, _⟩ := h.at_ hn
  rw [e] at hz
  injection hz with hz
  rw [← hz]
  exact hB
theorem below_set {N : Nat} (W : World) (g : Nat) (v : Value) (h : N ≤ g) : Below N W (W.setCell ⟨g, 0, none⟩ v) := (Below.refl N W).setCell (p := ⟨g, 0, none⟩) h v
theorem draw_mid {X w' : World} {g B q c n5 c5 a : Nat} {A' A5 : Option Addr} {v' : Value} {t : List De} {u : List Nat} (o : Obj) (hV : Boxed X g 34 (.slice A5 n5 c5)) (hS : Boxed X (g + 1) 55 (.slice A' q c)) (hU : Ou X B (.slice A5 n5 c5) u) (hT : Ds X X.heap.size A' q c t)
    (hP : 0 < q → ∀ z, A' = some z → z.block ≠ g ∧ z.block ≠ g + 1 ∧ (Value.slice A5 n5 c5).ownBlock ≠ some z.block) (hg : g + 2 ≤ B) (hB : B ≤ X.heap.size) (hTU : TurnU (X.alloc o) w' B (.slice A5 n5 c5) v' (u ++ [a])) :
    ∃ A6 n6 c6, v' = .slice A6 n6 c6 ∧ Boxed w' g 34 (.slice A5 n5 c5) ∧ Boxed (w'.setCell ⟨g, 0, none⟩ (.slice A6 n6 c6)) (g + 1) 55 (.slice A' q c) ∧ Boxed (w'.setCell ⟨g, 0, none⟩ (.slice A6 n6 c6)) g 34 (.slice A6 n6 c6) ∧
      Ou (w'.setCell ⟨g, 0, none⟩ (.slice A6 n6 c6)) B (.slice A6 n6 c6) (u ++ [a]) ∧ Ds (w'.setCell ⟨g, 0, none⟩ (.slice A6 n6 c6)) (w'.setCell ⟨g, 0, none⟩ (.slice A6 n6 c6)).heap.size A' q c t ∧
      (0 < q → ∀ z, A' = some z → z.block ≠ g ∧ z.block ≠ g + 1 ∧ (Value.slice A6 n6 c6).ownBlock ≠ some z.block) ∧ Below g X (w'.setCell ⟨g, 0, none⟩ (.slice A6 n6 c6)) ∧ KeepsFrom 0 X (w'.setCell ⟨g, 0, none⟩ (.slice A6 n6 c6)) := by
  have hal : Below X.heap.size X (X.alloc o) := (Below.refl _ X).alloc (Nat.le_refl _) _
  have hU2 := hU.below hal
  have hlt := ou_lt hU2
  have hT2 := (hT.below hal).mono hal.size
  obtain ⟨A6, n6, c6, rfl, o6, _⟩ := hTU.own.form
  have hne : ∀ k, k < B → some k ≠ (Value.slice A5 n5 c5).ownBlock := fun k hk e => by have := (hlt k e.symm).1; omega
  have V1 : Boxed w' g 34 (.slice A5 n5 c5) := (hTU.grown.block g (by rw [World.size_alloc]; omega) (hne g (by omega))).trans ((hal.block g (lt_of_heap hV)).trans hV)
  have S1 : Boxed w' (g + 1) 55 (.slice A' q c) := (hTU.grown.block (g + 1) (by rw [World.size_alloc]; omega) (hne (g + 1) (by omega))).trans ((hal.block _ (lt_of_heap hS)).trans hS)
  have hlt6 := ou_lt hTU.own
  have T1 : Ds w' w'.heap.size A' q c t := hT2.apart hTU.grown (fun hq z hz => (hP hq z hz).2.2)
  have G := grownBy_setCell' w' g (.slice A6 n6 c6)
  refine ⟨A6, n6, c6, rfl, V1, boxed_keptc S1 G (by omega), heap_setCell_same w' g 0 _ _ _ V1, hTU.own.kept G (.inr fun e => by have := (hlt6 g e).1; omega), T1.apart G (fun hq z hz e => (hP hq z hz).1 (by injection e with e; exact e.symm)), fun hq z hz => ⟨(hP hq z hz).1, (hP hq z hz).2.1, fun e => ?_⟩, ?_, ?_⟩
  · rcases hTU.at_ with h | h
    · exact (hP hq z hz).2.2 (h.symm.trans e)
    · rw [e] at h
      injection h with h
      have := hT.lt hq z hz
      rw [World.size_alloc] at *
      have h2 := World.size_alloc X o
      omega
  · have h1 : Below g X (X.alloc o) := (Below.refl g X).alloc (by omega) _
    have h2 : Below g (X.alloc o) w' := (hTU.below hU2 (by rw [World.size_alloc]; omega)).mono (by omega)
    exact (h1.trans h2).trans (below_set w' g _ (Nat.le_refl _))
  · exact ((keeps_below hal).trans (keeps_grown hTU.grown (ou_cells hU2))).trans ((KeepsOthers.setCell _ _ _).from _)
theorem draw_end {W w9 : World} {g B q c n9 c9 : Nat} {A' A9 : Option Addr} {v : Value} {t' : List De} {u : List Nat} (hV : Boxed W g 34 v) (hS : Boxed W (g + 1) 55 (.slice A' q c)) (hU : Ou W B v u)
    (hP : 0 < q → ∀ z, A' = some z → z.block ≠ g ∧ z.block ≠ g + 1 ∧ v.ownBlock ≠ some z.block) (hg : g + 2 ≤ B) (hB : B ≤ W.heap.size) (hq : 0 < q)
    (hD : Ds w9 w9.heap.size A9 n9 c9 t') (hb : Below W.heap.size W w9) (ho : ∀ z, A9 = some z → (∃ y, A' = some y ∧ z.block = y.block) ∨ W.heap.size ≤ z.block) :
    Boxed w9 (g + 1) 55 (.slice A' q c) ∧ DrS g B t' u (w9.setCell ⟨g + 1, 0, none⟩ (.slice A9 n9 c9)) ∧ Below g W (w9.setCell ⟨g + 1, 0, none⟩ (.slice A9 n9 c9)) ∧ KeepsFrom 0 W (w9.setCell ⟨g + 1, 0, none⟩ (.slice A9 n9 c9)) := by
  have V1 : Boxed w9 g 34 v := (hb.block _ (lt_of_heap hV)).trans hV
  have S1 : Boxed w9 (g + 1) 55 (.slice A' q c) := (hb.block _ (lt_of_heap hS)).trans hS
  have hlt := ou_lt hU
  have G := grownBy_setCell' w9 (g + 1) (.slice A9 n9 c9)
  have hA : ∀ z, A9 = some z → z.block ≠ g ∧ z.block ≠ g + 1 ∧ v.ownBlock ≠ some z.block := fun z hz => by
    rcases ho z hz with ⟨y, hy, e⟩ | h
    · rw [e]
      exact hP hq y hy
    · exact ⟨by omega, by omega, fun e => by have := (hlt _ e).2; omega⟩
  refine ⟨S1, ⟨v, A9, n9, c9, boxed_keptc V1 G (by omega), heap_setCell_same w9 (g + 1) 0 _ _ _ S1, (hU.below hb).kept G (.inr fun e => by have := (hlt _ e).1; omega), hD.apart G (fun _ z hz e => (hA z hz).2.1 (by injection e with e; exact e.symm)), fun _ => hA⟩, ?_, ?_⟩
  · exact (hb.mono (by omega)).trans (below_set w9 (g + 1) _ (by omega))
  · exact (keeps_below hb).trans ((KeepsOthers.setCell _ _ _).from _)

/-- Two results are handed back, behind loops over iterators. -/
theorem ret_marks {fn : Func} {F : Fence} {n B N : Nat} {P : Program} {R : Ending → World → Prop} {tmps : Array Value} {w W : World} {p q : Tmp} {v : Value} {u : List Nat} {er : Int} (L : List Nat) (h : fn.results = #[.tmp p, .tmp q])
    (hp : tmps.getD p undef = v) (hq : tmps.getD q undef = .int .i64 er) (hN : L.Nodup) (hd : ∀ D ∈ L, W.heap[D]? = some (.deferred (some []))) (hL : ∀ D ∈ L, N ≤ D) (hU : Ou W B v u) (hB : Below N w W)
    (hR : ∀ w', Ou w' B v u → Below N w w' → R (.returned (.tuple #[v, .int .i64 er])) w') : bodyPostM F n P fn R .ret { tmps := tmps, defers := marks L } W := by
  show LeavesInM F n P fn tmps R (marks L) .returning W
  refine leave_marks L W hN hd fun w' hs => ?_
  refine ⟨_, results_tmp2 h tmps P w', ?_⟩
  rw [hp, hq]
  exact hR w' (hU.shut hs hd) ⟨hs.os.trans hB.os, hs.tape.trans hB.tape, hs.output.trans hB.output, by rw [hs.size]; exact hB.size, fun k hk => (hs.block k (fun e => by have := hL k e; omega)).trans (hB.block k hk)⟩

set_option maxHeartbeats 6400000 in
set_option maxRecDepth 100000 in
theorem pdraws_may {w : World} {n c m d : Nat} {A D : Option Addr} {l r : List De} (o p : Int) (H : Ds w w.heap.size A n c l) (K : Ds w w.heap.size D m d r) (hq : CMay o p l) :
    Calls Try.prog 11 #[cav o p (.slice A n c), .slice D m d] w fun e w' => ∃ v, e = .returned (.tuple #[v, .int .i64 (dwE o p l r)]) ∧ Hid (Ou w' w.heap.size v (dwL o p l r) ∧ Below w.heap.size w w') := by
  have HL := hid H.len
  have HR := hid K.len
  have hcap := H.cap
  have hcap2 := K.cap
  have hmax := K.max
  obtain ⟨W, hW⟩ : ∃ W, W = w.alloc (.cells #[.int .i64 o, .int .i64 p, .slice A n c] 29) := ⟨_, rfl⟩
  have B0 := hid (show Below w.heap.size w W from hW ▸ (Below.refl _ w).alloc (Nat.le_refl _) _)
  have X0 := hid (show Cbox W w.heap.size o p (.slice A n c) from hW ▸ heap_alloc_new w _)
  have x0 := X0.out.c0
  have x1 := X0.out.c1
  have x2 := X0.out.c2
  have HW := hid hW
  clear hW
  have CM := hid (ccheck_any o p (H.below B0.out) B0.out.size)
  rw [cchk_may, if_pos hq] at CM
  have hn6 : n ≤ 6 := by
    obtain ⟨_, _, _, a4, a5, _⟩ := hq
    have := HL.out
    omega
  have HI : Hid (Ids l) := hid (by rw [hq.2.2.2.2.2.2]; exact top_ids _)
  have HE := hid (show dwE o p l r = if (drs l r).isSome = true then 0 else 6 from if_pos hq)
  have HF := hid (show dwL o p l r = (drs l r).getD [] from if_pos hq)
  have H' := hid H
  have K' := hid K
  clear hq H K
  unfold cav at CM ⊢
  refine (callsIn_wide (n := 9)).1 ?_
  refine callsIn_of_wp_marks Try.func11 rfl trivial (wpIn_wide.2 ?_) rfl
  simp only [Try.ntmps11, List.size_toArray, List.length_cons, List.length_nil, Nat.reduceAdd, Nat.reduceSub, Array.replicate_succ, Array.replicate_zero, List.push_toArray, List.append_toArray, List.nil_append, List.cons_append]
  go_upto_region 1 with fail
  rw [← HW.out]
  clear HW
  refine wp_scope_straight ?_
  go_wp2_with fail
  refine CM.out.mono ?_
  rintro e w1 ⟨rfl, hb⟩
  have B1 := hid (B0.out.trans (hb.out.mono B0.out.size))
  have X1 := hid (X0.out.below hb.out X0.out.lt)
  have H1 := hid ((H'.out.below B1.out).mono B1.out.size)
  have K1 := hid ((K'.out.below B1.out).mono B1.out.size)
  clear x0 x1 x2 CM hb H' K' X0 B0
  have x2 := (X1.out.alloc (.cells #[.slice none 0 0] 34)).c2
  go_wp2_with fail
  obtain ⟨W2, hW2⟩ : ∃ W2, W2 = (w1.alloc (.cells #[.slice none 0 0] 34)).alloc (.cells #[.slice A n c] 55) := ⟨_, rfl⟩
  rw [← hW2]
  have hz2 := hid (show W2.heap.size = w1.heap.size + 2 from by rw [hW2]; simp)
  have b2 := hid (show Below w1.heap.size w1 W2 from hW2 ▸ ((Below.refl _ w1).alloc (Nat.le_refl _) _).alloc (by simp) _)
  have V2 := hid (show Boxed W2 w1.heap.size 34 (.slice none 0 0) from hW2 ▸ heap2_0 w1 _ _)
  have S2 := hid (show Boxed W2 (w1.heap.size + 1) 55 (.slice A n c) from hW2 ▸ heap2_1 w1 _ _)
  clear hW2 x2
  have I2 : Hid (DrI w w1.heap.size W2.heap.size n m l r m 0 [] W2) := hid ⟨Nat.zero_le _, by omega, List.nodup_nil, by simp, by simp, B1.out.trans (b2.out.mono B1.out.size), Nat.le_refl _, l, [], ⟨_, A, n, c, V2.out, S2.out, Ou.nil _ _, (H1.out.below b2.out).mono b2.out.size, fun h0 z hz => by
    obtain ⟨b, off, e, hb, _⟩ := H1.out.at_ h0
    rw [e] at hz
    injection hz with hz
    subst hz
    dsimp only
    exact ⟨by omega, by omega, by simp [Value.ownBlock]⟩⟩, HI.out, by rw [HL.out]; simp, by simp⟩
  have HB2 := hid (show w.heap.size ≤ w1.heap.size from B1.out.size)
  have KB := hid (fun X (hb : Below w1.heap.size w1 X) => K1.out.below hb)
  clear V2 S2 HI H1 X1 B1 hcap
  refine wp_label ?_
  go_wp2_with fail
  refine wp_loop_ghost_k (fun gg a' wr => ∃ (i : Nat) (L : List Nat) (u10 u23 u24 u25 u26 u27 u41 : Value), (DrI w w1.heap.size W2.heap.size n m l r gg i L wr ∧ Below w1.heap.size w1 wr) ∧ a' = Act.mk (#[Value.agg #[Value.int IntKind.i64 o, Value.int IntKind.i64 p, Value.slice A n c], Value.slice D m d,
          Value.pointer (some ⟨w.heap.size, 0, none⟩), undef, Value.slice none 0 0, Value.int IntKind.i64 0,
          Value.int IntKind.i64 0, Value.pointer (some ⟨w1.heap.size, 0, none⟩),
          Value.pointer (some ⟨w1.heap.size + 1, 0, none⟩), undef, u10, undef, undef,
          Value.agg #[Value.int IntKind.i64 o, Value.int IntKind.i64 p, Value.slice A n c], Value.int IntKind.i64 0,
          Value.int IntKind.i64 0, Value.bool false, undef, Value.pointer (some ⟨w.heap.size, 2, none⟩),
          Value.slice A n c, Value.slice D m d, Value.int IntKind.i64 m, Value.int IntKind.i64 i, u23, u24, u25, u26, u27, undef, undef, undef, undef, undef,
          undef, undef, undef, undef, undef, undef, undef, undef, u41, undef]) (marks L)) m ?start ?round
  case start => exact ⟨0, [], undef, undef, undef, undef, undef, undef, undef, ⟨I2.out, b2.out⟩, rfl⟩
  case round =>
    clear I2 b2
    rintro gg a' wr ⟨i, L, u10, u23, u24, u25, u26, u27, u41, ⟨hI, hbw⟩, rfl⟩ J K hJ hK
    have HJ := hid hJ
    have HK := hid hK
    have HI := hid hI
    have HBW := hid hbw
    clear hJ hK hI hbw
    by_cases hlt : i < m
    case neg =>
      have hltz : ¬ (i : Int) < (m : Int) := by omega
      obtain ⟨hi, _, hnd, hmk, hml, hbel, hsz, t, u, ⟨v, A', q, c', b1, b3, hU, hT, _⟩, _, hut, hd⟩ := HI.out
      obtain rfl : i = m := by omega
      have hs : drs l r = some u := by
        rw [hd, List.drop_of_length_le (by rw [HR.out]; exact Nat.le_refl _), drs_nil]
        simp
      have HS := hid hs
      have v7 := b1.cell
      have G1 := hid hnd
      have G2 := hid hmk
      have G3 := hid hml
      have G4 := hid hbel
      have G5 := hid hU
      clear hs hd hnd hmk hml hbel hU hT b1 b3
      go_wp2
      refine ret_marks (tmps := _) (v := v) (er := 0) L rfl rfl rfl G1.out G2.out (fun D hD => Nat.le_trans HB2.out (Nat.le_trans (by have := hz2.out; omega) (G3.out D hD))) G5.out G4.out fun w' h1 h2 => ?_
      refine ⟨v, by rw [HE.out, HS.out]; rfl, hid ⟨?_, h2⟩⟩
      rw [HF.out, HS.out]
      exact h1.mono (by have := hz2.out; have := HB2.out; omega)
    have hltz : (i : Int) < (m : Int) := by omega
    obtain ⟨x, hx⟩ := K1.out.get hlt
    have HXr := hid (show r.drop i = x :: r.drop (i + 1) from by
      obtain ⟨h2, rfl⟩ := List.getElem?_eq_some_iff.1 hx
      exact List.drop_eq_getElem_cons h2)
    obtain ⟨db, doff, rfl, hdb, hdc⟩ := (KB.out wr HBW.out).at_ (by omega)
    obtain ⟨d1, d2⟩ := hdc i x hx
    obtain ⟨x1, x2⟩ := x
    change wr.cell? ⟨db, doff + i * 2, none⟩ = some (.int .i64 x1) at d1
    change wr.cell? ⟨db, doff + i * 2 + 1, none⟩ = some (.int .i64 x2) at d2
    obtain ⟨t, u, hst, hit, hut, hd⟩ := HI.out.st
    obtain ⟨v, A', q, c', b1, b2, hU, hT, hap⟩ := hst
    have hal : Below wr.heap.size wr (wr.alloc (.cells #[.int .i64 x1, .int .i64 x2] 23)) := (Below.refl _ wr).alloc (Nat.le_refl _) _
    have e8 := Boxed.cell ((hal.block _ (lt_of_heap b2)).trans b2)
    have HT := hid hT
    have HU := hid hU
    have HP := hid hap
    have HIt := hid hit
    have HUt := hid hut
    have HD := hid hd
    have V1 := hid b1
    have S1 := hid b2
    clear hx hdc hdb hT hU hap hit hut hd b1 b2 hal
    go_wp2_with fail
    obtain ⟨W3, hW3⟩ : ∃ W3, W3 = wr.alloc (.cells #[.int .i64 x1, .int .i64 x2] 23) := ⟨_, rfl⟩
    rw [← hW3]
    have b3 := hid (show Below wr.heap.size wr W3 from hW3 ▸ (Below.refl _ wr).alloc (Nat.le_refl _) _)
    have X3 := hid (show Dbx W3 wr.heap.size (x1, x2) from hW3 ▸ heap_alloc_new wr _)
    have hz3 := hid (show W3.heap.size = wr.heap.size + 1 from by rw [hW3]; simp)
    have V3 := hid ((b3.out.block _ (lt_of_heap V1.out)).trans V1.out)
    have S3 := hid ((b3.out.block _ (lt_of_heap S1.out)).trans S1.out)
    have HT3 := hid ((HT.out.below b3.out).mono b3.out.size)
    have HU3 := hid (HU.out.below b3.out)
    have F3 := hid (HI.out.bel.trans (b3.out.mono HI.out.bel.size))
    have G3 := hid (HBW.out.trans (b3.out.mono HBW.out.size))
    have M3 := hid (fun D hD => (b3.out.block D (lt_of_heap (HI.out.mks D hD))).trans (HI.out.mks D hD))
    have Hsz := hid (show W2.heap.size ≤ wr.heap.size from HI.out.sz)
    have HMl := hid (fun D hD => lt_of_heap (HI.out.mks D hD))
    clear hW3 HT HU V1 S1 b3 e8 d1 d2
    refine wpIn_wide.1 (range_overE (F := Fence.wide) (n := 9) (gf := 26) (bd := #[.slice A' q c']) (lb := #[]) rfl (by omega) rfl trivial (enters_of Try.func26 (by kernel_rfl) rfl) (K := fun b => b < W3.heap.size) (fun b hb => hb)
      (each_comes 8 (by omega) HT3.out (Nat.le_refl _)) (fun _ => rfl)
      (fun pre X => Below W3.heap.size W3 X ∧ NoHit (x1, x2) pre)
      (fun id _ X => id = 1 ∧ W3.heap.size + 2 ≤ X.heap.size ∧ ∃ a, t[a]? = some (x1, x2) ∧ DrS w1.heap.size W2.heap.size (t.eraseIdx a) (u ++ [a]) X ∧ Below w.heap.size w X ∧ Below w1.heap.size w1 X ∧ ∀ D ∈ L, X.heap[D]? = some (.deferred (some [])))
      ?keep ?keepx ⟨Below.refl _ _, fun y hy => (by cases hy)⟩
      (fun x a' X => ∃ g, Dbx X g x.2 ∧ W3.heap.size + 2 ≤ g ∧ a' = Act.mk (#[Value.agg #[Value.int IntKind.i64 o, Value.int IntKind.i64 p, Value.slice A n c],
          Value.slice (some { block := db, off := doff }) m d, Value.pointer (some { block := w.heap.size, off := 0 }),
          undef, Value.slice none 0 0, Value.int IntKind.i64 0, Value.int IntKind.i64 0,
          Value.pointer (some { block := w1.heap.size, off := 0 }),
          Value.pointer (some { block := w1.heap.size + 1, off := 0 }), undef,
          Value.pointer (some { block := wr.heap.size, off := 0 }), Value.int IntKind.i64 (x.1 : Int), Value.pointer (some { block := g, off := 0 }),
          Value.agg #[Value.int IntKind.i64 o, Value.int IntKind.i64 p, Value.slice A n c], Value.int IntKind.i64 0,
          Value.int IntKind.i64 0, Value.bool false, undef, Value.pointer (some { block := w.heap.size, off := 2 }),
          Value.slice A n c, Value.slice (some { block := db, off := doff }) m d, Value.int IntKind.i64 (m : Int),
          Value.int IntKind.i64 (i : Int), Value.bool true, Value.pointer (some { block := db, off := doff + i * 2 }),
          Value.agg #[Value.int IntKind.i64 x1, Value.int IntKind.i64 x2], Value.slice A' q c',
          Value.func (Fn.func 26) #[Value.slice A' q c'] #[], Value.int IntKind.i64 (x.1 : Int), Value.agg #[Value.int IntKind.i64 x.2.1, Value.int IntKind.i64 x.2.2], undef, undef, undef, undef, undef, undef,
          undef, undef, undef, undef, undef, u41, undef]) [])
      ?keepa ?assign ?body ?done ?stop)
    case keep =>
      rintro s X Y r ⟨hb, hp⟩ hg hr
      refine ⟨hb.grown hg hb.size (fun k e => ?_), hp⟩
      rcases hr with rfl | rfl | rfl
      · cases e
      · injection e with e
        omega
      · injection e with e
        omega
    case keepx =>
      rintro id s X Y r ⟨h1, h2, a, h3, h4, h5, h6, h7⟩ hg hr hc
      have a1 := HI.out.sz
      have a2 := hz3.out
      have a3 := hz2.out
      have a4 := h5.size
      have a5 := h6.size
      refine ⟨h1, Nat.le_trans h2 hg.size, a, h3, h4.keptc hg hc (by omega) (by omega), h5.grown hg h5.size (fun k e => by injection e with e; have := HB2.out; omega), h6.grown hg h6.size (fun k e => by injection e with e; omega), fun D hD => ?_⟩
      have b1 := HMl.out D hD
      exact (hg.block D (lt_of_heap (h7 D hD)) (fun e => by injection e with e; omega)).trans (h7 D hD)
    case keepa =>
      rintro x a' X Y ⟨g, h1, h2, h3⟩ hg
      exact ⟨g, (hg.block g (lt_of_heap h1) (fun e => by injection e with e; omega)).trans h1, h2, h3⟩
    case assign =>
      intro lp pre x X K' hgd hX hI hK'
      obtain ⟨xa, xd1, xd2⟩ := x
      have HK' := hid hK'
      have HI2 := hid hI
      have HX := hid hX
      clear hK' hI hX
      unfold dv
      gi_wp2
      have hal : Below X.heap.size X (X.alloc (.cells #[.int .i64 xd1, .int .i64 xd2] 23)) := (Below.refl _ X).alloc (Nat.le_refl _) _
      exact HK'.out _ _ (keeps_below hal) (Kb.of_below ((Below.refl W3.heap.size X).alloc (by have := HI2.out.1.size; omega) _)) ⟨HI2.out.1.alloc HI2.out.1.size _, HI2.out.2⟩ ⟨X.heap.size, heap_alloc_new X _, HX.out, rfl⟩
    case body =>
      rintro lp pre ⟨a, y1, y2⟩ a' X hgd hX ⟨hbX, hne⟩ ⟨g, hg, hgX, rfl⟩
      obtain ⟨hla, hta, _⟩ := hgd.last
      dsimp only at hla hta hg ⊢
      have V4 := hid ((hbX.block _ (lt_of_heap V3.out)).trans V3.out)
      have S4 := hid ((hbX.block _ (lt_of_heap S3.out)).trans S3.out)
      have X4 := hid ((hbX.block _ (lt_of_heap X3.out)).trans X3.out)
      have c0 := Dbx.c0 hg
      have c1 := Dbx.c1 hg
      have c2 := Dbx.c0 X4.out
      have c3 := Dbx.c1 X4.out
      dsimp only at c0 c1 c2 c3
      have hgd2 := grdD
      have BX := hid hbX
      have HNe := hid hne
      have HTa := hid hta
      clear hgd hbX hne hg hla hta
      by_cases hxy : (y1, y2) = (x1, x2)
      case neg =>
        have hq2 : ∀ W, Sem.run Try.prog (binOp .eql 23 (.agg #[.int .i64 y1, .int .i64 y2]) (.agg #[.int .i64 x1, .int .i64 x2])) W = .ok (.bool false) W := fun W => by rw [eqlD, decide_eq_false hxy]
        have HXY := hid hxy
        clear hxy
        gi_wp2
        exact ⟨KeepsFrom.refl _ _, Kb.refl _ _, BX.out, HNe.out.snoc HXY.out⟩
      have hq2 : ∀ W, Sem.run Try.prog (binOp .eql 23 (.agg #[.int .i64 y1, .int .i64 y2]) (.agg #[.int .i64 x1, .int .i64 x2])) W = .ok (.bool true) W := fun W => by rw [eqlD, decide_eq_true hxy]
      rw [hxy] at HTa
      clear hxy HNe
      have HU4 := hid (HU3.out.below BX.out)
      have HT4 := hid ((HT3.out.below BX.out).mono BX.out.size)
      have hat : a < q := by
        have h1 := (List.getElem?_eq_some_iff.1 HTa.out).1
        rw [HT3.out.len] at h1
        exact h1
      have hq6 : q ≤ 6 := by
        have h1 := HT3.out.len
        have h2 := HUt.out
        omega
      have hul : u.length ≤ 6 := by
        have h2 := HUt.out
        omega
      have hw2 : IntKind.u64.wrap (a : Int) = (a : Int) := by rw [IntKind.wrap_u64]; omega
      obtain ⟨A5, n5, c5, rfl, o5, _⟩ := HU4.out.form
      have e7 := Boxed.cell V4.out
      have O5 := hid o5
      have hal : Below X.heap.size X (X.alloc (.cells #[.int .u64 (a : Int)] 30)) := (Below.refl _ X).alloc (Nat.le_refl _) _
      have O6 := hid (o5.below hal)
      have U6 := hid (us_row (l := [a]) (X := X.alloc (.cells #[.int .u64 (a : Int)] 30)) (N := X.heap.size) (heap_alloc_new X _) (by simp) (by simp; omega))
      have hB4 : W2.heap.size ≤ X.heap.size := by have := Hsz.out; have := hz3.out; have := BX.out.size; omega
      have HB4 := hid (show W2.heap.size ≤ (X.alloc (.cells #[.int .u64 (a : Int)] 30)).heap.size from Nat.le_trans hB4 hal.size)
      have hg2 : w1.heap.size + 2 ≤ W2.heap.size := by have := hz2.out; omega
      have HM : Hid (∀ v' w', TurnU (X.alloc (.cells #[.int .u64 (a : Int)] 30)) w' W2.heap.size (.slice A5 n5 c5) v' (u ++ [a]) → _) := hid fun v' w' h => draw_mid _ V4.out S4.out O5.out HT4.out HP.out hg2 hB4 h
      have HHB := hid hB4
      have HHG := hid hg2
      clear o5 hal hB4 hg2
      gi_wp2_with (first
        | (gi_at_builtin
           refine listIn_appU rfl (.tmp 33) (.tmp 36) rfl (v := .slice A5 n5 c5) (B := W2.heap.size) (u := u) (r := [a]) rfl rfl O6.out U6.out (by simp; omega) HB4.out ?_
           intro v' w' HTU
           obtain ⟨A6, n6, c6, hv6, q1, q2, q3, q4, q5, q6, q7, q8⟩ := HM.out v' w' HTU.out
           subst hv6
           have f7 := Boxed.cell q1
           have z7 := Boxed.frozen q1
           have f8 := Boxed.cell q2
           have Q2 := hid q2
           have Q3 := hid q3
           have Q4 := hid q4
           have Q5 := hid q5
           have Q6 := hid q6
           have Q7 := hid q7
           have Q8 := hid q8
           clear q1 q2 q3 q4 q5 q6 q7 q8 HTU HM O6 U6)
        | fail)
      refine ⟨trivial, ?_⟩
      refine (CallsIn.inRound lp (callsIn_wide.2 (without_any Q5.out (Nat.le_refl _) hat (by omega)))).mono ?_
      rintro e w9 ⟨A9, n9, c9, rfl, h9⟩
      obtain ⟨r1, r2, r3, r4⟩ := draw_end Q3.out Q2.out Q4.out Q6.out HHG.out (Nat.le_trans HHB.out Q7.out.size) (by omega) h9.out.1 h9.out.2.1 h9.out.2.2
      have f9 := Boxed.cell r1
      have z9 := Boxed.frozen r1
      have R2 := hid r2
      have R3 := hid r3
      have R4 := hid r4
      clear r1 r2 r3 r4 h9 f7 z7 f8
      gi_wp2
      have k4 := Q8.out.trans R4.out
      have s3 := hz3.out
      have s2 := Hsz.out
      have s1 := hz2.out
      have s0 := HB2.out
      have s4 := BX.out.size
      have s5 := Q7.out.size
      exact ⟨⟨k4.size, fun k o _ h0 ho => k4.same k o (Nat.zero_le _) h0 ho⟩, rfl, Nat.le_trans hX k4.size, a, HTa.out, R2.out,
        ((F3.out.trans (BX.out.mono (by omega))).trans (Q7.out.mono s0)).trans (R3.out.mono s0),
        ((G3.out.trans (BX.out.mono (by omega))).trans Q7.out).trans R3.out,
        fun D hD => k4.same D _ (Nat.zero_le _) ((BX.out.block D (by have := HMl.out D hD; omega)).trans (M3.out D hD)) rfl⟩
    case done =>
      rintro xs X hxs ⟨hbX, hne⟩ hK
      subst hxs
      have hno := NoHit.none hne
      have hs : drs l r = none := by
        rw [HD.out, HXr.out, drs_cons, la_none hno, if_pos (by decide)]
        rfl
      have HS := hid hs
      have HKD := hid hK
      have BX := hid hbX
      clear hs hno hne hK hbX
      go_wp2
      refine ret_marks (v := .slice none 0 0) (er := 6) (u := []) (B := W2.heap.size) (W3.heap.size :: L) rfl rfl rfl ?_ ?_ ?_ (Ou.nil X _) (F3.out.trans (BX.out.mono F3.out.size)) fun w' h1 h2 => ?_
      · exact List.nodup_cons.2 ⟨fun hD => by have := HMl.out _ hD; have := hz3.out; omega, HI.out.nd⟩
      · intro D hD
        rcases List.mem_cons.1 hD with rfl | hD
        · exact HKD.out
        · exact (BX.out.block D (by have := HMl.out D hD; have := hz3.out; omega)).trans (M3.out D hD)
      · intro D hD
        have s0 := HB2.out
        have s1 := hz2.out
        have s2 := Hsz.out
        have s3 := hz3.out
        rcases List.mem_cons.1 hD with rfl | hD
        · omega
        · have := HI.out.ml D hD
          omega
      · refine ⟨_, by rw [HE.out, HS.out]; rfl, hid ⟨?_, h2⟩⟩
        rw [HF.out, HS.out]
        exact Ou.nil _ _
    case stop =>
      rintro id pre X _ ⟨rfl, hX, a, hta, hst, hb1, hb2, hmk⟩ hK
      have HDS := hid (show drs l r = (drs (t.eraseIdx a) (r.drop (i + 1))).map ((u ++ [a]) ++ ·) from by
        have h1 : la (x1, x2) t t.length = (a : Int) := by
          have h2 := (List.getElem?_eq_some_iff.1 hta).1
          rw [la_of HIt.out hta, if_pos h2]
        rw [HD.out, HXr.out, drs_cons, h1, if_neg (by omega), Int.toNat_natCast, Option.map_map]
        congr 1
        funext z
        simp)
      have HL2 := hid (show (u ++ [a]).length + (t.eraseIdx a).length = n from by
        have h2 := (List.getElem?_eq_some_iff.1 hta).1
        have h3 := HUt.out
        rw [List.length_append, List.length_singleton, List.length_eraseIdx, if_pos h2]
        omega)
      have Hst := hid hst
      have Hb1 := hid hb1
      have Hb2 := hid hb2
      have Hmk := hid hmk
      have HX := hid hX
      have HKD := hid hK
      clear hta hst hb1 hb2 hmk hX hK
      refine wpIn_wide.2 ?_
      go_wp2
      have s3 := hz3.out
      refine HK.out _ _ (Handed.intro (m - (i + 1)) (by have := HI.out.ms; omega) (HJ.out _ _ _ ?_))
      refine ⟨i + 1, W3.heap.size :: L, ?_⟩
      repeat apply Exists.intro
      refine ⟨?hh, rfl⟩
      refine ⟨⟨by omega, Nat.le_refl _, ?_, ?_, ?_, Hb1.out, ?_, t.eraseIdx a, u ++ [a], Hst.out, ids_erase HIt.out a, HL2.out, HDS.out⟩, Hb2.out⟩
      · exact List.nodup_cons.2 ⟨fun hD => by have := HMl.out _ hD; omega, HI.out.nd⟩
      · intro D hD
        rcases List.mem_cons.1 hD with rfl | hD
        · exact HKD.out
        · exact Hmk.out D hD
      · intro D hD
        have s2 := Hsz.out
        rcases List.mem_cons.1 hD with rfl | hD
        · omega
        · exact HI.out.ml D hD
      · have s2 := Hsz.out
        have := HX.out
        omega

theorem pdraws_any {w : World} {B C n c m d : Nat} {A D : Option Addr} {l r : List De} (o p : Int) (h : Ds w B A n c l) (k : Ds w C D m d r) (hB : B ≤ w.heap.size) (hC : C ≤ w.heap.size) :
    Calls Try.prog 11 #[cav o p (.slice A n c), .slice D m d] w fun e w' => ∃ v, e = .returned (.tuple #[v, .int .i64 (dwE o p l r)]) ∧ Hid (Ou w' w.heap.size v (dwL o p l r) ∧ Below w.heap.size w w') := by
  by_cases hq : CMay o p l
  · exact pdraws_may o p (h.mono hB) (k.mono hC) hq
  have H := hid (h.mono hB)
  clear h hB k hC
  obtain ⟨W, hW⟩ : ∃ W, W = w.alloc (.cells #[.int .i64 o, .int .i64 p, .slice A n c] 29) := ⟨_, rfl⟩
  have B0 := hid (show Below w.heap.size w W from hW ▸ (Below.refl _ w).alloc (Nat.le_refl _) _)
  have X0 := hid (show Cbox W w.heap.size o p (.slice A n c) from hW ▸ heap_alloc_new w _)
  have x0 := X0.out.c0
  have x1 := X0.out.c1
  have x2 := X0.out.c2
  have HW := hid hW
  clear hW
  have CM := hid (ccheck_any o p (H.out.below B0.out) B0.out.size)
  rw [cchk_may, if_neg hq] at CM
  have hE : dwE o p l r = 8 := if_neg hq
  have hF : dwL o p l r = [] := if_neg hq
  rw [hE, hF]
  clear hq hE hF
  unfold cav at CM ⊢
  go_enter Try.func11, Try.ntmps11
  go_upto_region 1 with fail
  rw [← HW.out]
  clear HW
  refine wp_scope_straight ?_
  go_wp2_with fail
  refine CM.out.mono ?_
  rintro e w1 ⟨rfl, hb⟩
  go_wp2
  simp only [Exit.noGoto]
  go_ret2
  exact ⟨_, rfl, hid ⟨Ou.nil _ _, B0.out.trans (hb.out.mono B0.out.size)⟩⟩
theorem draws_ok : DrawsOk := fun _ o p _ _ _ _ _ _ _ _ _ _ h k hB hC => (pdraws_any o p h k hB hC).mono fun _ _ ⟨_, he, hv⟩ => by
  obtain ⟨A', n', c', rfl, _, hd, _⟩ := hv.out.1.form
  exact ⟨A', n', c', he, hid ⟨hd, hv.out.2⟩⟩
end Go.Proofs.Ytdemhghflanncaa

