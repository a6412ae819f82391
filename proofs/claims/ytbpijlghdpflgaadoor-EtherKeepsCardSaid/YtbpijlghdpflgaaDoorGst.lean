/- Stores into rows, as steps of a walk that leaves a new world each. -/
import Derived.Test.YtbpijlghdpflgaaDoorGs
import Derived.Deep.MidRow
namespace Go.Proofs.YtbpijlghdpflgaaDoor
open Go.RowKit Go.Shelf Go.Lib
set_option maxRecDepth 100000

theorem gheap_setCells (g : Nat) (t : TypeId) : ∀ (vs : List Value) (o : Nat) (w : World) (cs : Array Value), w.heap[g]? = some (.cells cs t (0, 0)) →
    ∃ cs' : Array Value, (w.setCells g o vs).heap[g]? = some (.cells cs' t (0, 0)) ∧ cs'.size = cs.size ∧ ∀ j, j < cs.size → cs'[j]? = if o ≤ j ∧ j < o + vs.length then vs[j - o]? else cs[j]?
  | [], o, w, cs, h => ⟨cs, h, rfl, fun j _ => by rw [if_neg (by simp <;> omega)]⟩
  | v :: vs, o, w, cs, h => by
    rw [World.setCells]
    obtain ⟨cs', h1, h2, h3⟩ := gheap_setCells g t vs (o + 1) (w.setCell ⟨g, o, none⟩ v) _ (heap_setCell_same w g o cs t v h)
    refine ⟨cs', h1, by rw [h2, Array.size_setIfInBounds], fun j hj => ?_⟩
    rw [h3 j (by rw [Array.size_setIfInBounds]; exact hj), List.length_cons]
    by_cases h4 : o + 1 ≤ j ∧ j < o + 1 + vs.length
    · rw [if_pos h4, if_pos (by omega), show j - o = (j - (o + 1)) + 1 by omega, List.getElem?_cons_succ]
    · rw [if_neg h4, Array.getElem?_setIfInBounds]
      by_cases h5 : o = j
      · subst h5
        rw [if_pos rfl, if_pos hj, if_pos (by omega), Nat.sub_self, List.getElem?_cons_zero]
      · rw [if_neg h5, if_neg (by omega)]
theorem gq_setC (g : Nat) : ∀ (vs : List Value) (o : Nat) (w : World), (w.setCells g o vs).os = w.os ∧ (w.setCells g o vs).tape = w.tape ∧ (w.setCells g o vs).output = w.output ∧ w.heap.size = (w.setCells g o vs).heap.size ∧ ∀ b, b ≠ g → (w.setCells g o vs).heap[b]? = w.heap[b]?
  | [], _, _ => ⟨rfl, rfl, rfl, rfl, fun _ _ => rfl⟩
  | v :: vs, o, w => by
    obtain ⟨h1, h2, h3, h4, h5⟩ := gq_setC g vs (o + 1) (w.setCell ⟨g, o, none⟩ v)
    exact ⟨h1, h2, h3, (show w.heap.size = (w.setCell ⟨g, o, none⟩ v).heap.size by simp [World.setCell]).trans h4, fun b hb => (h5 b hb).trans (Below.heap_setCell _ _ _ b hb)⟩
/-- Block g alone may have changed. -/
structure Gq (g : Nat) (X X' : World) : Prop where
  os : X'.os = X.os
  tape : X'.tape = X.tape
  output : X'.output = X.output
  size : X.heap.size = X'.heap.size
  block : ∀ b, b ≠ g → X'.heap[b]? = X.heap[b]?
theorem Gq.set (g : Nat) (vs : List Value) (o : Nat) (w : World) : Gq g w (w.setCells g o vs) := by
  obtain ⟨h1, h2, h3, h4, h5⟩ := gq_setC g vs o w
  exact ⟨h1, h2, h3, h4, h5⟩
theorem Gq.bel {g B : Nat} {w X Y : World} (h : Gq g X Y) (hx : Below B w X) (hg : B ≤ g) : Below B w Y :=
  ⟨h.os.trans hx.os, h.tape.trans hx.tape, h.output.trans hx.output, Nat.le_trans hx.size (Nat.le_of_eq h.size), fun b hb => (h.block b (by omega)).trans (hx.block b hb)⟩
/-- A row of one-cell values is stored into a block of as many cells. -/
theorem gput_row {P : Program} {ops : Array Oper} {rest : List Oper} {o : Oper} {a : Act} {w : World} {Q : Exit → Act → World → Prop} (hgd : o.guard = none) (ty : TypeId) (x y : Operand) (ho : o.op = .store ty x y)
    (g : Nat) (t : TypeId) (old cs : Array Value) (hx : a.eval x = .pointer (some ⟨g, 0, none⟩)) (hy : a.eval y = .agg cs) (hg : w.heap[g]? = some (.cells old t (0, 0))) (hs : old.size = cs.size) (hi : (P.info? ty).map (·.size) = some cs.size) (h1 : cs.all (·.oneCell') = true)
    (h : ∀ w', w'.heap[g]? = some (.cells cs t (0, 0)) → Gq g w w' → wpList P ops Q rest (a.put o.dst undef) w') : wpList P ops Q (o :: rest) a w := by
  refine wpList_store_mid hgd ty x y ho g 0 cs hx hy (fun j hj => ?_) hi h1 (h _ ?_ (Gq.set g cs.toList 0 w))
  · rw [Nat.zero_add]
    refine ⟨?_, frozen_of_row w g j _ _ hg⟩
    rw [cell_of_row w g j _ _ (0, 0) hg]
    have : j < old.size := by omega
    simp [this]
  · obtain ⟨cs', e1, e2, e3⟩ := gheap_setCells g _ cs.toList 0 w _ hg
    have e : cs' = cs := by
      apply Array.ext_getElem?
      intro j
      by_cases hj : j < cs.size
      · rw [e3 j (by omega), if_pos ⟨Nat.zero_le _, by simpa using hj⟩, Nat.sub_zero, Array.getElem?_toList]
      · rw [Array.getElem?_eq_none (by omega), Array.getElem?_eq_none (by omega)]
    rw [e] at e1
    exact e1
theorem Gq.at {g b : Nat} {X Y : World} {o : Option Obj} (h : Gq g X Y) (hp : X.heap[b]? = o) (hn : b ≠ g) : Y.heap[b]? = o := (h.block b hn).trans hp
/-- One cell of a block. -/
theorem gput_cell {P : Program} {ops : Array Oper} {rest : List Oper} {o : Oper} {a : Act} {w : World} {Q : Exit → Act → World → Prop} (hgd : o.guard = none) (ty : TypeId) (x y : Operand) (ho : o.op = .store ty x y)
    (g j : Nat) (v : Value) (t : TypeId) (old cs : Array Value) (hx : a.eval x = .pointer (some ⟨g, j, none⟩)) (hy : a.eval y = v) (h1 : v.oneCell' = true) (hi : (P.info? ty).map (·.size) = some 1) (hg : w.heap[g]? = some (.cells old t (0, 0))) (hj : j < old.size)
    (e : old.setIfInBounds j v = cs) (h : ∀ w', w'.heap[g]? = some (.cells cs t (0, 0)) → Gq g w w' → wpList P ops Q rest (a.put o.dst undef) w') : wpList P ops Q (o :: rest) a w :=
  wpList_plain hgd fun _ hK => by
    have hc : v.cells = #[v] := by cases v <;> first | rfl | cases h1
    have hs := run_storeCells_cells (P := P) g j [v] 0 w (fun k hk => by
      obtain rfl : k = 0 := by simpa using hk
      rw [cell_of_row w g _ _ _ (0, 0) hg]
      simp only [Nat.add_zero]
      rw [Array.getElem?_eq_getElem hj]
      rfl) (fun k hk => frozen_of_row w g _ _ _ hg) (fun u hu => by obtain rfl : u = v := by simpa using hu
                                                                    exact h1)
    simp only [Nat.add_zero] at hs
    have hv : (storeVar ty ⟨g, j, none⟩ v).run P w = .ok () (w.setCells g j [v]) := by
      cases hq : P.info? ty with
      | none => simp [hq] at hi
      | some i =>
        have hz : i.size = 1 := by simpa [hq] using hi
        simp [storeVar, sizeOf, typeInfo, hq, hc, hz, hs]
    unfold Oper.wp execOp
    simp only [ho, hx, hy, Instr.storeAt, Instr.sureAddr, Sem.run_bind, Sem.run_pure, Result.andThen_ok, hv]
    refine hK _ _ (h _ ?_ (Gq.set g [v] j w))
    have hh := heap_setCell_same w g j _ _ v hg
    rw [e] at hh
    exact hh
/-- A row of cells within a block. -/
theorem gput_mid {P : Program} {ops : Array Oper} {rest : List Oper} {o : Oper} {a : Act} {w : World} {Q : Exit → Act → World → Prop} (hgd : o.guard = none) (ty : TypeId) (x y : Operand) (ho : o.op = .store ty x y)
    (g j : Nat) (t : TypeId) (old vs cs : Array Value) (hx : a.eval x = .pointer (some ⟨g, j, none⟩)) (hy : a.eval y = .agg vs) (hg : w.heap[g]? = some (.cells old t (0, 0))) (hj : j + vs.size ≤ old.size) (hi : (P.info? ty).map (·.size) = some vs.size) (h1 : vs.all (·.oneCell') = true)
    (hcs : cs.size = old.size) (e : ∀ k, k < old.size → cs[k]? = if j ≤ k ∧ k < j + vs.size then vs[k - j]? else old[k]?)
    (h : ∀ w', w'.heap[g]? = some (.cells cs t (0, 0)) → Gq g w w' → wpList P ops Q rest (a.put o.dst undef) w') : wpList P ops Q (o :: rest) a w := by
  refine wpList_store_mid hgd ty x y ho g j vs hx hy (fun k hk => ?_) hi h1 (h _ ?_ (Gq.set g vs.toList j w))
  · refine ⟨?_, frozen_of_row w g (j + k) _ _ hg⟩
    rw [cell_of_row w g (j + k) _ _ (0, 0) hg]
    have : j + k < old.size := by omega
    simp [this]
  · obtain ⟨cs', e1, e2, e3⟩ := gheap_setCells g _ vs.toList j w _ hg
    have e4 : cs' = cs := by
      apply Array.ext_getElem?
      intro k
      by_cases hk : k < old.size
      · rw [e3 k (by omega), e k hk, Array.length_toList]
        split
        · rw [Array.getElem?_toList]
        · rfl
      · rw [Array.getElem?_eq_none (by omega), Array.getElem?_eq_none (by omega)]
    rw [e4] at e1
    exact e1
end Go.Proofs.YtbpijlghdpflgaaDoor
