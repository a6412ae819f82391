/- Lists of timers of a call's own. -/
import Derived.Test.YtgcmljnjfghagaaTds
import Derived.Deep.AppendLies
import Derived.Lib.AppendZerosOnto
import Derived.Lib.AppendZeros
import Derived.Lib.Overlaps
import Derived.Shelf.RegionOpenPlain
import Derived.Laws.Cover3
namespace Go.Proofs.Ytgcmljnjfghagaa.Tm
open Go.RowKit Go.Shelf Go.Lib

/-- The cells of descriptors. -/
def cellsD (l : List De) : List Value := l.flatMap enc
theorem cellsD_length : ∀ l : List De, (cellsD l).length = l.length * 2
  | [] => rfl
  | d :: l => by
    have := cellsD_length l
    unfold cellsD at *
    rw [List.flatMap_cons, List.length_append, this, List.length_cons]
    show 2 + _ = _
    omega
theorem cellsD_append (l m : List De) : cellsD (l ++ m) = cellsD l ++ cellsD m := List.flatMap_append
theorem cellsD_cons (d : De) (l : List De) : cellsD (d :: l) = enc d ++ cellsD l := List.flatMap_cons
theorem cellsD_one (d : De) : cellsD [d] = enc d := by rw [cellsD_cons]; rfl
theorem cellsD_get : ∀ {l : List De} {j : Nat} {d : De}, l[j]? = some d → (cellsD l)[j * 2]? = some (.int .i64 d.1) ∧ (cellsD l)[j * 2 + 1]? = some (.int .i64 d.2)
  | [], _, _, h => by simp at h
  | x :: l, 0, d, h => by
    obtain rfl : x = d := by simpa using h
    exact ⟨rfl, rfl⟩
  | x :: l, j + 1, d, h => by
    have := cellsD_get (l := l) (j := j) (d := d) (by simpa using h)
    rw [cellsD_cons]
    have e : (j + 1) * 2 = j * 2 + 2 := by omega
    rw [e]
    exact this
theorem cellsD_take (l : List De) (k : Nat) : (cellsD l).take (k * 2) = cellsD (l.take k) := by
  rcases Nat.le_total k l.length with h | h
  · have h1 : cellsD l = cellsD (l.take k) ++ cellsD (l.drop k) := by rw [← cellsD_append, List.take_append_drop]
    rw [h1, List.take_append_of_le_length (by rw [cellsD_length, List.length_take]; omega), List.take_of_length_le (by rw [cellsD_length, List.length_take]; omega)]
  · rw [List.take_of_length_le h, List.take_of_length_le (by rw [cellsD_length]; omega)]
theorem cellsD_drop (l : List De) (k : Nat) : (cellsD l).drop (k * 2) = cellsD (l.drop k) := by
  rcases Nat.le_total k l.length with h | h
  · have h1 : cellsD l = cellsD (l.take k) ++ cellsD (l.drop k) := by rw [← cellsD_append, List.take_append_drop]
    rw [h1, List.drop_append_of_le_length (by rw [cellsD_length, List.length_take]; omega), List.drop_of_length_le (by rw [cellsD_length, List.length_take]; omega), List.nil_append]
  · rw [List.drop_of_length_le h, List.drop_of_length_le (by rw [cellsD_length]; omega)]
    rfl
theorem cellsD_one_cell (l : List De) : ∀ v ∈ cellsD l, v.oneCell' = true := by
  intro v hv
  obtain ⟨d, _, h⟩ := List.mem_flatMap.1 hv
  simp [enc] at h
  rcases h with rfl | rfl <;> rfl
/-- The value v is a slice of the call's own, from block B on, that holds l. -/
structure Od (w : World) (B : Nat) (v : Value) (l : List De) : Prop where
  own : w.ownsRow B 23 2 v l.length (cellsD l)
  max : l.length ≤ 100000
theorem Od.nil (w : World) (B : Nat) : Od w B (.slice none 0 0) [] := ⟨World.ownsRow_nil w B _ _, by simp⟩
theorem Od.kept {w w' : World} {B : Nat} {v : Value} {l : List De} {row : Option Nat} (h : Od w B v l) (hg : w.grownBy w' row) (hne : v.ownBlock = none ∨ v.ownBlock ≠ row) : Od w' B v l := ⟨h.own.kept hg hne, h.max⟩
theorem below_grown {w w' : World} (h : Below w.heap.size w w') : w.grownBy w' none := ⟨h.os, h.tape, h.output, h.size, fun k hk _ => h.block k hk⟩
theorem Od.below {w w' : World} {B : Nat} {v : Value} {l : List De} (h : Od w B v l) (hb : Below w.heap.size w w') : Od w' B v l := h.kept (below_grown hb) (by cases v.ownBlock <;> simp)
theorem Od.form {w : World} {B : Nat} {v : Value} {l : List De} (h : Od w B v l) : ∃ A c, v = .slice A l.length c ∧ Ds w w.heap.size A l.length c l ∧ c ≤ maxLen ∧ (∀ k, v.ownBlock = some k ↔ A = some ⟨k, 0, none⟩) := by
  obtain ⟨⟨hl, hor⟩, hm⟩ := h
  rcases hor with ⟨rfl, h0⟩ | ⟨g, cap, cur, rfl, hB, hg, hn, hc, hs, ht⟩
  · refine ⟨none, 0, by rw [h0], ?_, by unfold maxLen; omega, fun k => by simp [Value.ownBlock]⟩
    obtain rfl := List.length_eq_zero_iff.1 h0
    exact Ds.nil' w _
  · refine ⟨some ⟨g, 0, none⟩, cap, rfl, ⟨rfl, hn, by omega, fun e => (by cases e), fun _ => ⟨g, 0, rfl, lt_of_heap hg, fun j d hj => ?_⟩⟩, hc, fun k => by simp [Value.ownBlock]⟩
    have hj2 := (List.getElem?_eq_some_iff.1 hj).1
    obtain ⟨e1, e2⟩ := cellsD_get hj
    rw [← ht, List.getElem?_take] at e1 e2
    rw [if_pos (by omega)] at e1 e2
    rw [cell_of_row w g _ cur _ (0, 0) hg, cell_of_row w g _ cur _ (0, 0) hg, Nat.zero_add]
    exact ⟨by simpa using e1, by simpa using e2⟩
theorem infoD : (Try.prog.info? 23).map (fun i => (i.zero, i.size, i.bytes)) = some (some (.agg #[.int .i64 0, .int .i64 0]), 2, 16) := by kernel_rfl
theorem heap_setRow_far (w : World) (g : Nat) (c : Array Value) {b : Nat} (hne : b ≠ g) : (w.setRow g c).heap[b]? = w.heap[b]? := by
  unfold World.setRow
  simp only [Array.getElem?_modify]
  rw [if_neg (by omega)]
/-- What a call that changes a list of its own leaves: the new list l in v', from v. -/
structure Turned (w w' : World) (B : Nat) (v v' : Value) (l : List De) : Prop where
  own : Od w' B v' l
  grown : w.grownBy w' v.ownBlock
  at_ : v'.ownBlock = v.ownBlock ∨ v'.ownBlock = some w.heap.size
theorem own_lt {w : World} {B : Nat} {v : Value} {l : List De} (h : Od w B v l) : ∀ k, v.ownBlock = some k → B ≤ k ∧ k < w.heap.size := h.own.lt
theorem Ds.cells {w : World} {B n c : Nat} {A : Option Addr} {l : List De} (h : Ds w B A n c l) {b off : Nat} (hA : A = some ⟨b, off, none⟩) : ∀ j u, (cellsD l)[j]? = some u → w.cell? ((⟨b, off, none⟩ : Addr).add j) = some u := by
  intro j u hj
  have hjl := (List.getElem?_eq_some_iff.1 hj).1
  rw [cellsD_length, h.len] at hjl
  obtain ⟨b', off', e, _, hc⟩ := h.at_ (by omega)
  rw [hA] at e
  injection e with e
  injection e with e1 e2
  subst e1
  subst e2
  obtain ⟨d, hd⟩ := h.get (show j / 2 < n by omega)
  obtain ⟨c1, c2⟩ := hc _ d hd
  obtain ⟨g1, g2⟩ := cellsD_get hd
  rw [Addr.add_lit]
  rcases Nat.mod_two_eq_zero_or_one j with h0 | h0
  · have e : j / 2 * 2 = j := by omega
    rw [e] at c1 g1
    rw [hj] at g1
    injection g1 with g1
    rw [g1]
    exact c1
  · have e : j / 2 * 2 + 1 = j := by omega
    rw [Nat.add_assoc, e] at c2
    rw [e] at g2
    rw [hj] at g2
    injection g2 with g2
    rw [g2]
    exact c2
theorem run_appD {w : World} {B C m c : Nat} {v : Value} {A : Option Addr} {l r : List De} (ty : TypeId) (hO : Od w B v l) (hD : Ds w C A m c r) (hn : l.length + m ≤ 100000) (hB : B ≤ w.heap.size) :
    ∃ v' w', (Builtin.append_ #[27, 27] ty #[v, .slice A m c]).run Try.prog w = .ok v' w' ∧ Turned w w' B v v' (l ++ r) := by
  obtain ⟨i0, hi0, hz0, hzs, hzb⟩ := info_parts infoD
  rcases Nat.eq_zero_or_pos m with h0 | h0
  · subst h0
    obtain rfl := List.length_eq_zero_iff.1 hD.len
    refine ⟨v, w, ?_, ⟨by rw [List.append_nil]; exact hO, ⟨rfl, rfl, rfl, Nat.le_refl _, fun _ _ _ => rfl⟩, .inl rfl⟩⟩
    obtain ⟨D, d, rfl, hF, _⟩ := hO.form
    have hc := hF.cap
    cases D with
    | none =>
      obtain ⟨e1, e2⟩ := hF.nil rfl
      rw [e1, e2]
      cases A <;> simp [Builtin.append_, run_underlying Try.underlying27, sizeOf, typeInfo, hi0, Builtin.lenOf, Builtin.firstCells, loadCells, loadCellsFrom]
    | some a =>
      cases A <;> simp [Builtin.append_, run_underlying Try.underlying27, sizeOf, typeInfo, hi0, Builtin.lenOf, Builtin.firstCells, loadCells, loadCellsFrom, storeCells, hc]
  · obtain ⟨b, off, rfl, _, _⟩ := hD.at_ h0
    obtain ⟨v', w', hr, h2, h3, _, h5⟩ := run_append_own_at (P := Try.prog) w B 27 ty 23 i0 _ 2 16 Try.underlying27 hi0 hz0 hzs hzb rfl (by decide) v l.length _ hO.own ⟨b, off, none⟩ m c (cellsD r) (by rw [cellsD_length, hD.len]) (hD.cells rfl) (cellsD_one_cell r) (by unfold maxLen; omega) (by omega) hB
    refine ⟨v', w', hr, ⟨⟨?_, by rw [List.length_append, hD.len]; exact hn⟩, h3, h5⟩⟩
    rw [List.length_append, hD.len, cellsD_append]
    exact h2
/-- At the operation, in a plain region. -/
theorem list_appD {w : World} {ops : Array Oper} {rest : List Oper} {o : Oper} {a : Act} {Q : Exit → Act → World → Prop} (hgd : o.guard = none) (s x : Operand)
    (ho : o.op = .call { callee := .builtin .append, args := #[s, x], argTypes := #[27, 27] }) {B C m c : Nat} {v : Value} {A : Option Addr} {l r : List De} (hs : a.eval s = v) (hx : a.eval x = .slice A m c)
    (hO : Od w B v l) (hD : Ds w C A m c r) (hn : l.length + m ≤ 100000) (hB : B ≤ w.heap.size)
    (h : ∀ v' w', Hid (Turned w w' B v v' (l ++ r)) → wpList Try.prog ops Q rest (a.put o.dst v') w') : wpList Try.prog ops Q (o :: rest) a w := by
  obtain ⟨v', w', hr, hT⟩ := run_appD o.type hO hD hn hB
  exact Lib.wpList_append_run w hgd s x _ _ ho _ _ hs hx v' w' hr (h v' w' (hid hT))
/-- At a step of a region that draws its order. -/
theorem step_appD {w : World} {ops : Array Oper} {o : Oper} {a : Act} {K : Act → World → Prop} {Q : Exit → Act → World → Prop} {E : Prop} (hgd : o.guard = none) (s x : Operand)
    (ho : o.op = .call { callee := .builtin .append, args := #[s, x], argTypes := #[27, 27] }) {B C m c : Nat} {v : Value} {A : Option Addr} {l r : List De} (hs : a.eval s = v) (hx : a.eval x = .slice A m c)
    (hO : Od w B v l) (hD : Ds w C A m c r) (hn : l.length + m ≤ 100000) (hB : B ≤ w.heap.size)
    (h : ∀ v' w', Hid (Turned w w' B v v' (l ++ r)) → K (a.put o.dst v') w') : if Region.wanted o (yielded ops a.tmps) = true then Oper.wp Try.prog o a w K Q else E := by
  obtain ⟨v', w', hr, hT⟩ := run_appD o.type hO hD hn hB
  have hw : Region.wanted o (yielded ops a.tmps) = true := by simp [Region.wanted, hgd]
  rw [if_pos hw]
  exact Lib.wp_append_run w s x _ _ ho _ _ hs hx v' w' hr (h v' w' (hid hT))
theorem run_appR {w : World} {B C m c : Nat} {v : Value} {A : Option Addr} {l r : List De} (ty : TypeId) (hO : Od w B v l) (hD : Ds w C A m c r) (hn : l.length + m ≤ 100000) (hB : B ≤ w.heap.size) :
    ∃ v' w', (Builtin.append_ #[68, 68] ty #[v, .slice A m c]).run Try.prog w = .ok v' w' ∧ Turned w w' B v v' (l ++ r) := by
  obtain ⟨i0, hi0, hz0, hzs, hzb⟩ := info_parts infoD
  rcases Nat.eq_zero_or_pos m with h0 | h0
  · subst h0
    obtain rfl := List.length_eq_zero_iff.1 hD.len
    refine ⟨v, w, ?_, ⟨by rw [List.append_nil]; exact hO, ⟨rfl, rfl, rfl, Nat.le_refl _, fun _ _ _ => rfl⟩, .inl rfl⟩⟩
    obtain ⟨D, d, rfl, hF, _⟩ := hO.form
    have hc := hF.cap
    cases D with
    | none =>
      obtain ⟨e1, e2⟩ := hF.nil rfl
      rw [e1, e2]
      cases A <;> simp [Builtin.append_, run_underlying Try.underlying68, sizeOf, typeInfo, hi0, Builtin.lenOf, Builtin.firstCells, loadCells, loadCellsFrom]
    | some a =>
      cases A <;> simp [Builtin.append_, run_underlying Try.underlying68, sizeOf, typeInfo, hi0, Builtin.lenOf, Builtin.firstCells, loadCells, loadCellsFrom, storeCells, hc]
  · obtain ⟨b, off, rfl, _, _⟩ := hD.at_ h0
    obtain ⟨v', w', hr, h2, h3, _, h5⟩ := run_append_own_at (P := Try.prog) w B 68 ty 23 i0 _ 2 16 Try.underlying68 hi0 hz0 hzs hzb rfl (by decide) v l.length _ hO.own ⟨b, off, none⟩ m c (cellsD r) (by rw [cellsD_length, hD.len]) (hD.cells rfl) (cellsD_one_cell r) (by unfold maxLen; omega) (by omega) hB
    refine ⟨v', w', hr, ⟨⟨?_, by rw [List.length_append, hD.len]; exact hn⟩, h3, h5⟩⟩
    rw [List.length_append, hD.len, cellsD_append]
    exact h2
/-- At the operation, in a plain region. -/
theorem list_appR {w : World} {ops : Array Oper} {rest : List Oper} {o : Oper} {a : Act} {Q : Exit → Act → World → Prop} (hgd : o.guard = none) (s x : Operand)
    (ho : o.op = .call { callee := .builtin .append, args := #[s, x], argTypes := #[68, 68] }) {B C m c : Nat} {v : Value} {A : Option Addr} {l r : List De} (hs : a.eval s = v) (hx : a.eval x = .slice A m c)
    (hO : Od w B v l) (hD : Ds w C A m c r) (hn : l.length + m ≤ 100000) (hB : B ≤ w.heap.size)
    (h : ∀ v' w', Hid (Turned w w' B v v' (l ++ r)) → wpList Try.prog ops Q rest (a.put o.dst v') w') : wpList Try.prog ops Q (o :: rest) a w := by
  obtain ⟨v', w', hr, hT⟩ := run_appR o.type hO hD hn hB
  exact Lib.wpList_append_run w hgd s x _ _ ho _ _ hs hx v' w' hr (h v' w' (hid hT))
/-- At a step of a region that draws its order. -/
theorem step_appR {w : World} {ops : Array Oper} {o : Oper} {a : Act} {K : Act → World → Prop} {Q : Exit → Act → World → Prop} {E : Prop} (hgd : o.guard = none) (s x : Operand)
    (ho : o.op = .call { callee := .builtin .append, args := #[s, x], argTypes := #[68, 68] }) {B C m c : Nat} {v : Value} {A : Option Addr} {l r : List De} (hs : a.eval s = v) (hx : a.eval x = .slice A m c)
    (hO : Od w B v l) (hD : Ds w C A m c r) (hn : l.length + m ≤ 100000) (hB : B ≤ w.heap.size)
    (h : ∀ v' w', Hid (Turned w w' B v v' (l ++ r)) → K (a.put o.dst v') w') : if Region.wanted o (yielded ops a.tmps) = true then Oper.wp Try.prog o a w K Q else E := by
  obtain ⟨v', w', hr, hT⟩ := run_appR o.type hO hD hn hB
  have hw : Region.wanted o (yielded ops a.tmps) = true := by simp [Region.wanted, hgd]
  rw [if_pos hw]
  exact Lib.wp_append_run w s x _ _ ho _ _ hs hx v' w' hr (h v' w' (hid hT))
/-- At a step of a region that draws its order, behind the guard. -/
theorem wp_appR {w : World} {o : Oper} {a : Act} {K : Act → World → Prop} {Q : Exit → Act → World → Prop} (s x : Operand)
    (ho : o.op = .call { callee := .builtin .append, args := #[s, x], argTypes := #[68, 68] }) {B C m c : Nat} {v : Value} {A : Option Addr} {l r : List De} (hs : a.eval s = v) (hx : a.eval x = .slice A m c)
    (hO : Od w B v l) (hD : Ds w C A m c r) (hn : l.length + m ≤ 100000) (hB : B ≤ w.heap.size)
    (h : ∀ v' w', Hid (Turned w w' B v v' (l ++ r)) → K (a.put o.dst v') w') : Oper.wp Try.prog o a w K Q := by
  obtain ⟨v', w', hr, hT⟩ := run_appR o.type hO hD hn hB
  exact Lib.wp_append_run w s x _ _ ho _ _ hs hx v' w' hr (h v' w' (hid hT))
/-- At a step of a region that draws its order, behind the guard. -/
theorem wp_appD {w : World} {o : Oper} {a : Act} {K : Act → World → Prop} {Q : Exit → Act → World → Prop} (s x : Operand)
    (ho : o.op = .call { callee := .builtin .append, args := #[s, x], argTypes := #[27, 27] }) {B C m c : Nat} {v : Value} {A : Option Addr} {l r : List De} (hs : a.eval s = v) (hx : a.eval x = .slice A m c)
    (hO : Od w B v l) (hD : Ds w C A m c r) (hn : l.length + m ≤ 100000) (hB : B ≤ w.heap.size)
    (h : ∀ v' w', Hid (Turned w w' B v v' (l ++ r)) → K (a.put o.dst v') w') : Oper.wp Try.prog o a w K Q := by
  obtain ⟨v', w', hr, hT⟩ := run_appD o.type hO hD hn hB
  exact Lib.wp_append_run w s x _ _ ho _ _ hs hx v' w' hr (h v' w' (hid hT))
theorem Ds.first {w : World} {B n c : Nat} {A : Option Addr} {l : List De} (h : Ds w B A n c l) {p : Nat} (hp : p ≤ n) : Ds w B A p c (l.take p) := by
  have hl := h.len
  have hcap := h.cap
  refine ⟨by rw [List.length_take]; omega, by omega, Nat.le_trans (by omega) h.max, fun hA => ?_, fun h0 => ?_⟩
  · have := h.nil hA
    omega
  · obtain ⟨b, off, rfl, hB, hc⟩ := h.at_ (by omega)
    refine ⟨b, off, rfl, hB, fun j d hj => hc j d ?_⟩
    rw [List.getElem?_take] at hj
    split at hj
    · exact hj
    · cases hj
theorem Ds.drop {w : World} {B n c g : Nat} {l : List De} (h : Ds w B (some ⟨g, 0, none⟩) n c l) {p : Nat} (hp : p ≤ n) : Ds w B (some ⟨g, p * 2, none⟩) (n - p) (c - p) (l.drop p) := by
  have hl := h.len
  have hcap := h.cap
  refine ⟨by rw [List.length_drop]; omega, by omega, Nat.le_trans (by omega) h.max, fun hA => (by cases hA), fun h0 => ?_⟩
  obtain ⟨b, off, e, hB, hc⟩ := h.at_ (by omega)
  injection e with e
  injection e with e1 e2
  subst e1
  subst e2
  refine ⟨g, p * 2, rfl, hB, fun j d hj => ?_⟩
  rw [List.getElem?_drop] at hj
  have := hc _ d hj
  rw [show 0 + (p + j) * 2 = p * 2 + j * 2 by omega] at this
  exact this
theorem Ds.none' (w : World) (B c : Nat) (a : Addr) : Ds w B (some a) 0 c [] := ⟨rfl, Nat.zero_le _, by omega, fun e => (by cases e), fun h => absurd h (by omega)⟩
theorem new_row {w : World} {o : Obj} {N : Nat} (h : w.heap.size = N) : (w.alloc o).heap[N]? = some o := by
  subst h
  exact heap_alloc_new w o
theorem od_at {X : World} {B N : Nat} (h : X.heap[N]? = some (.cells #[] 23 (0, 0))) (hB : B ≤ N) : Od X B (.slice (some ⟨N, 0, none⟩) 0 0) [] :=
  ⟨⟨by simp [cellsD], .inr ⟨N, 0, #[], rfl, hB, h, Nat.le_refl _, by unfold maxLen; omega, rfl, rfl⟩⟩, by simp⟩
theorem ds_at {X : World} {N : Nat} {d1 d2 : Int} (h : X.heap[N]? = some (.cells #[.int .i64 d1, .int .i64 d2] 23 (0, 0))) : Ds X X.heap.size (some ⟨N, 0, none⟩) 1 1 [(d1, d2)] :=
  ⟨rfl, Nat.le_refl _, by omega, fun e => (by cases e), fun _ => ⟨N, 0, rfl, lt_of_heap h, fun j d hj => by
    match j, hj with
    | 0, hj =>
      obtain rfl : (d1, d2) = d := by simpa using hj
      rw [cell_of_row X N _ _ _ (0, 0) h, cell_of_row X N _ _ _ (0, 0) h]
      exact ⟨rfl, rfl⟩
    | j + 1, hj => simp at hj⟩⟩
theorem ds_row {X : World} {N : Nat} {l : List De} (h : X.heap[N]? = some (.cells (cellsD l).toArray 23 (0, 0))) (hl : l.length ≤ 1000) : Ds X X.heap.size (some ⟨N, 0, none⟩) l.length l.length l :=
  ⟨rfl, Nat.le_refl _, by omega, fun e => (by cases e), fun _ => ⟨N, 0, rfl, lt_of_heap h, fun j d hj => by
    obtain ⟨g1, g2⟩ := cellsD_get hj
    rw [cell_of_row X N _ _ _ (0, 0) h, cell_of_row X N _ _ _ (0, 0) h, Nat.zero_add]
    exact ⟨by simpa using g1, by simpa using g2⟩⟩⟩
theorem take_snoc {l : List De} {k : Nat} {d : De} (h : l[k]? = some d) : l.take (k + 1) = l.take k ++ [d] := by
  rw [List.take_add_one, h]
  rfl
/-- A cut of an own list. -/
theorem Od.cut {w : World} {B c : Nat} {A : Option Addr} {l : List De} (h : Od w B (.slice A l.length c) l) {k : Nat} (hk : k ≤ l.length) : Od w B (.slice A k c) (l.take k) := by
  obtain ⟨⟨hl, hor⟩, hm⟩ := h
  have hlk : (l.take k).length = k := by rw [List.length_take]; omega
  refine ⟨⟨by rw [cellsD_length], ?_⟩, by rw [hlk]; omega⟩
  rcases hor with ⟨e, h0⟩ | ⟨g, cap, cur, e, hB, hg, hn, hc, hs, ht⟩
  · injection e with e1 e2 e3
    subst e1
    subst e3
    refine .inl ⟨?_, by omega⟩
    rw [show k = 0 by omega]
  · injection e with e1 e2 e3
    subst e1
    subst e3
    refine .inr ⟨g, c, cur, by rw [hlk], hB, hg, by omega, hc, hs, ?_⟩
    rw [hlk, ← cellsD_take, ← ht, List.take_take]
    congr 1
    omega
theorem grown_self (w : World) (o : Option Nat) : w.grownBy w o := ⟨rfl, rfl, rfl, Nat.le_refl _, fun _ _ _ => rfl⟩
theorem grown_on {w wr w' : World} {o : Option Nat} (h : w.grownBy wr o) (k : wr.grownBy w' o) : w.grownBy w' o :=
  ⟨k.os.trans h.os, k.tape.trans h.tape, k.output.trans h.output, Nat.le_trans h.size k.size, fun j hj hne => (k.block j (Nat.lt_of_lt_of_le hj h.size) hne).trans (h.block j hj hne)⟩
theorem below_grow {w w' : World} (o : Option Nat) (h : Below w.heap.size w w') : w.grownBy w' o := ⟨h.os, h.tape, h.output, h.size, fun k hk _ => h.block k hk⟩
theorem cellsD_set : ∀ (l : List De) (i : Nat) (d : De), cellsD (l.set i d) = ((cellsD l).set (i * 2) (.int .i64 d.1)).set (i * 2 + 1) (.int .i64 d.2)
  | [], i, d => by simp [cellsD]
  | x :: l, 0, d => by rw [List.set_cons_zero, cellsD_cons, cellsD_cons]; rfl
  | x :: l, i + 1, d => by
    rw [List.set_cons_succ, cellsD_cons, cellsD_cons, cellsD_set l i d, show (i + 1) * 2 = i * 2 + 1 + 1 by omega]
    rfl
/-- An element of an own list is written over. -/
theorem Od.put {w : World} {B g n cap : Nat} {l : List De} (h : Od w B (.slice (some ⟨g, 0, none⟩) n cap) l) (i : Nat) (d : De) :
    Od ((w.setCell ⟨g, i * 2, none⟩ (.int .i64 d.1)).setCell ⟨g, i * 2 + 1, none⟩ (.int .i64 d.2)) B (.slice (some ⟨g, 0, none⟩) n cap) (l.set i d) ∧ w.grownBy ((w.setCell ⟨g, i * 2, none⟩ (.int .i64 d.1)).setCell ⟨g, i * 2 + 1, none⟩ (.int .i64 d.2)) (some g) := by
  obtain ⟨⟨hl, hor⟩, hm⟩ := h
  rcases hor with ⟨e, _⟩ | ⟨g', cap', cur, e, hB, hg, hn, hc, hs, ht⟩
  · cases e
  · injection e with e1 e2 e3
    injection e1 with e1
    injection e1 with e1 _ _
    subst e1
    subst e2
    subst e3
    have h1 := heap_setCell_same w g (i * 2) cur _ (.int .i64 d.1) hg
    have h2 := heap_setCell_same _ g (i * 2 + 1) _ _ (.int .i64 d.2) h1
    refine ⟨⟨⟨by rw [cellsD_length], .inr ⟨g, cap, _, by rw [List.length_set], hB, h2, by rw [List.length_set]; exact hn, hc, by simpa using hs, ?_⟩⟩, by rw [List.length_set]; exact hm⟩, ⟨rfl, rfl, rfl, by simp [World.setCell], fun k hk hne => ?_⟩⟩
    · rw [List.length_set, Array.toList_setIfInBounds, Array.toList_setIfInBounds, List.take_set, List.take_set, ht, cellsD_set]
    · have hkg : k ≠ g := fun e => hne (by rw [e])
      exact (Below.heap_setCell _ ⟨g, i * 2 + 1, none⟩ _ k hkg).trans (Below.heap_setCell w ⟨g, i * 2, none⟩ _ k hkg)
/-- What is behind i is cleared. -/
theorem run_clearD {w : World} {B g n cap i : Nat} {l : List De} (h : Od w B (.slice (some ⟨g, 0, none⟩) n cap) l) (hi : i ≤ n) :
    ∃ w', (∀ ty c', (Builtin.clear_ #[27] ty #[.slice (some ⟨g, i * 2, none⟩) (n - i) c']).run Try.prog w = .ok (.tuple #[]) w') ∧ Od w' B (.slice (some ⟨g, 0, none⟩) i cap) (l.take i) ∧ w.grownBy w' (some g) := by
  obtain ⟨i0, hi0, hz0, hzs, hzb⟩ := info_parts infoD
  have h0 := h
  obtain ⟨⟨hl, hor⟩, hm⟩ := h
  rcases hor with ⟨e, _⟩ | ⟨g', cap', cur, e, hB, hg, hn, hc, hs, ht⟩
  · cases e
  injection e with e1 e2 e3
  injection e1 with e1
  injection e1 with e1 _ _
  subst e1
  subst e2
  subst e3
  rcases Nat.eq_zero_or_pos (l.length - i) with hz | hz
  · refine ⟨w, fun ty c' => ?_, Od.cut h0 hi, grown_self w _⟩
    rw [hz]
    simp [Builtin.clear_, run_underlying Try.underlying27]
  · obtain ⟨cs, hcs⟩ : ∃ cs, cs = (Builtin.zeroCells (Value.agg #[.int .i64 0, .int .i64 0]).cells (l.length - i)).toList := ⟨_, rfl⟩
    have hcl : cs.length = (l.length - i) * 2 := by rw [hcs, Array.length_toList, size_zeroCells]; rfl
    have hco : ∀ v ∈ cs, v.oneCell' = true := by
      intro v hv
      rw [hcs] at hv
      obtain ⟨j, hj⟩ := List.mem_iff_getElem?.1 hv
      simp only [Builtin.zeroCells] at hj
      simp at hj
      obtain ⟨q, _, hq⟩ := hj
      have hz2 : (Value.agg #[.int .i64 0, .int .i64 0]).cells = #[.int .i64 0, .int .i64 0] := rfl
      rw [hz2] at hq
      rw [← hq]
      rcases Nat.mod_two_eq_zero_or_one q with h3 | h3
      · rw [show q % (#[Value.int .i64 0, .int .i64 0] : Array Value).size = 0 from h3]; rfl
      · rw [show q % (#[Value.int .i64 0, .int .i64 0] : Array Value).size = 1 from h3]; rfl
    have hst := run_storeCells_at Try.prog g (i * 2) 23 cs 0 cur w hg (by rw [hcl]; omega) hco
    simp only [Nat.add_zero] at hst
    refine ⟨w.setRow g (cur.toList.take (i * 2) ++ cs ++ cur.toList.drop (i * 2 + cs.length)).toArray, fun ty c' => ?_, ?_, ?_⟩
    · obtain ⟨m, hm2⟩ : ∃ m, l.length - i = m + 1 := ⟨l.length - i - 1, by omega⟩
      have hzv : (zeroValue 23).run Try.prog w = .ok (.agg #[.int .i64 0, .int .i64 0]) w := by simp [zeroValue, typeInfo, hi0, hz0]
      rw [hm2] at hcs
      rw [hm2]
      simp [Builtin.clear_, run_underlying Try.underlying27, hzv, ← hcs, hst]
    · have hli : (l.take i).length = i := by rw [List.length_take]; omega
      refine ⟨⟨by rw [cellsD_length], .inr ⟨g, cap, _, by rw [hli], hB, setRow_heap w g cur _ _ _ hg, by rw [hli]; omega, hc, ?_, ?_⟩⟩, by rw [hli]; omega⟩
      · rw [← Array.length_toList]
        simp only [List.length_append, List.length_take, List.length_drop, Array.length_toList, hcl]
        omega
      · have h1 : (cur.toList.take (i * 2)).length = i * 2 := by rw [List.length_take, Array.length_toList]; omega
        rw [hli, List.append_assoc]
        rw [List.take_append_of_le_length (by omega), List.take_take, Nat.min_self, ← cellsD_take, ← ht, List.take_take, Nat.min_eq_left (by omega)]
    · refine ⟨rfl, rfl, rfl, by simp [World.setRow], fun k hk hne => heap_setRow_far w g _ (fun e => hne (by rw [e]))⟩
theorem Od.row {w : World} {B g n c : Nat} {l : List De} (h : Od w B (.slice (some ⟨g, 0, none⟩) n c) l) : l.length = n ∧ B ≤ g ∧ g < w.heap.size ∧ n ≤ c ∧ (∀ k, w.frozen? ⟨g, k, none⟩ = false) ∧ ∀ j d, l[j]? = some d → w.cell? ⟨g, j * 2, none⟩ = some (.int .i64 d.1) ∧ w.cell? ⟨g, j * 2 + 1, none⟩ = some (.int .i64 d.2) := by
  obtain ⟨A, c', e, hD, _, _⟩ := h.form
  injection e with e1 e2 e3
  subst e1
  subst e2
  subst e3
  rcases h.own.2 with ⟨e, _⟩ | ⟨g', cap', cur, e, hB, hg, hn, hc, hs, ht⟩
  · cases e
  · injection e with e1 e2 e3
    injection e1 with e1
    injection e1 with e1 _ _
    subst e1
    refine ⟨rfl, hB, lt_of_heap hg, hD.cap, fun k => frozen_of_row w g k _ _ hg, fun j d hj => ?_⟩
    have hjl := (List.getElem?_eq_some_iff.1 hj).1
    obtain ⟨b, off, e, _, hcc⟩ := hD.at_ (by omega)
    injection e with e
    injection e with e1 e2
    subst e1
    subst e2
    have := hcc j d hj
    rw [Nat.zero_add] at this
    exact this
theorem put_step {cur l : List De} {i j : Nat} {d : De} {F : List De} (hij : i < j) (hj : j < l.length) (hc : cur.length = l.length) (h1 : cur.take i = F) (h2 : cur.drop j = l.drop j) : (cur.set i d).length = l.length ∧ (cur.set i d).take (i + 1) = F ++ [d] ∧ (cur.set i d).drop (j + 1) = l.drop (j + 1) := by
  refine ⟨by rw [List.length_set]; exact hc, ?_, ?_⟩
  · rw [List.take_add_one, List.take_set, h1, List.set_eq_of_length_le (by rw [← h1, List.length_take]; omega), List.getElem?_set_self (by omega)]
    rfl
  · rw [List.drop_set_of_lt (by omega), ← List.drop_drop, h2, List.drop_drop]
/-- The row of a list of the call's own, whatever stands in it. -/
def RowC (w : World) (A : Option Addr) (m c : Nat) : Prop := 0 < m → ∃ (g : Nat) (cur : Array Value), A = some ⟨g, 0, none⟩ ∧ w.heap[g]? = some (.cells cur 23 (0, 0)) ∧ m * 2 ≤ cur.size ∧ m ≤ c
theorem Od.rowC {w : World} {B m c : Nat} {A : Option Addr} {l : List De} (h : Od w B (.slice A m c) l) : RowC w A m c := fun hm => by
  rcases h.own.2 with ⟨e, _⟩ | ⟨g, cap, cur, e, _, hg, hn, _, hs, _⟩
  · injection e with _ e2 _
    omega
  · injection e with e1 e2 e3
    exact ⟨g, cur, e1, hg, by omega, by omega⟩
theorem RowC.store {w : World} {A : Option Addr} {m c g k : Nat} {cur : Array Value} (hA : A = some ⟨g, 0, none⟩) (hg : w.heap[g]? = some (.cells cur 23 (0, 0))) (h2 : m * 2 ≤ cur.size) (h3 : m ≤ c) (u : Value) :
    RowC (w.setCell ⟨g, k, none⟩ u) A m c ∧ w.grownBy (w.setCell ⟨g, k, none⟩ u) (Value.slice A m c).ownBlock := by
  refine ⟨fun _ => ⟨g, _, hA, heap_setCell_same w g k cur _ u hg, by simpa using h2, h3⟩, ⟨rfl, rfl, rfl, by simp [World.setCell], fun j hj hne => Below.heap_setCell w ⟨g, k, none⟩ u j (fun e => hne ?_)⟩⟩
  rw [hA, e]
  rfl
theorem bw_alloc {W X : World} {o : Obj} (h : Below W.heap.size W X) : Below W.heap.size W (X.alloc o) := h.alloc h.size o
theorem bw_drew {W X : World} (h : Below W.heap.size W X) : Below W.heap.size W X.drew := h.drew
theorem od_letter {w : World} {B : Nat} {v : Value} {l : List De} (h : Od w B v l) : ∃ A n c, v = .slice A n c ∧ Od w B (.slice A n c) l ∧ Ds w w.heap.size A n c l := by
  obtain ⟨A, c, rfl, hD, _⟩ := h.form
  exact ⟨A, _, c, rfl, h, hD⟩
theorem dsb {X Y : World} {A : Option Addr} {n c : Nat} {l : List De} (h : Ds X X.heap.size A n c l) (b : Below X.heap.size X Y) : Ds Y Y.heap.size A n c l := (h.below b).mono b.size
/-- Two own lists that lie apart. -/
theorem apart8 {w : World} {B N : Nat} {u v : Value} {l : List De} (h : Od w B v l) (hN : ∀ g, u.ownBlock = some g → g < N) (hB : N ≤ B) : v.ownBlock = none ∨ v.ownBlock ≠ u.ownBlock := by
  cases hv : v.ownBlock with
  | none => exact .inl rfl
  | some g => exact .inr (fun e => by
      have h1 := (own_lt h g hv).1
      have h2 := hN g e.symm
      omega)
theorem bw_then {W X Y : World} (h : Below W.heap.size W X) (k : Below X.heap.size X Y) : Below W.heap.size W Y := h.trans (k.mono h.size)
/-- A spoil of a list that lies from N on leaves what lies below. -/
theorem spoil_below {N : Nat} {w w' : World} {u : Value} {B : Nat} {l : List De} (h : w.grownBy w' u.ownBlock) (hO : Od w B u l) (hB : N ≤ B) (hN : N ≤ w.heap.size) : Below N w w' :=
  ⟨h.os, h.tape, h.output, h.size, fun k hk => h.block k (by omega) (fun e => by have := (own_lt hO k e.symm).1; omega)⟩
end Go.Proofs.Ytgcmljnjfghagaa.Tm
