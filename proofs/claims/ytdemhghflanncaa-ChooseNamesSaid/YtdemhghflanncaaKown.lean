/- Lists of descriptors of a call's own; slices.Insert into one. -/
import Derived.Test.YtdemhghflanncaaKds
import Derived.Deep.AppendLies
import Derived.Lib.AppendZerosOnto
import Derived.Lib.Overlaps
import Derived.Shelf.RegionOpenPlain
import Derived.Shelf.Spec.SlicesInsert
namespace Go.Proofs.Ytdemhghflanncaa
open Go.RowKit Go.Shelf

/-- The cells of descriptors. -/
def cellsD (l : List De) : List Value := l.flatMap enc
theorem cellsD_length : ∀ l : List De, (cellsD l).length = l.length * 2
  | [] => rfl
  | d :: l => by
    have := cellsD_length l
    unfold cellsD at *
    rw [List.flatMap_cons, List.length_append, this, List.length_cons]
    show 2 + _ = _
    omega
theorem cellsD_append (l m : List De) : cellsD (l ++ m) = cellsD l ++ cellsD m := List.flatMap_append
theorem cellsD_cons (d : De) (l : List De) : cellsD (d :: l) = enc d ++ cellsD l := List.flatMap_cons
theorem cellsD_one (d : De) : cellsD [d] = enc d := by rw [cellsD_cons]; rfl
theorem cellsD_get : ∀ {l : List De} {j : Nat} {d : De}, l[j]? = some d → (cellsD l)[j * 2]? = some (.int .i64 d.1) ∧ (cellsD l)[j * 2 + 1]? = some (.int .i64 d.2)
  | [], _, _, h => by simp at h
  | x :: l, 0, d, h => by
    obtain rfl : x = d := by simpa using h
    exact ⟨rfl, rfl⟩
  | x :: l, j + 1, d, h => by
    have := cellsD_get (l := l) (j := j) (d := d) (by simpa using h)
    rw [cellsD_cons]
    have e : (j + 1) * 2 = j * 2 + 2 := by omega
    rw [e]
    exact this
theorem cellsD_take (l : List De) (k : Nat) : (cellsD l).take (k * 2) = cellsD (l.take k) := by
  rcases Nat.le_total k l.length with h | h
  · have h1 : cellsD l = cellsD (l.take k) ++ cellsD (l.drop k) := by rw [← cellsD_append, List.take_append_drop]
    rw [h1, List.take_append_of_le_length (by rw [cellsD_length, List.length_take]; omega), List.take_of_length_le (by rw [cellsD_length, List.length_take]; omega)]
  · rw [List.take_of_length_le h, List.take_of_length_le (by rw [cellsD_length]; omega)]
theorem cellsD_drop (l : List De) (k : Nat) : (cellsD l).drop (k * 2) = cellsD (l.drop k) := by
  rcases Nat.le_total k l.length with h | h
  · have h1 : cellsD l = cellsD (l.take k) ++ cellsD (l.drop k) := by rw [← cellsD_append, List.take_append_drop]
    rw [h1, List.drop_append_of_le_length (by rw [cellsD_length, List.length_take]; omega), List.drop_of_length_le (by rw [cellsD_length, List.length_take]; omega), List.nil_append]
  · rw [List.drop_of_length_le h, List.drop_of_length_le (by rw [cellsD_length]; omega)]
    rfl
theorem cellsD_one_cell (l : List De) : ∀ v ∈ cellsD l, v.oneCell' = true := by
  intro v hv
  obtain ⟨d, _, h⟩ := List.mem_flatMap.1 hv
  simp [enc] at h
  rcases h with rfl | rfl <;> rfl

/-- The value v is a slice of the call's own, from block B on, that holds l. -/
structure Od (w : World) (B : Nat) (v : Value) (l : List De) : Prop where
  own : w.ownsRow B 23 2 v l.length (cellsD l)
  max : l.length ≤ 100000

theorem Od.nil (w : World) (B : Nat) : Od w B (.slice none 0 0) [] := ⟨World.ownsRow_nil w B _ _, by simp⟩
theorem Od.kept {w w' : World} {B : Nat} {v : Value} {l : List De} {row : Option Nat} (h : Od w B v l) (hg : w.grownBy w' row) (hne : v.ownBlock = none ∨ v.ownBlock ≠ row) : Od w' B v l := ⟨h.own.kept hg hne, h.max⟩
theorem below_grown {w w' : World} (h : Below w.heap.size w w') : w.grownBy w' none := ⟨h.os, h.tape, h.output, h.size, fun k hk _ => h.block k hk⟩
theorem Od.below {w w' : World} {B : Nat} {v : Value} {l : List De} (h : Od w B v l) (hb : Below w.heap.size w w') : Od w' B v l := h.kept (below_grown hb) (by cases v.ownBlock <;> simp)
theorem Od.form {w : World} {B : Nat} {v : Value} {l : List De} (h : Od w B v l) : ∃ A c, v = .slice A l.length c ∧ Ds w w.heap.size A l.length c l ∧ c ≤ maxLen ∧ (∀ k, v.ownBlock = some k ↔ A = some ⟨k, 0, none⟩) := by
  obtain ⟨⟨hl, hor⟩, hm⟩ := h
  rcases hor with ⟨rfl, h0⟩ | ⟨g, cap, cur, rfl, hB, hg, hn, hc, hs, ht⟩
  · refine ⟨none, 0, by rw [h0], ?_, by unfold maxLen; omega, fun k => by simp [Value.ownBlock]⟩
    obtain rfl := List.length_eq_zero_iff.1 h0
    exact Ds.nil' w _
  · refine ⟨some ⟨g, 0, none⟩, cap, rfl, ⟨rfl, hn, by omega, fun e => (by cases e), fun _ => ⟨g, 0, rfl, lt_of_heap hg, fun j d hj => ?_⟩⟩, hc, fun k => by simp [Value.ownBlock]⟩
    have hj2 := (List.getElem?_eq_some_iff.1 hj).1
    obtain ⟨e1, e2⟩ := cellsD_get hj
    rw [← ht, List.getElem?_take] at e1 e2
    rw [if_pos (by omega)] at e1 e2
    rw [cell_of_row w g _ cur _ (0, 0) hg, cell_of_row w g _ cur _ (0, 0) hg, Nat.zero_add]
    exact ⟨by simpa using e1, by simpa using e2⟩

theorem infoD : (Try.prog.info? 23).map (fun i => (i.zero, i.size, i.bytes)) = some (some (.agg #[.int .i64 0, .int .i64 0]), 2, 16) := by kernel_rfl

/-- copy onto a row that is known whole, of elements of k cells. -/
theorem run_copy_rowk {P : Program} (w : World) (dT sT ty elem : TypeId) (k g o dLen dCap : Nat) (a : Addr) (sLen sCap : Nat) (cur : Array Value) (t : TypeId) (cs : List Value)
    (hu : P.underlying dT = some (.slice elem)) (hs : (P.info? elem).map (·.size) = some k)
    (hg : w.heap[g]? = some (.cells cur t (0, 0))) (hn : cs.length = Nat.min sLen dLen * k)
    (hsrc : ∀ j v, cs[j]? = some v → w.cell? (a.add j) = some v) (hfit : o + cs.length ≤ cur.size) (h1 : ∀ v ∈ cs, v.oneCell' = true) :
    (Builtin.copy_ #[dT, sT] ty #[.slice (some ⟨g, o, none⟩) dLen dCap, .slice (some a) sLen sCap]).run P w =
      .ok (goInt (Nat.min sLen dLen)) (w.setRow g (cur.toList.take o ++ cs ++ cur.toList.drop (o + cs.length)).toArray) := by
  have hl := run_loadCells_list (P := P) w a cs hsrc
  have hst := run_storeCells_at P g o t cs 0 cur w hg (by simpa using hfit) h1
  cases hq : P.info? elem with
  | none => simp [hq] at hs
  | some i =>
    have hi : i.size = k := by simpa [hq] using hs
    simp [Builtin.copy_, run_underlying hu, Builtin.lenOf, Builtin.firstCells, sizeOf, typeInfo, hq, hi, ← hn, hl, hst]
end Go.Proofs.Ytdemhghflanncaa
