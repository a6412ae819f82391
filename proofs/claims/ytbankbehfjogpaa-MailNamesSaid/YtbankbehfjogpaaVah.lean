/- slices.Insert of one descriptor into a list of the call's own. -/
/- slices.Insert where there is no room, and at the end. -/
/- slices.Insert, in all its ways; a descriptor is laid into a row. -/
/- row.put: a descriptor goes ahead of the first one that it is fresher than. -/
/- row.put. -/
/- each: something is done with each of a list. -/
/- Best: one descriptor. -/
/- Best: of each node's descriptors the first one in order. -/
/- append of a list of descriptors onto one of the call's own. -/
/- The document's Sorted. -/
/- The document's Firsts. -/
/- Same of both sides. -/
/- Fresher of both sides; the document's Order and Best. -/
/- The laws' own helpers: four, alive. -/
/- A mail as it lies: its cells, its box; what is loaded out of it. -/
import Derived.Test.YtbankbehfjogpaaVag
import Derived.Deep.RegionHeld3
import Derived.Deep.DeepBigQuietO

namespace Go.Proofs.Ytbankbehfjogpaa
open Go.RowKit Go.Shelf Go.Lib

theorem heap_setRow_far (w : World) (g : Nat) (c : Array Value) {b : Nat} (hne : b ≠ g) : (w.setRow g c).heap[b]? = w.heap[b]? := by
  unfold World.setRow
  simp only [Array.getElem?_modify]
  rw [if_neg (by omega)]
theorem shift_list {cur : List Value} {l : List De} {d : De} {n i : Nat} (hi : i ≤ n) (hn : l.length = n) (hs : (n + 1) * 2 ≤ cur.length) (ht : cur.take (n * 2) = cellsD l) (cur1 cur2 : List Value)
    (h1 : cur1 = cur.take ((i + 1) * 2) ++ cellsD (l.drop i) ++ cur.drop ((i + 1) * 2 + (cellsD (l.drop i)).length)) (h2 : cur2 = cur1.take (i * 2) ++ enc d ++ cur1.drop (i * 2 + (enc d).length)) :
    cur1.length = cur.length ∧ cur2.length = cur.length ∧ cur2.take ((n + 1) * 2) = cellsD (l.take i ++ d :: l.drop i) := by
  have hX : (cellsD (l.drop i)).length = (n - i) * 2 := by rw [cellsD_length, List.length_drop, hn]
  have he : (enc d).length = 2 := rfl
  have e0 : cur.take (i * 2) = cellsD (l.take i) := by
    rw [← cellsD_take, ← ht, List.take_take, Nat.min_eq_left (by omega)]
  have l1 : cur1.length = cur.length := by
    rw [h1]
    simp only [List.length_append, List.length_take, List.length_drop, hX]
    omega
  have ltk : (cur.take ((i + 1) * 2)).length = i * 2 + 2 := by rw [List.length_take]; omega
  have e1 : cur1.take (i * 2) = cellsD (l.take i) := by
    rw [h1, List.append_assoc, List.take_append_of_le_length (by omega), List.take_take, Nat.min_eq_left (by omega), e0]
  have e2 : cur1.drop (i * 2 + 2) = cellsD (l.drop i) ++ cur.drop ((i + 1) * 2 + (cellsD (l.drop i)).length) := by
    rw [h1, List.append_assoc, List.drop_append_of_le_length (by omega), List.drop_of_length_le (by omega), List.nil_append]
  have l2 : cur2.length = cur.length := by
    rw [h2]
    simp only [List.length_append, List.length_take, List.length_drop, he, l1]
    omega
  refine ⟨l1, l2, ?_⟩
  rw [h2, he, e1, e2, cellsD_append, cellsD_cons, ← List.append_assoc, ← List.append_assoc]
  have hc : (cellsD (l.take i)).length = i * 2 := by rw [cellsD_length, List.length_take]; omega
  rw [List.take_append_of_le_length (by simp only [List.length_append, hc, he, hX]; omega), List.take_of_length_le (by simp only [List.length_append, hc, he, hX]; omega), List.append_assoc]

end Go.Proofs.Ytbankbehfjogpaa


namespace Go.Proofs.Ytbankbehfjogpaa
open Go.RowKit Go.Shelf Go.Lib

theorem below_setRow {B : Nat} {w W : World} (h : Below B w W) (g : Nat) (c : Array Value) (hg : B ≤ g) : Below B w (W.setRow g c) :=
  ⟨h.os, h.tape, h.output, by rw [show (W.setRow g c).heap.size = W.heap.size by simp [World.setRow]]; exact h.size, fun k hk => (heap_setRow_far W g c (show k ≠ g by omega)).trans (h.block k hk)⟩

theorem grow_list {cur : List Value} {l : List De} {d : De} {n i : Nat} (hi : i ≤ n) (hn : l.length = n) (hs : (n + 1) * 2 ≤ cur.length) (ht : cur.take (i * 2) = cellsD (l.take i)) (cur1 cur2 : List Value)
    (h1 : cur1 = cur.take (i * 2) ++ enc d ++ cur.drop (i * 2 + (enc d).length)) (h2 : cur2 = cur1.take ((i + 1) * 2) ++ cellsD (l.drop i) ++ cur1.drop ((i + 1) * 2 + (cellsD (l.drop i)).length)) :
    cur1.length = cur.length ∧ cur2.length = cur.length ∧ cur2.take ((n + 1) * 2) = cellsD (l.take i ++ d :: l.drop i) := by
  have hX : (cellsD (l.drop i)).length = (n - i) * 2 := by rw [cellsD_length, List.length_drop, hn]
  have he : (enc d).length = 2 := rfl
  have hc : (cellsD (l.take i)).length = i * 2 := by rw [cellsD_length, List.length_take]; omega
  have l1 : cur1.length = cur.length := by
    rw [h1]
    simp only [List.length_append, List.length_take, List.length_drop, he]
    omega
  have e1 : cur1.take ((i + 1) * 2) = cellsD (l.take i) ++ enc d := by
    rw [h1, List.take_append_of_le_length (by simp only [List.length_append, List.length_take, he]; omega), List.take_of_length_le (by simp only [List.length_append, List.length_take, he]; omega), ht]
  have l2 : cur2.length = cur.length := by
    rw [h2]
    simp only [List.length_append, List.length_take, List.length_drop, hX, l1]
    omega
  refine ⟨l1, l2, ?_⟩
  rw [h2, e1, cellsD_append, cellsD_cons, ← List.append_assoc]
  rw [List.take_append_of_le_length (by simp only [List.length_append, hc, he, hX]; omega), List.take_of_length_le (by simp only [List.length_append, hc, he, hX]; omega)]

end Go.Proofs.Ytbankbehfjogpaa


namespace Go.Proofs.Ytbankbehfjogpaa
open Go.RowKit Go.Shelf Go.Lib

/-- What a call that changes a list of its own leaves: the new list l in v', from v. -/
structure Turned (w w' : World) (B : Nat) (v v' : Value) (l : List De) : Prop where
  own : Od w' B v' l
  grown : w.grownBy w' v.ownBlock
  at_ : v'.ownBlock = v.ownBlock ∨ v'.ownBlock = some w.heap.size

end Go.Proofs.Ytbankbehfjogpaa


namespace Go.Proofs.Ytbankbehfjogpaa
open Go.RowKit Go.Shelf Go.Lib

theorem own_lt {w : World} {B : Nat} {v : Value} {l : List De} (h : Od w B v l) : ∀ k, v.ownBlock = some k → B ≤ k ∧ k < w.heap.size := h.own.lt
theorem heap_setCell_at (w : World) (g : Nat) (v u : Value) (t : TypeId) (h : w.heap[g]? = some (.cells #[v] t (0, 0))) : (w.setCell ⟨g, 0, none⟩ u).heap[g]? = some (.cells #[u] t (0, 0)) := heap_setCell_same w g 0 #[v] t u h
end Go.Proofs.Ytbankbehfjogpaa


namespace Go.Proofs.Ytbankbehfjogpaa
open Go.RowKit Go.Shelf Go.Lib

theorem pos_idx (d : De) (l : List De) : idx (fun x => fr d x) l = if pos d l < l.length then ((pos d l : Nat) : Int) else -1 := rfl

end Go.Proofs.Ytbankbehfjogpaa


namespace Go.Proofs.Ytbankbehfjogpaa
open Go.RowKit Go.Shelf Go.Lib

theorem take_snoc {l : List De} {k : Nat} {d : De} (h : l[k]? = some d) : l.take (k + 1) = l.take k ++ [d] := by
  rw [List.take_add_one, h]
  rfl
end Go.Proofs.Ytbankbehfjogpaa


namespace Go.Proofs.Ytbankbehfjogpaa
open Go.RowKit Go.Shelf Go.Lib

theorem Od.mono {w : World} {B C : Nat} {v : Value} {l : List De} (h : Od w B v l) (hC : C ≤ B) : Od w C v l := by
  obtain ⟨⟨hl, hor⟩, hm⟩ := h
  refine ⟨⟨hl, ?_⟩, hm⟩
  rcases hor with h | ⟨g, cap, cur, h1, h2, h3⟩
  · exact .inl h
  · exact .inr ⟨g, cap, cur, h1, by omega, h3⟩
theorem any_snoc (l : List De) (d : De) (i : Int) : (l ++ [d]).any (fun x => x.1 == i) = (l.any (fun x => x.1 == i) || d.1 == i) := by simp [List.any_append]
theorem fsts_le (l : List De) : (fsts l).length ≤ l.length := (fsts_sublist l).length_le

theorem box_store {t : TypeId} {w w1 : World} {B g : Nat} {v v' : Value} {l' : List De} (hg : w.heap[g]? = some (.cells #[v] t (0, 0))) (h3 : B ≤ g) (h4 : v.ownBlock ≠ some g) (hlt : ∀ k, v.ownBlock = some k → B ≤ k) (h : Turned w w1 B v v' l') :
    w1.heap[g]? = some (.cells #[v] t (0, 0)) ∧ (w1.setCell ⟨g, 0, none⟩ v').heap[g]? = some (.cells #[v'] t (0, 0)) ∧ Od (w1.setCell ⟨g, 0, none⟩ v') B v' l' ∧ v'.ownBlock ≠ some g ∧ Below B w (w1.setCell ⟨g, 0, none⟩ v') ∧
    ∀ k, k < w.heap.size → k ≠ g → some k ≠ v.ownBlock → (w1.setCell ⟨g, 0, none⟩ v').heap[k]? = w.heap[k]? := by
  have hgw := lt_of_heap hg
  have h1 : w1.heap[g]? = some (.cells #[v] t (0, 0)) := (h.grown.block g hgw (fun e => h4 e.symm)).trans hg
  have hv' : v'.ownBlock ≠ some g := by
    rcases h.at_ with e | e
    · rw [e]; exact h4
    · rw [e]; intro e2; injection e2 with e2; omega
  have hfar : ∀ k, k ≠ g → (w1.setCell ⟨g, 0, none⟩ v').heap[k]? = w1.heap[k]? := fun k hk => Below.heap_setCell w1 ⟨g, 0, none⟩ v' k hk
  refine ⟨h1, heap_setCell_at w1 g v v' _ h1, ⟨?_, h.own.max⟩, hv', ⟨h.grown.os, h.grown.tape, h.grown.output, ?_, fun k hk => ?_⟩, fun k h5 h6 h7 => by rw [hfar k h6]; exact h.grown.block k h5 h7⟩
  · refine h.own.own.kept (row := some g) ⟨rfl, rfl, rfl, by simp [World.setCell], fun k _ hk => hfar k (fun e => hk (by rw [e]))⟩ (.inr hv')
  · exact Nat.le_trans h.grown.size (by simp [World.setCell])
  · rw [hfar k (by omega)]
    exact h.grown.block k (by omega) (fun e => by have := hlt k e.symm; omega)

end Go.Proofs.Ytbankbehfjogpaa


namespace Go.Proofs.Ytbankbehfjogpaa
open Go.RowKit Go.Shelf Go.Lib

end Go.Proofs.Ytbankbehfjogpaa


namespace Go.Proofs.Ytbankbehfjogpaa
open Go.RowKit Go.Shelf Go.Lib

theorem Ds.cells {w : World} {B n c : Nat} {A : Option Addr} {l : List De} (h : Ds w B A n c l) {b off : Nat} (hA : A = some ⟨b, off, none⟩) : ∀ j u, (cellsD l)[j]? = some u → w.cell? ((⟨b, off, none⟩ : Addr).add j) = some u := by
  intro j u hj
  have hjl := (List.getElem?_eq_some_iff.1 hj).1
  rw [cellsD_length, h.len] at hjl
  obtain ⟨b', off', e, _, hc⟩ := h.at_ (by omega)
  rw [hA] at e
  injection e with e
  injection e with e1 e2
  subst e1
  subst e2
  obtain ⟨d, hd⟩ := h.get (show j / 2 < n by omega)
  obtain ⟨c1, c2⟩ := hc _ d hd
  obtain ⟨g1, g2⟩ := cellsD_get hd
  rw [Addr.add_lit]
  rcases Nat.mod_two_eq_zero_or_one j with h0 | h0
  · have e : j / 2 * 2 = j := by omega
    rw [e] at c1 g1
    rw [hj] at g1
    injection g1 with g1
    rw [g1]
    exact c1
  · have e : j / 2 * 2 + 1 = j := by omega
    rw [Nat.add_assoc, e] at c2
    rw [e] at g2
    rw [hj] at g2
    injection g2 with g2
    rw [g2]
    exact c2

theorem run_appD {w : World} {B C m c : Nat} {v : Value} {A : Option Addr} {l r : List De} (ty : TypeId) (hO : Od w B v l) (hD : Ds w C A m c r) (hn : l.length + m ≤ 100000) (hB : B ≤ w.heap.size) :
    ∃ v' w', (Builtin.append_ #[27, 27] ty #[v, .slice A m c]).run Try.prog w = .ok v' w' ∧ Turned w w' B v v' (l ++ r) := by
  obtain ⟨i0, hi0, hz0, hzs, hzb⟩ := info_parts infoD
  rcases Nat.eq_zero_or_pos m with h0 | h0
  · subst h0
    obtain rfl := List.length_eq_zero_iff.1 hD.len
    refine ⟨v, w, ?_, ⟨by rw [List.append_nil]; exact hO, ⟨rfl, rfl, rfl, Nat.le_refl _, fun _ _ _ => rfl⟩, .inl rfl⟩⟩
    obtain ⟨D, d, rfl, hF, _⟩ := hO.form
    have hc := hF.cap
    cases D with
    | none =>
      obtain ⟨e1, e2⟩ := hF.nil rfl
      rw [e1, e2]
      cases A <;> simp [Builtin.append_, run_underlying Try.underlying27, sizeOf, typeInfo, hi0, Builtin.lenOf, Builtin.firstCells, loadCells, loadCellsFrom]
    | some a =>
      cases A <;> simp [Builtin.append_, run_underlying Try.underlying27, sizeOf, typeInfo, hi0, Builtin.lenOf, Builtin.firstCells, loadCells, loadCellsFrom, storeCells, hc]
  · obtain ⟨b, off, rfl, _, _⟩ := hD.at_ h0
    obtain ⟨v', w', hr, h2, h3, _, h5⟩ := run_append_own_at (P := Try.prog) w B 27 ty 86 i0 _ 2 16 Try.underlying27 hi0 hz0 hzs hzb rfl (by decide) v l.length _ hO.own ⟨b, off, none⟩ m c (cellsD r) (by rw [cellsD_length, hD.len]) (hD.cells rfl) (cellsD_one_cell r) (by unfold maxLen; omega) (by omega) hB
    refine ⟨v', w', hr, ⟨⟨?_, by rw [List.length_append, hD.len]; exact hn⟩, h3, h5⟩⟩
    rw [List.length_append, hD.len, cellsD_append]
    exact h2

/-- At the operation, in a plain region. -/
theorem list_appD {w : World} {ops : Array Oper} {rest : List Oper} {o : Oper} {a : Act} {Q : Exit → Act → World → Prop} (hgd : o.guard = none) (s x : Operand)
    (ho : o.op = .call { callee := .builtin .append, args := #[s, x], argTypes := #[27, 27] }) {B C m c : Nat} {v : Value} {A : Option Addr} {l r : List De} (hs : a.eval s = v) (hx : a.eval x = .slice A m c)
    (hO : Od w B v l) (hD : Ds w C A m c r) (hn : l.length + m ≤ 100000) (hB : B ≤ w.heap.size)
    (h : ∀ v' w', Hid (Turned w w' B v v' (l ++ r)) → wpList Try.prog ops Q rest (a.put o.dst v') w') : wpList Try.prog ops Q (o :: rest) a w := by
  obtain ⟨v', w', hr, hT⟩ := run_appD o.type hO hD hn hB
  exact Lib.wpList_append_run w hgd s x _ _ ho _ _ hs hx v' w' hr (h v' w' (hid hT))
/-- At a step of a region that draws its order. -/
theorem step_appD {w : World} {ops : Array Oper} {o : Oper} {a : Act} {K : Act → World → Prop} {Q : Exit → Act → World → Prop} {E : Prop} (hgd : o.guard = none) (s x : Operand)
    (ho : o.op = .call { callee := .builtin .append, args := #[s, x], argTypes := #[27, 27] }) {B C m c : Nat} {v : Value} {A : Option Addr} {l r : List De} (hs : a.eval s = v) (hx : a.eval x = .slice A m c)
    (hO : Od w B v l) (hD : Ds w C A m c r) (hn : l.length + m ≤ 100000) (hB : B ≤ w.heap.size)
    (h : ∀ v' w', Hid (Turned w w' B v v' (l ++ r)) → K (a.put o.dst v') w') : if Region.wanted o (yielded ops a.tmps) = true then Oper.wp Try.prog o a w K Q else E := by
  obtain ⟨v', w', hr, hT⟩ := run_appD o.type hO hD hn hB
  have hw : Region.wanted o (yielded ops a.tmps) = true := by simp [Region.wanted, hgd]
  rw [if_pos hw]
  exact Lib.wp_append_run w s x _ _ ho _ _ hs hx v' w' hr (h v' w' (hid hT))
end Go.Proofs.Ytbankbehfjogpaa


namespace Go.Proofs.Ytbankbehfjogpaa
open Go.RowKit Go.Shelf Go.Lib

theorem pos_eq {d : De} {r : List De} {j : Nat} (hn : ∀ (t : Nat) (e : De), t < j → r[t]? = some e → fr d e = false) (h : j = r.length ∨ ∃ e, r[j]? = some e ∧ fr d e = true) : pos d r = j := by
  rcases h with rfl | ⟨e, he, hf⟩
  · unfold pos
    rw [List.findIdx_eq_length]
    intro x hx
    obtain ⟨t, ht⟩ := List.mem_iff_getElem?.1 hx
    exact hn t x (List.getElem?_eq_some_iff.1 ht).1 ht
  · obtain ⟨hk, rfl⟩ := List.getElem?_eq_some_iff.1 he
    unfold pos
    rw [List.findIdx_eq hk]
    exact ⟨hf, fun t ht => by
      have := hn t _ ht (List.getElem?_eq_getElem (by omega))
      simpa using this⟩

theorem Ds.first {w : World} {B n c : Nat} {A : Option Addr} {l : List De} (h : Ds w B A n c l) {p : Nat} (hp : p ≤ n) : Ds w B A p c (l.take p) := by
  have hl := h.len
  have hcap := h.cap
  refine ⟨by rw [List.length_take]; omega, by omega, Nat.le_trans (by omega) h.max, fun hA => ?_, fun h0 => ?_⟩
  · have := h.nil hA
    omega
  · obtain ⟨b, off, rfl, hB, hc⟩ := h.at_ (by omega)
    refine ⟨b, off, rfl, hB, fun j d hj => hc j d ?_⟩
    rw [List.getElem?_take] at hj
    split at hj
    · exact hj
    · cases hj
theorem Ds.drop {w : World} {B n c g : Nat} {l : List De} (h : Ds w B (some ⟨g, 0, none⟩) n c l) {p : Nat} (hp : p ≤ n) : Ds w B (some ⟨g, p * 2, none⟩) (n - p) (c - p) (l.drop p) := by
  have hl := h.len
  have hcap := h.cap
  refine ⟨by rw [List.length_drop]; omega, by omega, Nat.le_trans (by omega) h.max, fun hA => (by cases hA), fun h0 => ?_⟩
  obtain ⟨b, off, e, hB, hc⟩ := h.at_ (by omega)
  injection e with e
  injection e with e1 e2
  subst e1
  subst e2
  refine ⟨g, p * 2, rfl, hB, fun j d hj => ?_⟩
  rw [List.getElem?_drop] at hj
  have := hc _ d hj
  rw [show 0 + (p + j) * 2 = p * 2 + j * 2 by omega] at this
  exact this
theorem Ds.none' (w : World) (B c : Nat) (a : Addr) : Ds w B (some a) 0 c [] := ⟨rfl, Nat.zero_le _, by omega, fun e => (by cases e), fun h => absurd h (by omega)⟩
theorem new_row {w : World} {o : Obj} {N : Nat} (h : w.heap.size = N) : (w.alloc o).heap[N]? = some o := by
  subst h
  exact heap_alloc_new w o
theorem od_at {X : World} {B N : Nat} (h : X.heap[N]? = some (.cells #[] 86 (0, 0))) (hB : B ≤ N) : Od X B (.slice (some ⟨N, 0, none⟩) 0 0) [] :=
  ⟨⟨by simp [cellsD], .inr ⟨N, 0, #[], rfl, hB, h, Nat.le_refl _, by unfold maxLen; omega, rfl, rfl⟩⟩, by simp⟩
theorem ds_at {X : World} {N : Nat} {d1 d2 : Int} (h : X.heap[N]? = some (.cells #[.int .i64 d1, .int .i64 d2] 86 (0, 0))) : Ds X X.heap.size (some ⟨N, 0, none⟩) 1 1 [(d1, d2)] :=
  ⟨rfl, Nat.le_refl _, by omega, fun e => (by cases e), fun _ => ⟨N, 0, rfl, lt_of_heap h, fun j d hj => by
    match j, hj with
    | 0, hj =>
      obtain rfl : (d1, d2) = d := by simpa using hj
      rw [cell_of_row X N _ _ _ (0, 0) h, cell_of_row X N _ _ _ (0, 0) h]
      exact ⟨rfl, rfl⟩
    | j + 1, hj => simp at hj⟩⟩
theorem own_new {B N : Nat} (h : B ≤ N) : ∀ k, (Value.slice (some ⟨N, 0, none⟩) 0 0).ownBlock = some k → B ≤ k := fun k hk => by
  obtain rfl : N = k := by simpa [Value.ownBlock] using hk
  exact h
/-- A change of a list that lies from block B on turns nothing below it. -/
theorem Turned.below {w w' : World} {B : Nat} {v v' : Value} {l : List De} (h : Turned w w' B v v' l) (hv : ∀ k, v.ownBlock = some k → B ≤ k) (hB : B ≤ w.heap.size) : Below B w w' :=
  ⟨h.grown.os, h.grown.tape, h.grown.output, h.grown.size, fun k hk => h.grown.block k (by omega) (fun e => by have := hv k e.symm; omega)⟩

end Go.Proofs.Ytbankbehfjogpaa


namespace Go.Proofs.Ytbankbehfjogpaa
open Go.RowKit Go.Shelf Go.Lib

theorem any_upto {l : List De} {j : Nat} {e : De} (i : Int) (h : l[j]? = some e) : (l.take (j + 1)).any (fun x => x.1 == i) = ((l.take j).any (fun x => x.1 == i) || e.1 == i) := by
  rw [List.take_add_one, h, List.any_append]
  simp

end Go.Proofs.Ytbankbehfjogpaa


namespace Go.Proofs.Ytbankbehfjogpaa
set_option maxRecDepth 100000
open Go.RowKit Go.Shelf

theorem eqlD (d1 d2 e1 e2 : Int) (w : World) : Sem.run Try.prog (binOp .eql 86 (.agg #[.int .i64 d1, .int .i64 d2]) (.agg #[.int .i64 e1, .int .i64 e2])) w = .ok (.bool (decide ((d1, d2) = (e1, e2)))) w := by
  have u3 := Try.underlying3
  have a3 := Try.isAgg3
  have z3 := Try.sizeOf3
  have hS : Try.prog.underlying 86 = some (.struct (Try.prog.fieldsOf 86)) := by kernel_rfl
  have hp : Try.prog.stoodInHeld 86 = false := by kernel_rfl
  rw [run_eql_struct, show (10000 : Nat) = 9999 + 1 from rfl, run_equalIn_agg w 9999 86 _ _ hS hp]
  simp only [Program.fieldsOf, Try.underlying86]
  go_simp
  by_cases h1 : d1 = e1 <;> by_cases h2 : d2 = e2 <;> simp [h1, h2]
theorem neqD (d1 d2 e1 e2 : Int) (w : World) : Sem.run Try.prog (binOp .neq 86 (.agg #[.int .i64 d1, .int .i64 d2]) (.agg #[.int .i64 e1, .int .i64 e2])) w = .ok (.bool (!decide ((d1, d2) = (e1, e2)))) w := by
  have u3 := Try.underlying3
  have a3 := Try.isAgg3
  have z3 := Try.sizeOf3
  have hS : Try.prog.underlying 86 = some (.struct (Try.prog.fieldsOf 86)) := by kernel_rfl
  have hp : Try.prog.stoodInHeld 86 = false := by kernel_rfl
  rw [run_neq_struct, show (10000 : Nat) = 9999 + 1 from rfl, run_equalIn_agg w 9999 86 _ _ hS hp]
  simp only [Program.fieldsOf, Try.underlying86]
  go_simp
  by_cases h1 : d1 = e1 <;> by_cases h2 : d2 = e2 <;> simp [h1, h2]
theorem grdD (op : BinOp) (x y : Operand) (xs ys : Array Value) (w : World) : Sem.run Try.prog (eqGuard op 86 x y (.agg xs) (.agg ys)) w = .ok () w := run_eqGuard_agg w op 86 x y xs ys (by kernel_rfl)

theorem dec_ne {l m : List De} {k : Nat} {d e : De} (h1 : l[k]? = some d) (h2 : m[k]? = some e) (h : d ≠ e) : decide (l = m) = false := by
  rw [decide_eq_false_iff_not]
  intro hl
  rw [hl, h2] at h1
  injection h1 with h1
  exact h h1.symm

set_option maxHeartbeats 3200000 in
set_option maxRecDepth 100000 in
theorem kequal_any {w : World} {B C n c m d : Nat} {A D : Option Addr} {l r : List De} (h : Ds w B A n c l) (k : Ds w C D m d r) (hB : B ≤ w.heap.size) (hC : C ≤ w.heap.size) :
    Calls Try.prog 64 #[.slice A n c, .slice D m d] w fun e w' => e = .returned (.bool (decide (l = r))) ∧ Hid (Below w.heap.size w w') := by
  have H := hid (h.mono hB)
  have K := hid (k.mono hC)
  have hl := h.len
  have hr := k.len
  have hm := h.max
  have hm2 := k.max
  have hcap := h.cap
  have hcap2 := k.cap
  clear h k
  by_cases hnm : n = m
  case neg =>
    have hne : ¬ (n : Int) = (m : Int) := by omega
    have hd : decide (l = r) = false := by
      rw [decide_eq_false_iff_not]
      intro e
      rw [e] at hl
      omega
    rw [hd]
    go_enter Try.func64, Try.ntmps64
    go_wp2
    go_ret
    exact ⟨rfl, hid (Below.refl _ _)⟩
  subst hnm
  clear hm2
  have HL := hid hl
  have HR := hid hr
  clear hl hr
  go_enter Try.func64, Try.ntmps64
  go_wp2
  go_loopg [5, 13] n (fun gg _ s5 wr => ∃ kk : Nat, kk ≤ n ∧ n - kk ≤ gg ∧ s5 = .int .i64 kk ∧ Hid (Below w.heap.size w wr) ∧ Hid (∀ j, j < kk → l[j]? = r[j]?))
  case atStart => exact ⟨0, Nat.zero_le _, by omega, rfl, hid (Below.refl _ w), hid (fun j hj => absurd hj (Nat.not_lt_zero _))⟩
  case round =>
    obtain ⟨kk, hkk, hg, rfl, BW, HA⟩ := hrel
    by_cases hlt : kk < n
    · have hltz : (kk : Int) < (n : Int) := by omega
      obtain ⟨x, hx⟩ := H.out.get hlt
      obtain ⟨y, hy⟩ := K.out.get hlt
      obtain ⟨b, off, rfl, _, hc⟩ := (H.out.below BW.out).at_ (by omega)
      obtain ⟨b', off', rfl, _, hc'⟩ := (K.out.below BW.out).at_ (by omega)
      obtain ⟨c1, c2⟩ := hc kk x hx
      obtain ⟨c3, c4⟩ := hc' kk y hy
      have Hx := hid hx
      have Hy := hid hy
      clear hc hc' hx hy
      obtain ⟨x1, x2⟩ := x
      obtain ⟨y1, y2⟩ := y
      change wr.cell? ⟨b, off + kk * 2, none⟩ = some (.int .i64 x1) at c1
      change wr.cell? ⟨b, off + kk * 2 + 1, none⟩ = some (.int .i64 x2) at c2
      change wr.cell? ⟨b', off' + kk * 2, none⟩ = some (.int .i64 y1) at c3
      change wr.cell? ⟨b', off' + kk * 2 + 1, none⟩ = some (.int .i64 y2) at c4
      have hgd := grdD
      have mixed : Try.prog.follows .mixedOrders = true := by kernel_rfl
      by_cases hxy : (x1, x2) = (y1, y2)
      · have hq : ∀ W, Sem.run Try.prog (binOp .neq 86 (.agg #[.int .i64 x1, .int .i64 x2]) (.agg #[.int .i64 y1, .int .i64 y2])) W = .ok (.bool false) W := fun W => by rw [neqD, decide_eq_true hxy]; rfl
        have HX := hid hxy
        clear hxy
        go_wp2_with fail
        go_quiet_o (fail)
        go_wp2
        go_roundg (n - (kk + 1))
        case measure => omega
        case rel =>
          refine ⟨kk + 1, by omega, by omega, by go_num, hid (below_drewN BW.out _), hid (fun j hj => ?_)⟩
          by_cases hjk : j = kk
          · subst hjk
            rw [Hx.out, Hy.out, HX.out]
          · exact HA.out j (by omega)
      · have hq : ∀ W, Sem.run Try.prog (binOp .neq 86 (.agg #[.int .i64 x1, .int .i64 x2]) (.agg #[.int .i64 y1, .int .i64 y2])) W = .ok (.bool true) W := fun W => by rw [neqD, decide_eq_false hxy]; rfl
        have HX := hid hxy
        clear hxy
        go_wp2_with fail
        go_quiet_o (fail)
        go_wp2
        go_ret
        refine ⟨?_, hid (below_drewN BW.out _)⟩
        rw [dec_ne Hx.out Hy.out HX.out]
        rfl
    · have hltz : ¬ (kk : Int) < (n : Int) := by omega
      obtain rfl : kk = n := by omega
      go_wp2
      go_ret
      refine ⟨?_, BW⟩
      rw [decide_eq_true (show l = r from List.ext_getElem? fun j => by
        rcases Nat.lt_or_ge j kk with h | h
        · exact HA.out j h
        · rw [List.getElem?_eq_none (by rw [HL.out]; exact h), List.getElem?_eq_none (by rw [HR.out]; exact h)])]
      rfl


theorem kdsame_any {w : World} {B C n c m d : Nat} {A D : Option Addr} {l r : List De} (h : Ds w B A n c l) (k : Ds w C D m d r) (hB : B ≤ w.heap.size) (hC : C ≤ w.heap.size) :
    Calls Try.prog 35 #[.slice A n c, .slice D m d] w fun e w' => e = .returned (.bool (decide (l = r))) ∧ Hid (Below w.heap.size w w') := by
  have HC := hid (kequal_any h k hB hC)
  generalize decide (l = r) = q at HC ⊢
  clear h k
  go_enter Try.func35, Try.ntmps35
  go_wp2_with (go_at_call 64; refine HC.out.mono ?_; rintro e w' ⟨rfl, hb⟩)
  go_ret
  exact ⟨rfl, hb⟩

end Go.Proofs.Ytbankbehfjogpaa


namespace Go.Proofs.Ytbankbehfjogpaa
open Go.RowKit Go.Shelf Go.Lib

/-- What Fresher answers. -/
def frE (a b : De) : Int := if bad a || bad b then 8 else 0
def frB (a b : De) : Bool := !(bad a || bad b) && fr a b

theorem ds_two {X : World} {N : Nat} {a b : De} (h : X.heap[N]? = some (.cells #[.int .i64 a.1, .int .i64 a.2, .int .i64 b.1, .int .i64 b.2] 86 (0, 0))) : Ds X X.heap.size (some ⟨N, 0, none⟩) 2 2 [a, b] :=
  ⟨rfl, Nat.le_refl _, by omega, fun e => (by cases e), fun _ => ⟨N, 0, rfl, lt_of_heap h, fun j d hj => by
    match j, hj with
    | 0, hj =>
      obtain rfl : a = d := by simpa using hj
      rw [cell_of_row X N _ _ _ (0, 0) h, cell_of_row X N _ _ _ (0, 0) h]
      exact ⟨rfl, rfl⟩
    | 1, hj =>
      obtain rfl : b = d := by simpa using hj
      rw [cell_of_row X N _ _ _ (0, 0) h, cell_of_row X N _ _ _ (0, 0) h]
      exact ⟨rfl, rfl⟩
    | j + 2, hj => simp at hj⟩⟩

end Go.Proofs.Ytbankbehfjogpaa


namespace Go.Proofs.Ytbankbehfjogpaa
open Go.RowKit Go.Shelf Go.Lib

theorem ds_row {X : World} {N : Nat} {l : List De} (h : X.heap[N]? = some (.cells (cellsD l).toArray 86 (0, 0))) (hl : l.length ≤ 1000) : Ds X X.heap.size (some ⟨N, 0, none⟩) l.length l.length l :=
  ⟨rfl, Nat.le_refl _, by omega, fun e => (by cases e), fun _ => ⟨N, 0, rfl, lt_of_heap h, fun j d hj => by
    obtain ⟨g1, g2⟩ := cellsD_get hj
    rw [cell_of_row X N _ _ _ (0, 0) h, cell_of_row X N _ _ _ (0, 0) h, Nat.zero_add]
    exact ⟨by simpa using g1, by simpa using g2⟩⟩⟩

def fourL : List De := [(1, 5), (0, 5), (2, 9), (1, 7)]
theorem four_orr : orr fourL = [(2, 9), (1, 7), (0, 5), (1, 5)] := by decide
theorem four_bst : bst fourL = [(2, 9), (1, 7), (0, 5)] := by decide
theorem four_chk : kchk fourL = 0 := by decide

end Go.Proofs.Ytbankbehfjogpaa


namespace Go.Proofs.Ytbankbehfjogpaa
open Go.RowKit Go.Shelf Go.Lib

/-- A mail as it lies. -/
structure Md where
  kd : Nat
  fr : Int
  tu : Int
  ep : Int
  nu : Int
  ab : Int
  D : Nat → Dy
  wa : Bool
  A : Option Addr
  n : Nat
  c : Nat
  ha : Bool
  mn : Int
  mx : Int
  T : Option Addr
  k : Nat
  d : Nat
/-- Its cells. -/
def mdc (m : Md) : Array Value := #[.int .u8 (m.kd : Int), .int .i64 m.fr, .int .i64 m.tu, .int .i64 m.ep, .int .i64 m.nu, .int .i64 m.ab, .bool (m.D 0).s, .slice (m.D 0).A (m.D 0).n (m.D 0).c, .int .i64 (m.D 0).x, .bool (m.D 1).s, .slice (m.D 1).A (m.D 1).n (m.D 1).c, .int .i64 (m.D 1).x, .bool (m.D 2).s, .slice (m.D 2).A (m.D 2).n (m.D 2).c, .int .i64 (m.D 2).x, .bool (m.D 3).s, .slice (m.D 3).A (m.D 3).n (m.D 3).c, .int .i64 (m.D 3).x, .bool m.wa, .slice m.A m.n m.c, .bool m.ha, .int .i64 m.mn, .int .i64 m.mx, .slice m.T m.k m.d]
theorem mdc_size (m : Md) : (mdc m).size = 24 := rfl
/-- The mail m lies in block g. -/
def Pbox (w : World) (g : Nat) (m : Md) : Prop := w.heap[g]? = some (.cells (mdc m) 31 (0, 0))
section
variable {w w' : World} {g B : Nat} {m : Md}
theorem Pbox.lt (h : Pbox w g m) : g < w.heap.size := lt_of_heap h
theorem Pbox.below (h : Pbox w g m) (hb : Below B w w') (hg : g < B) : Pbox w' g m := (hb.block g hg).trans h
theorem Pbox.alloc (h : Pbox w g m) (x : Obj) : Pbox (w.alloc x) g m := (Below.heap_alloc w x g h.lt).trans h
theorem Pbox.frozen (h : Pbox w g m) (j : Nat) : w.frozen? ⟨g, j, none⟩ = false := frozen_of_row w g j _ _ h
theorem Pbox.c0 (h : Pbox w g m) : w.cell? ⟨g, 0, none⟩ = some (.int .u8 (m.kd : Int)) := by rw [cell_of_row w g 0 _ _ (0, 0) h]; rfl
theorem Pbox.c1 (h : Pbox w g m) : w.cell? ⟨g, 1, none⟩ = some (.int .i64 m.fr) := by rw [cell_of_row w g 1 _ _ (0, 0) h]; rfl
theorem Pbox.c2 (h : Pbox w g m) : w.cell? ⟨g, 2, none⟩ = some (.int .i64 m.tu) := by rw [cell_of_row w g 2 _ _ (0, 0) h]; rfl
theorem Pbox.c3 (h : Pbox w g m) : w.cell? ⟨g, 3, none⟩ = some (.int .i64 m.ep) := by rw [cell_of_row w g 3 _ _ (0, 0) h]; rfl
theorem Pbox.c4 (h : Pbox w g m) : w.cell? ⟨g, 4, none⟩ = some (.int .i64 m.nu) := by rw [cell_of_row w g 4 _ _ (0, 0) h]; rfl
theorem Pbox.c5 (h : Pbox w g m) : w.cell? ⟨g, 5, none⟩ = some (.int .i64 m.ab) := by rw [cell_of_row w g 5 _ _ (0, 0) h]; rfl
theorem Pbox.c6 (h : Pbox w g m) : w.cell? ⟨g, 6, none⟩ = some (.bool (m.D 0).s) := by rw [cell_of_row w g 6 _ _ (0, 0) h]; rfl
theorem Pbox.c7 (h : Pbox w g m) : w.cell? ⟨g, 7, none⟩ = some (.slice (m.D 0).A (m.D 0).n (m.D 0).c) := by rw [cell_of_row w g 7 _ _ (0, 0) h]; rfl
theorem Pbox.c8 (h : Pbox w g m) : w.cell? ⟨g, 8, none⟩ = some (.int .i64 (m.D 0).x) := by rw [cell_of_row w g 8 _ _ (0, 0) h]; rfl
theorem Pbox.c9 (h : Pbox w g m) : w.cell? ⟨g, 9, none⟩ = some (.bool (m.D 1).s) := by rw [cell_of_row w g 9 _ _ (0, 0) h]; rfl
theorem Pbox.c10 (h : Pbox w g m) : w.cell? ⟨g, 10, none⟩ = some (.slice (m.D 1).A (m.D 1).n (m.D 1).c) := by rw [cell_of_row w g 10 _ _ (0, 0) h]; rfl
theorem Pbox.c11 (h : Pbox w g m) : w.cell? ⟨g, 11, none⟩ = some (.int .i64 (m.D 1).x) := by rw [cell_of_row w g 11 _ _ (0, 0) h]; rfl
theorem Pbox.c12 (h : Pbox w g m) : w.cell? ⟨g, 12, none⟩ = some (.bool (m.D 2).s) := by rw [cell_of_row w g 12 _ _ (0, 0) h]; rfl
theorem Pbox.c13 (h : Pbox w g m) : w.cell? ⟨g, 13, none⟩ = some (.slice (m.D 2).A (m.D 2).n (m.D 2).c) := by rw [cell_of_row w g 13 _ _ (0, 0) h]; rfl
theorem Pbox.c14 (h : Pbox w g m) : w.cell? ⟨g, 14, none⟩ = some (.int .i64 (m.D 2).x) := by rw [cell_of_row w g 14 _ _ (0, 0) h]; rfl
theorem Pbox.c15 (h : Pbox w g m) : w.cell? ⟨g, 15, none⟩ = some (.bool (m.D 3).s) := by rw [cell_of_row w g 15 _ _ (0, 0) h]; rfl
theorem Pbox.c16 (h : Pbox w g m) : w.cell? ⟨g, 16, none⟩ = some (.slice (m.D 3).A (m.D 3).n (m.D 3).c) := by rw [cell_of_row w g 16 _ _ (0, 0) h]; rfl
theorem Pbox.c17 (h : Pbox w g m) : w.cell? ⟨g, 17, none⟩ = some (.int .i64 (m.D 3).x) := by rw [cell_of_row w g 17 _ _ (0, 0) h]; rfl
theorem Pbox.c18 (h : Pbox w g m) : w.cell? ⟨g, 18, none⟩ = some (.bool m.wa) := by rw [cell_of_row w g 18 _ _ (0, 0) h]; rfl
theorem Pbox.c19 (h : Pbox w g m) : w.cell? ⟨g, 19, none⟩ = some (.slice m.A m.n m.c) := by rw [cell_of_row w g 19 _ _ (0, 0) h]; rfl
theorem Pbox.c20 (h : Pbox w g m) : w.cell? ⟨g, 20, none⟩ = some (.bool m.ha) := by rw [cell_of_row w g 20 _ _ (0, 0) h]; rfl
theorem Pbox.c21 (h : Pbox w g m) : w.cell? ⟨g, 21, none⟩ = some (.int .i64 m.mn) := by rw [cell_of_row w g 21 _ _ (0, 0) h]; rfl
theorem Pbox.c22 (h : Pbox w g m) : w.cell? ⟨g, 22, none⟩ = some (.int .i64 m.mx) := by rw [cell_of_row w g 22 _ _ (0, 0) h]; rfl
theorem Pbox.c23 (h : Pbox w g m) : w.cell? ⟨g, 23, none⟩ = some (.slice m.T m.k m.d) := by rw [cell_of_row w g 23 _ _ (0, 0) h]; rfl
end
theorem Pbox.mass {w : World} {g : Nat} {m : Md} (h : Pbox w g m) : w.rangeAt g 6 [.bool (m.D 0).s, .slice (m.D 0).A (m.D 0).n (m.D 0).c, .int .i64 (m.D 0).x, .bool (m.D 1).s, .slice (m.D 1).A (m.D 1).n (m.D 1).c, .int .i64 (m.D 1).x, .bool (m.D 2).s, .slice (m.D 2).A (m.D 2).n (m.D 2).c, .int .i64 (m.D 2).x, .bool (m.D 3).s, .slice (m.D 3).A (m.D 3).n (m.D 3).c, .int .i64 (m.D 3).x] := fun j v hv => by
  match j, hv with
  | 0, hv => injection hv with hv; subst hv; exact h.c6
  | 1, hv => injection hv with hv; subst hv; exact h.c7
  | 2, hv => injection hv with hv; subst hv; exact h.c8
  | 3, hv => injection hv with hv; subst hv; exact h.c9
  | 4, hv => injection hv with hv; subst hv; exact h.c10
  | 5, hv => injection hv with hv; subst hv; exact h.c11
  | 6, hv => injection hv with hv; subst hv; exact h.c12
  | 7, hv => injection hv with hv; subst hv; exact h.c13
  | 8, hv => injection hv with hv; subst hv; exact h.c14
  | 9, hv => injection hv with hv; subst hv; exact h.c15
  | 10, hv => injection hv with hv; subst hv; exact h.c16
  | 11, hv => injection hv with hv; subst hv; exact h.c17
  | j + 12, hv => simp at hv
theorem Pbox.dyad0 {w : World} {g : Nat} {m : Md} (h : Pbox w g m) : w.rangeAt g 6 [.bool (m.D 0).s, .slice (m.D 0).A (m.D 0).n (m.D 0).c, .int .i64 (m.D 0).x] := fun j v hv => by
  match j, hv with
  | 0, hv => injection hv with hv; subst hv; exact h.c6
  | 1, hv => injection hv with hv; subst hv; exact h.c7
  | 2, hv => injection hv with hv; subst hv; exact h.c8
  | j + 3, hv => simp at hv
theorem Pbox.dyad1 {w : World} {g : Nat} {m : Md} (h : Pbox w g m) : w.rangeAt g 9 [.bool (m.D 1).s, .slice (m.D 1).A (m.D 1).n (m.D 1).c, .int .i64 (m.D 1).x] := fun j v hv => by
  match j, hv with
  | 0, hv => injection hv with hv; subst hv; exact h.c9
  | 1, hv => injection hv with hv; subst hv; exact h.c10
  | 2, hv => injection hv with hv; subst hv; exact h.c11
  | j + 3, hv => simp at hv
theorem Pbox.dyad2 {w : World} {g : Nat} {m : Md} (h : Pbox w g m) : w.rangeAt g 12 [.bool (m.D 2).s, .slice (m.D 2).A (m.D 2).n (m.D 2).c, .int .i64 (m.D 2).x] := fun j v hv => by
  match j, hv with
  | 0, hv => injection hv with hv; subst hv; exact h.c12
  | 1, hv => injection hv with hv; subst hv; exact h.c13
  | 2, hv => injection hv with hv; subst hv; exact h.c14
  | j + 3, hv => simp at hv
theorem Pbox.dyad3 {w : World} {g : Nat} {m : Md} (h : Pbox w g m) : w.rangeAt g 15 [.bool (m.D 3).s, .slice (m.D 3).A (m.D 3).n (m.D 3).c, .int .i64 (m.D 3).x] := fun j v hv => by
  match j, hv with
  | 0, hv => injection hv with hv; subst hv; exact h.c15
  | 1, hv => injection hv with hv; subst hv; exact h.c16
  | 2, hv => injection hv with hv; subst hv; exact h.c17
  | j + 3, hv => simp at hv
theorem Pbox.edge {w : World} {g : Nat} {m : Md} (h : Pbox w g m) : w.rangeAt g 20 [.bool m.ha, .int .i64 m.mn, .int .i64 m.mx] := fun j v hv => by
  match j, hv with
  | 0, hv => injection hv with hv; subst hv; exact h.c20
  | 1, hv => injection hv with hv; subst hv; exact h.c21
  | 2, hv => injection hv with hv; subst hv; exact h.c22
  | j + 3, hv => simp at hv
theorem mail_mass_cells (D : Nat → Dy) : (mcells D).toList = [.bool (D 0).s, .slice (D 0).A (D 0).n (D 0).c, .int .i64 (D 0).x, .bool (D 1).s, .slice (D 1).A (D 1).n (D 1).c, .int .i64 (D 1).x, .bool (D 2).s, .slice (D 2).A (D 2).n (D 2).c, .int .i64 (D 2).x, .bool (D 3).s, .slice (D 3).A (D 3).n (D 3).c, .int .i64 (D 3).x] := rfl
theorem edge_size : (Try.prog.info? 29).map (·.size) = some 3 := by kernel_rfl
theorem mail_size : (Try.prog.info? 31).map (·.size) = some 24 := by kernel_rfl
section
variable {ops : Array Oper} {rest : List Oper} {o : Oper} {a : Act} {w : World} {Q : Exit → Act → World → Prop}
theorem wp_gmass (hw : Region.wanted o (yielded ops a.tmps) = true) (x : Operand) (ho : o.op = .load 26 x)
    (g : Nat) (m : Md) (hx : a.eval x = .pointer (some ⟨g, 6, none⟩)) (hg : Pbox w g m) (h : wpList Try.prog ops Q rest (a.put o.dst (.agg (mcells m.D))) w) : wpList Try.prog ops Q (o :: rest) a w :=
  wpList_step fun _ hK => by
    rw [if_pos hw]
    exact wp_load_mid _ x ho g 6 hx (mcells m.D).toList _ hg.mass Try.underlying26 rfl (mass_size) (hK _ _ h)
theorem wp_gedge (hw : Region.wanted o (yielded ops a.tmps) = true) (x : Operand) (ho : o.op = .load 29 x)
    (g : Nat) (m : Md) (hx : a.eval x = .pointer (some ⟨g, 20, none⟩)) (hg : Pbox w g m) (h : wpList Try.prog ops Q rest (a.put o.dst (.agg #[.bool m.ha, .int .i64 m.mn, .int .i64 m.mx])) w) : wpList Try.prog ops Q (o :: rest) a w :=
  wpList_step fun _ hK => by
    rw [if_pos hw]
    exact wp_load_mid _ x ho g 20 hx _ _ hg.edge Try.underlying29 rfl edge_size (hK _ _ h)
theorem wp_gmail (hw : Region.wanted o (yielded ops a.tmps) = true) (x : Operand) (ho : o.op = .load 31 x)
    (g : Nat) (m : Md) (hx : a.eval x = .pointer (some ⟨g, 0, none⟩)) (hg : Pbox w g m) (h : wpList Try.prog ops Q rest (a.put o.dst (.agg (mdc m))) w) : wpList Try.prog ops Q (o :: rest) a w :=
  wpList_step fun _ hK => by
    rw [if_pos hw]
    exact wp_load_row _ x ho g hx _ _ _ _ hg Try.underlying31 rfl mail_size (hK _ _ h)
theorem wp_gdyad0 (hw : Region.wanted o (yielded ops a.tmps) = true) (x : Operand) (ho : o.op = .load 24 x)
    (g : Nat) (m : Md) (hx : a.eval x = .pointer (some ⟨g, 6, none⟩)) (hg : Pbox w g m) (h : wpList Try.prog ops Q rest (a.put o.dst (.agg #[.bool (m.D 0).s, .slice (m.D 0).A (m.D 0).n (m.D 0).c, .int .i64 (m.D 0).x])) w) : wpList Try.prog ops Q (o :: rest) a w :=
  wpList_step fun _ hK => by
    rw [if_pos hw]
    exact wp_load_mid _ x ho g 6 hx _ _ hg.dyad0 Try.underlying24 rfl (dyad_size_ (m.D 0)) (hK _ _ h)
theorem wp_gdyad1 (hw : Region.wanted o (yielded ops a.tmps) = true) (x : Operand) (ho : o.op = .load 24 x)
    (g : Nat) (m : Md) (hx : a.eval x = .pointer (some ⟨g, 9, none⟩)) (hg : Pbox w g m) (h : wpList Try.prog ops Q rest (a.put o.dst (.agg #[.bool (m.D 1).s, .slice (m.D 1).A (m.D 1).n (m.D 1).c, .int .i64 (m.D 1).x])) w) : wpList Try.prog ops Q (o :: rest) a w :=
  wpList_step fun _ hK => by
    rw [if_pos hw]
    exact wp_load_mid _ x ho g 9 hx _ _ hg.dyad1 Try.underlying24 rfl (dyad_size_ (m.D 1)) (hK _ _ h)
theorem wp_gdyad2 (hw : Region.wanted o (yielded ops a.tmps) = true) (x : Operand) (ho : o.op = .load 24 x)
    (g : Nat) (m : Md) (hx : a.eval x = .pointer (some ⟨g, 12, none⟩)) (hg : Pbox w g m) (h : wpList Try.prog ops Q rest (a.put o.dst (.agg #[.bool (m.D 2).s, .slice (m.D 2).A (m.D 2).n (m.D 2).c, .int .i64 (m.D 2).x])) w) : wpList Try.prog ops Q (o :: rest) a w :=
  wpList_step fun _ hK => by
    rw [if_pos hw]
    exact wp_load_mid _ x ho g 12 hx _ _ hg.dyad2 Try.underlying24 rfl (dyad_size_ (m.D 2)) (hK _ _ h)
theorem wp_gdyad3 (hw : Region.wanted o (yielded ops a.tmps) = true) (x : Operand) (ho : o.op = .load 24 x)
    (g : Nat) (m : Md) (hx : a.eval x = .pointer (some ⟨g, 15, none⟩)) (hg : Pbox w g m) (h : wpList Try.prog ops Q rest (a.put o.dst (.agg #[.bool (m.D 3).s, .slice (m.D 3).A (m.D 3).n (m.D 3).c, .int .i64 (m.D 3).x])) w) : wpList Try.prog ops Q (o :: rest) a w :=
  wpList_step fun _ hK => by
    rw [if_pos hw]
    exact wp_load_mid _ x ho g 15 hx _ _ hg.dyad3 Try.underlying24 rfl (dyad_size_ (m.D 3)) (hK _ _ h)
end
/-- What the mail's dyads, descriptors and tags read as. -/
structure Prd (w : World) (B : Nat) (m : Md) (l : List De) (t : Nat → Nat) : Prop where
  kd : m.kd < 256
  ms : Mrd w B m.D
  ls : Ds w B m.A m.n m.c l
  tg : Rd w B m.T m.k m.d t
theorem Prd.below {w w' : World} {B : Nat} {m : Md} {l : List De} {t : Nat → Nat} (h : Prd w B m l t) (hb : Below B w w') : Prd w' B m l t := ⟨h.kd, fun k hk => (h.ms k hk).below hb, h.ls.below hb, h.tg.below hb⟩
theorem Prd.mono {w : World} {B C : Nat} {m : Md} {l : List De} {t : Nat → Nat} (h : Prd w B m l t) (hb : B ≤ C) : Prd w C m l t := ⟨h.kd, fun k hk => (h.ms k hk).mono hb, h.ls.mono hb, h.tg.mono hb⟩
theorem Prd.on {w w' : World} {m : Md} {l : List De} {t : Nat → Nat} (h : Prd w w.heap.size m l t) (hb : Below w.heap.size w w') : Prd w' w'.heap.size m l t := (h.below hb).mono hb.size
end Go.Proofs.Ytbankbehfjogpaa

