/- Ether: the document's Spoil. -/
import Derived.Test.YtbpijlghdpflgaaYft
namespace Go.Proofs.Ytbpijlghdpflgaa.Eth
open Go.RowKit Go.Shelf Go.Lib

theorem cellsC_set2 : ∀ (l : List Cr) (k : Nat) {x y : Int} {tx : Option Addr × Nat × Nat} {s : Bool} (D : Option Addr) (m d : Nat) (u : Bool), l[k]? = some (x, y, tx, s) →
    cellsC (l.set k (x, y, (D, m, d), u)) = ((cellsC l).set (k * 4 + 2) (.slice D m d)).set (k * 4 + 3) (.bool u)
  | [], k, _, _, _, _, _, _, _, _, h => by simp at h
  | r :: l, 0, x, y, tx, s, D, m, d, u, h => by
    obtain rfl : r = (x, y, tx, s) := by simpa using h
    rw [List.set_cons_zero, cellsC_cons, cellsC_cons]
    rfl
  | r :: l, k + 1, x, y, tx, s, D, m, d, u, h => by
    have h2 : l[k]? = some (x, y, tx, s) := by simpa using h
    rw [List.set_cons_succ, cellsC_cons, cellsC_cons, cellsC_set2 l k D m d u h2, show (k + 1) * 4 + 2 = k * 4 + 2 + 1 + 1 + 1 + 1 by omega, show (k + 1) * 4 + 3 = k * 4 + 3 + 1 + 1 + 1 + 1 by omega]
    rfl
/-- A copy of its own is given another text, and turned spoilt. -/
theorem Cow.put2 {w : World} {S : Nat → Prop} {g off n c k : Nat} {rs : List Cr} {l : List Cp} {x y : Int} {tx : Option Addr × Nat × Nat} {s u : Bool} {D : Option Addr} {m d : Nat} {p : Cp} (h : Cow w S (some ⟨g, off, none⟩) n c rs l) (hk : rs[k]? = some (x, y, tx, s)) (ht : Tow w S (x, y, (D, m, d), u)) (hc : Crd w w.heap.size (x, y, (D, m, d), u) p) :
    Cow ((w.setCell ⟨g, off + k * 4 + 2, none⟩ (.slice D m d)).setCell ⟨g, off + k * 4 + 3, none⟩ (.bool u)) S (some ⟨g, off, none⟩) n c (rs.set k (x, y, (D, m, d), u)) (l.set k p) ∧
      Gq g w ((w.setCell ⟨g, off + k * 4 + 2, none⟩ (.slice D m d)).setCell ⟨g, off + k * 4 + 3, none⟩ (.bool u)) ∧ S g := by
  obtain ⟨h1, h2, h3, h4⟩ := h
  have hkl := (List.getElem?_eq_some_iff.1 hk).1
  have hlen := h1.len
  rw [cellsC_length] at hlen
  have hn : rs.length = n := by omega
  obtain ⟨g', off', cur, e, hS, hh, hsz⟩ := h4 (by omega)
  injection e with e
  injection e with e1 e2
  subst e1 e2
  have hA := heap_setCell_same w g (off + k * 4 + 2) cur _ (.slice D m d) hh
  have hB := heap_setCell_same _ g (off + k * 4 + 3) _ _ (.bool u) hA
  have hq : Gq g w ((w.setCell ⟨g, off + k * 4 + 2, none⟩ (.slice D m d)).setCell ⟨g, off + k * 4 + 3, none⟩ (.bool u)) := ⟨rfl, rfl, rfl, by simp [World.setCell], fun b hb => by
    rw [Below.heap_setCell _ _ _ b hb, Below.heap_setCell _ _ _ b hb]⟩
  have k8 : Keep8 S w ((w.setCell ⟨g, off + k * 4 + 2, none⟩ (.slice D m d)).setCell ⟨g, off + k * 4 + 3, none⟩ (.bool u)) := Keep8.gq hq hh
  refine ⟨⟨⟨by rw [cellsC_length, List.length_set]; omega, h1.cap, h1.max, fun e => (by cases e), fun _ => ⟨g, off, rfl, lt_of_heap hB, fun j v hj => ?_⟩⟩, ⟨by rw [List.length_set, List.length_set]; exact h2.1, fun j a b ha hb => ?_⟩, fun r hr => ?_, fun _ => ⟨g, off, _, rfl, hS, hB, by simpa using hsz⟩⟩, hq, hS⟩
  · have hc0 := h1.cells
    rw [cellsC_set2 rs k D m d u hk] at hj
    have hjl := (List.getElem?_eq_some_iff.1 hj).1
    rw [List.length_set, List.length_set, cellsC_length] at hjl
    rw [cell_of_row _ g _ _ _ (0, 0) hB, Array.getElem?_setIfInBounds, Array.getElem?_setIfInBounds]
    rw [List.getElem?_set, List.getElem?_set] at hj
    by_cases j3 : k * 4 + 3 = j
    · rw [if_pos j3] at hj
      rw [if_pos (by omega), if_pos (by rw [Array.size_setIfInBounds]; omega)]
      rw [if_pos (by rw [List.length_set, cellsC_length]; omega)] at hj
      exact hj
    · rw [if_neg j3] at hj
      rw [if_neg (by omega)]
      by_cases j2 : k * 4 + 2 = j
      · rw [if_pos j2, if_pos (by rw [cellsC_length]; omega)] at hj
        rw [if_pos (by omega), if_pos (by omega)]
        exact hj
      · rw [if_neg j2] at hj
        rw [if_neg (by omega)]
        have := hc0 j v hj
        rw [Addr.add_lit, cell_of_row w g _ cur _ (0, 0) hh] at this
        exact this
  · rw [List.getElem?_set] at ha hb
    by_cases hjk : k = j
    · subst hjk
      rw [if_pos rfl, if_pos hkl] at ha
      rw [if_pos rfl, if_pos (by rw [← h2.1]; exact hkl)] at hb
      injection ha with ha
      injection hb with hb
      subst ha hb
      exact ht.crd hc k8
    · rw [if_neg hjk] at ha hb
      exact (h3 a (List.mem_of_getElem? ha)).crd (h2.2 j a b ha hb) k8
  · rcases List.mem_or_eq_of_mem_set hr with h5 | rfl
    · exact (h3 r h5).kept k8
    · exact ht.kept k8

/-- The row of copies of its own. -/
theorem Cow.at_ {w : World} {S : Nat → Prop} {A : Option Addr} {n c k : Nat} {rs : List Cr} {l : List Cp} (h : Cow w S A n c rs l) (hk : k < n) : ∃ (g off : Nat) (x y : Int) (D : Option Addr) (m d : Nat) (t : List Nat) (s : Bool), A = some ⟨g, off, none⟩ ∧ S g ∧ g < w.heap.size ∧ (∀ j, w.frozen? ⟨g, j, none⟩ = false) ∧ rs[k]? = some (x, y, (D, m, d), s) ∧ l[k]? = some (x, y, t, s) ∧
    w.cell? ⟨g, off + k * 4, none⟩ = some (.int .i64 x) ∧ w.cell? ⟨g, off + k * 4 + 1, none⟩ = some (.int .i64 y) ∧ w.cell? ⟨g, off + k * 4 + 2, none⟩ = some (.slice D m d) ∧ w.cell? ⟨g, off + k * 4 + 3, none⟩ = some (.bool s) ∧ Tow w S (x, y, (D, m, d), s) ∧ Crd w w.heap.size (x, y, (D, m, d), s) (x, y, t, s) := by
  obtain ⟨h1, h2, h3, h4⟩ := h
  have hlen := h1.len
  rw [cellsC_length] at hlen
  obtain ⟨g, off, cur, rfl, hS, hh, hsz⟩ := h4 (by omega)
  have hr : rs[k]? = some (rs[k]'(by omega)) := List.getElem?_eq_getElem _
  have hp : l[k]? = some (l[k]'(by rw [← h2.1]; omega)) := List.getElem?_eq_getElem _
  have hc := h2.2 k _ _ hr hp
  obtain ⟨x, y, D, m, d, t, s, e1, e2, h5, h6⟩ := hc.out
  rw [e1] at hr hc
  rw [e2] at hp hc
  have g1 := cellsC_get hr
  have hcc := h1.cells
  refine ⟨g, off, x, y, D, m, d, t, s, rfl, hS, lt_of_heap hh, fun j => frozen_of_row w g j _ _ hh, hr, hp, ?_, ?_, ?_, ?_, h3 _ (List.mem_of_getElem? hr), hc⟩
  · have := hcc _ _ (g1 0 _ rfl); rwa [Addr.add_lit] at this
  · have := hcc _ _ (g1 1 _ rfl); rwa [Addr.add_lit, ← Nat.add_assoc] at this
  · have := hcc _ _ (g1 2 _ rfl); rwa [Addr.add_lit, ← Nat.add_assoc] at this
  · have := hcc _ _ (g1 3 _ rfl); rwa [Addr.add_lit, ← Nat.add_assoc] at this

end Go.Proofs.Ytbpijlghdpflgaa.Eth
