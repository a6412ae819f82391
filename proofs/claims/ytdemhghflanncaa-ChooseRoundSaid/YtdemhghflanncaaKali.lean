/- The laws' own helpers: four, alive. -/
import Derived.Test.YtdemhghflanncaaKcal
namespace Go.Proofs.Ytdemhghflanncaa
open Go.RowKit Go.Shelf Go.Lib

theorem ds_row {X : World} {N : Nat} {l : List De} (h : X.heap[N]? = some (.cells (cellsD l).toArray 23 (0, 0))) (hl : l.length ≤ 1000) : Ds X X.heap.size (some ⟨N, 0, none⟩) l.length l.length l :=
  ⟨rfl, Nat.le_refl _, by omega, fun e => (by cases e), fun _ => ⟨N, 0, rfl, lt_of_heap h, fun j d hj => by
    obtain ⟨g1, g2⟩ := cellsD_get hj
    rw [cell_of_row X N _ _ _ (0, 0) h, cell_of_row X N _ _ _ (0, 0) h, Nat.zero_add]
    exact ⟨by simpa using g1, by simpa using g2⟩⟩⟩

def fourL : List De := [(1, 5), (0, 5), (2, 9), (1, 7)]
theorem four_orr : orr fourL = [(2, 9), (1, 7), (0, 5), (1, 5)] := by decide
theorem four_bst : bst fourL = [(2, 9), (1, 7), (0, 5)] := by decide
theorem four_chk : chk fourL = 0 := by decide

end Go.Proofs.Ytdemhghflanncaa
