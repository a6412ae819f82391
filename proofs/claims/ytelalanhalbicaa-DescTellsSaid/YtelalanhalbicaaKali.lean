/- The laws' own helpers: four, alive. -/
import Derived.Test.YtelalanhalbicaaKcal
namespace Go.Proofs.Ytelalanhalbicaa
open Go.RowKit Go.Shelf Go.Lib

theorem ds_row {X : World} {N : Nat} {l : List De} (h : X.heap[N]? = some (.cells (cellsD l).toArray 26 (0, 0))) (hl : l.length ≤ 1000) : Ds X X.heap.size (some ⟨N, 0, none⟩) l.length l.length l :=
  ⟨rfl, Nat.le_refl _, by omega, fun e => (by cases e), fun _ => ⟨N, 0, rfl, lt_of_heap h, fun j d hj => by
    obtain ⟨g1, g2⟩ := cellsD_get hj
    rw [cell_of_row X N _ _ _ (0, 0) h, cell_of_row X N _ _ _ (0, 0) h, Nat.zero_add]
    exact ⟨by simpa using g1, by simpa using g2⟩⟩⟩

def fourL : List De := [(1, 5), (0, 5), (2, 9), (1, 7)]
theorem four_any (w : World) : Calls Try.prog 25 #[] w fun e w' => e = .returned (.slice (some ⟨w.heap.size, 0, none⟩) 4 4) ∧ w' = w.alloc (.cells (cellsD fourL).toArray 26) := by
  go_enter Try.func25, Try.ntmps25
  go_wp2
  go_ret
  exact ⟨rfl, rfl⟩

theorem four_orr : orr fourL = [(2, 9), (1, 7), (0, 5), (1, 5)] := by decide
theorem four_bst : bst fourL = [(2, 9), (1, 7), (0, 5)] := by decide
theorem four_chk : chk fourL = 0 := by decide

set_option maxHeartbeats 3200000 in
theorem alive_any (w : World) : Calls Try.prog 11 #[] w fun e w' => e = .returned (.bool true) ∧ Hid (Below w.heap.size w w') := by
  have C4 := hid four_any
  have CO := hid (fun X : World => order_any (w := X.alloc (.cells (cellsD fourL).toArray 26)) (ds_row (heap_alloc_new X _) (by decide)) (Nat.le_refl _))
  have CB := hid (fun X : World => best_any (w := X.alloc (.cells (cellsD fourL).toArray 26)) (ds_row (heap_alloc_new X _) (by decide)) (Nat.le_refl _))
  rw [four_orr, four_chk] at CO
  rw [four_bst, four_chk] at CB
  go_enter Try.func11, Try.ntmps11
  go_wp2_with fail
  refine (C4.out _).mono ?_
  rintro e w1 ⟨rfl, rfl⟩
  go_wp2_with fail
  refine (CO.out _).mono ?_
  rintro e w2 ⟨v2, rfl, h2⟩
  obtain ⟨A2, c2, rfl, hD2, _, _⟩ := h2.out.1.form
  have B2 := hid (((Below.refl w.heap.size w).alloc (Nat.le_refl _) (.cells (cellsD fourL).toArray 26)).trans (h2.out.2.mono (by simp)))
  have H2 := hid hD2
  clear h2 hD2
  go_wp2_with fail
  refine (C4.out _).mono ?_
  rintro e w3 ⟨rfl, rfl⟩
  go_wp2_with fail
  refine (CB.out _).mono ?_
  rintro e w4 ⟨v4, rfl, h4⟩
  obtain ⟨A4, c4, rfl, hD4, _, _⟩ := h4.out.1.form
  have B4 := hid (((Below.refl w2.heap.size w2).alloc (Nat.le_refl _) (.cells (cellsD fourL).toArray 26)).trans (h4.out.2.mono (by simp)))
  have H4 := hid hD4
  have H24 := hid (H2.out.below B4.out)
  have CS := hid (fun X (hb : Below w4.heap.size w4 X) => dsame_any (w := X.alloc (.cells #[.int .i64 2, .int .i64 9, .int .i64 1, .int .i64 7, .int .i64 0, .int .i64 5, .int .i64 1, .int .i64 5] 26)) (((H24.out.mono B4.out.size).below hb).below (Below.alloc (Below.refl _ X) hb.size _)) (ds_row (l := [(2, 9), (1, 7), (0, 5), (1, 5)]) (heap_alloc_new X _) (by decide)) (by simp; exact Nat.le_succ_of_le hb.size) (Nat.le_refl _))
  have CT := hid (fun X (hb : Below w4.heap.size w4 X) => dsame_any (w := X.alloc (.cells #[.int .i64 2, .int .i64 9, .int .i64 1, .int .i64 7, .int .i64 0, .int .i64 5] 26)) ((H4.out.below hb).below (Below.alloc (Below.refl _ X) hb.size _)) (ds_row (l := [(2, 9), (1, 7), (0, 5)]) (heap_alloc_new X _) (by decide)) (by simp; exact Nat.le_succ_of_le hb.size) (Nat.le_refl _))
  clear h4 hD4
  go_wp2_with fail
  refine (CS.out _ (Below.refl _ _)).mono ?_
  rintro e w5 ⟨rfl, h5⟩
  have B5 := hid (((Below.refl w4.heap.size w4).alloc (Nat.le_refl _) (.cells #[.int .i64 2, .int .i64 9, .int .i64 1, .int .i64 7, .int .i64 0, .int .i64 5, .int .i64 1, .int .i64 5] 26)).trans (h5.out.mono (by simp)))
  go_wp2_with fail
  refine (CT.out _ B5.out).mono ?_
  rintro e w6 ⟨rfl, h6⟩
  have B6 := hid ((B5.out.alloc B5.out.size (.cells #[.int .i64 2, .int .i64 9, .int .i64 1, .int .i64 7, .int .i64 0, .int .i64 5] 26)).trans (h6.out.mono (by simp; exact Nat.le_succ_of_le B5.out.size)))
  go_wp2
  go_ret
  exact ⟨rfl, hid (B2.out.trans ((B4.out.trans (B6.out.mono B4.out.size)).mono B2.out.size))⟩
end Go.Proofs.Ytelalanhalbicaa
