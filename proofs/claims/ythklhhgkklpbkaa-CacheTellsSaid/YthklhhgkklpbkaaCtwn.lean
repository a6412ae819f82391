/- Twin of caches. -/
import Derived.Test.YthklhhgkklpbkaaCsam
namespace Go.Proofs.Ythklhhgkklpbkaa
open Go.RowKit Go.Shelf Go.Lib

set_option maxHeartbeats 3200000 in
theorem ctwin_any {w : World} {B n c : Nat} {A : Option Addr} {l : List De} (o p : Int) (h : Ds w B A n c l) (hB : B ≤ w.heap.size) (hn : n ≤ 1000) :
    Calls Try.prog 9 #[cav o p (.slice A n c)] w fun e w' => ∃ v, e = .returned (cav o p v) ∧ Hid (Od w' w.heap.size v l ∧ Below w.heap.size w w') := by
  have H := hid (h.mono hB)
  have HL := hid h.len
  have hcap := h.cap
  clear h hB
  obtain ⟨W, hW⟩ : ∃ W, W = (w.alloc (.cells #[.int .i64 o, .int .i64 p, .slice A n c] 24)).alloc (.cells #[.int .i64 0, .int .i64 0, .slice none 0 0] 24) := ⟨_, rfl⟩
  have B0 := hid (show Below w.heap.size w W from hW ▸ ((Below.refl _ w).alloc (Nat.le_refl _) _).alloc (by simp) _)
  have hz : W.heap.size = w.heap.size + 1 + 1 := by rw [hW]; simp
  have X0 := hid (show Cbox W w.heap.size o p (.slice A n c) from hW ▸ heap2_0 w _ _)
  have X1 := hid (show Cbox W (w.heap.size + 1) 0 0 (.slice none 0 0) from hW ▸ heap2_1 w _ _)
  have HW := hid hW
  clear hW
  have CC := hid (clone_any (H.out.below B0.out) B0.out.size (by omega))
  have x2 := X0.out.c2
  have f2 := X0.out.frozen 2
  have HZ := hid hz
  unfold cav
  go_enter Try.func9, Try.ntmps9
  go_upto_region 1 with fail
  rw [← HW.out]
  clear HW
  go_wp2_with fail
  refine CC.out.mono ?_
  rintro e w6 ⟨v, rfl, HV⟩
  have HO := hid (HV.out.1.mono (Nat.le_of_eq hz.symm))
  have BT := hid HV.out.2
  obtain ⟨A6, c6, rfl, hD6, _, _⟩ := HO.out.form
  clear hD6 HV CC x2 f2
  have X6 := hid (X0.out.below BT.out (by omega))
  have Y6 := hid (X1.out.below BT.out (by omega))
  have B6 := hid (B0.out.trans (BT.out.mono (by omega)))
  have x62 := X6.out.c2
  have f62 := X6.out.frozen 2
  go_upto_region 2 with fail
  clear B0 X0 X1 H
  have X7 := hid (put2_box (v' := .slice A6 l.length c6) X6.out)
  have Y7 := hid (show Cbox (w6.setCell ⟨w.heap.size, 2, none⟩ (.slice A6 l.length c6)) (w.heap.size + 1) 0 0 (.slice none 0 0) from (Below.heap_setCell w6 ⟨w.heap.size, 2, none⟩ _ (w.heap.size + 1) (by show w.heap.size + 1 ≠ w.heap.size; omega)).trans Y6.out)
  have B7 := hid (B6.out.setCell (p := ⟨w.heap.size, 2, none⟩) (Nat.le_refl _) (.slice A6 l.length c6))
  have HO7 := hid (HO.out.set (a := ⟨w.heap.size, 2, none⟩) (by show w.heap.size < _; omega) (.slice A6 l.length c6))
  generalize w6.setCell ⟨w.heap.size, 2, none⟩ (.slice A6 l.length c6) = W7 at X7 Y7 B7 HO7 ⊢
  clear X6 Y6 B6 x62 f62 HO
  have x0 := X7.out.c0
  have x1 := X7.out.c1
  have x2 := X7.out.c2
  have y0 := Y7.out.c0
  have y1 := Y7.out.c1
  have y2 := Y7.out.c2
  have z0 := Y7.out.frozen 0
  have z1 := Y7.out.frozen 1
  have z2 := Y7.out.frozen 2
  go_wp2
  refine ret_cache1 (g := w.heap.size + 1) (o := o) (q := p) (v := .slice A6 l.length c6) rfl rfl rfl Y7.out.store ?_
  exact ⟨_, rfl, hid ⟨(HO7.out.putC (by omega)).mono (by omega), below_putC B7.out (by omega)⟩⟩
end Go.Proofs.Ythklhhgkklpbkaa
