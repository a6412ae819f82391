/- slices.Clone over limbs; dyad.Twin. -/
import Derived.Test.YtelalanhalbicaaDoorEmay
namespace Go.Proofs.YtelalanhalbicaaDoor
open Go.RowKit

set_option maxHeartbeats 1600000 in
theorem clone_nil (w : World) : Calls Tryd.prog 55 #[.slice none 0 0] w fun e w' => e = .returned (.slice none 0 0) ∧ w = w' := by
  have hnil : ∀ w, (binOp .eql 22 (.slice none 0 0) (.slice none 0 0)).run Tryd.prog w = .ok (.bool true) w := fun w => Lib.run_eql_slice_nil w 22 71 none 0 0 0 0 Tryd.underlying22
  go_enter Tryd.func55, Tryd.ntmps55
  go_wp2
  go_ret
  exact ⟨rfl, rfl⟩
set_option maxHeartbeats 1600000 in
theorem clone_some {p : Addr} {n c : Nat} {f : Nat → Nat} {w : World} (h : Rd w w.heap.size (some p) n c f) (hn : n ≤ 42) :
    Calls Tryd.prog 55 #[.slice (some p) n c] w fun e w' => ∃ A' c', e = .returned (.slice A' n c') ∧ Hid (Mk w' 71 w.heap.size A' n c' f) ∧ Hid (Below w.heap.size w w') := by
  have Hcells := hid (cells_of_rd h)
  have H := hid h
  have hm := h.max
  have hnil : ∀ w, (binOp .eql 22 (.slice (some p) n c) (.slice none 0 0)).run Tryd.prog w = .ok (.bool false) w := fun w => Lib.run_eql_slice_nil w 22 71 (some p) n c 0 0 Tryd.underlying22
  clear h
  go_enter Tryd.func55, Tryd.ntmps55
  go_wp2_with (at_builtin; refine wpList_append_copy rfl (.tmp 5) (.tmp 6) 22 rfl 71 (.int .u32 0) 4 Tryd.underlying22 info_u32 rfl (by decide) rfl rfl (by simp) (fun h => by cases h) Hcells.out (by simp; intros; subst_vars; rfl) (by omega) ?_; intro v1 w1 hown1 hbel1)
  go_ret
  obtain ⟨A1, c1, rfl, hr1⟩ := mk_of_row hown1.out hm H.out.lt H.out.out
  exact ⟨_, _, rfl, hr1, hbel1⟩
theorem clone_any {A : Option Addr} {n c : Nat} {f : Nat → Nat} {w : World} (h : Rd w w.heap.size A n c f) (hnil : A = none → n = 0 ∧ c = 0) (hn : n ≤ 42) :
    Calls Tryd.prog 55 #[.slice A n c] w fun e w' => ∃ A' c', e = .returned (.slice A' n c') ∧ Hid (Mk w' 71 w.heap.size A' n c' f) ∧ Hid (Below w.heap.size w w') := by
  cases A with
  | none =>
    obtain ⟨rfl, rfl⟩ := hnil rfl
    refine (clone_nil w).mono ?_
    rintro e w' ⟨rfl, rfl⟩
    exact ⟨_, _, rfl, ⟨Nat.le_refl _, by omega, h.lt, h.out, .inl ⟨rfl, rfl, rfl⟩⟩, Below.refl _ _⟩
  | some p => exact clone_some h hn

set_option maxHeartbeats 1600000 in
theorem dtwin_any {A : Option Addr} {n c : Nat} {f : Nat → Nat} {w : World} (h : Rd w w.heap.size A n c f) (hnil : A = none → n = 0 ∧ c = 0) (hn : n ≤ 42) (s : Bool) (x : Int) :
    Calls Tryd.prog 37 #[.agg #[.bool s, .slice A n c, .int .i64 x]] w fun e w' => ∃ A' c', e = .returned (.agg #[.bool s, .slice A' n c', .int .i64 x]) ∧ Hid (Mk w' 71 w.heap.size A' n c' f) ∧ Hid (Below w.heap.size w w') := by
  have B0 := hid (((Below.refl w.heap.size w).alloc (Nat.le_refl _) (.cells #[.bool s, .slice A n c, .int .i64 x] 24)).alloc (by simp) (.cells #[.bool false, .slice none 0 0, .int .i64 0] 24))
  have P1 : Hid (Dbox _ (w.heap.size + 1) false (.slice none 0 0) 0) := heap_alloc2_new w (.cells #[.bool s, .slice A n c, .int .i64 x] 24) (.cells #[.bool false, .slice none 0 0, .int .i64 0] 24)
  have P0 : Hid (Dbox _ w.heap.size s (.slice A n c) x) := (Below.heap_alloc _ (.cells #[.bool false, .slice none 0 0, .int .i64 0] 24) _ (by simp)).trans (heap_alloc_new w (.cells #[.bool s, .slice A n c, .int .i64 x] 24))
  obtain ⟨W, hW⟩ : ∃ W, W = (w.alloc (.cells #[.bool s, .slice A n c, .int .i64 x] 24)).alloc (.cells #[.bool false, .slice none 0 0, .int .i64 0] 24) := ⟨_, rfl⟩
  have HS : Hid (w.heap.size + 2 = W.heap.size) := by rw [hW]; simp [Hid]
  have HW := hid hW
  rw [← hW] at B0 P1 P0
  have CC := hid (clone_any ((h.below B0.out).mono B0.out.size) hnil hn)
  clear h hnil hW
  have a0 := P0.out.c0
  have a1 := P0.out.c1
  have a2 := P0.out.c2
  go_enter Tryd.func37, Tryd.ntmps37
  go_upto_region 1 with fail
  rw [← HW.out]
  go_wp2_with fail
  refine CC.out.mono ?_
  rintro e w1 ⟨A1, c1, rfl, hr1, hbel1⟩
  have P0 := hid (P0.out.below hbel1.out P0.out.lt)
  have P1 := hid (P1.out.below hbel1.out P1.out.lt)
  have B1 := hid (B0.out.trans (hbel1.out.mono B0.out.size))
  have M1 := hid ((hr1.out.far (g := w.heap.size) (by have := HS.out; omega) 1 (.slice A1 n c1)))
  have b1 := P0.out.frozen 1
  have b2 := P0.out.c1
  have P0 := hid (P0.out.set1 (.slice A1 n c1))
  have P1 := hid (P1.out.far (k := w.heap.size) (by omega) 1 (.slice A1 n c1))
  have B1 := hid (B1.out.setCell (p := ⟨w.heap.size, 1, none⟩) (Nat.le_refl _) (.slice A1 n c1))
  have g0 := P1.out.frozen 0
  have g1 := P1.out.frozen 1
  have g2 := P1.out.frozen 2
  have e0 := P1.out.c0
  have e1 := P1.out.c1
  have e2 := P1.out.c2
  have d0 := P0.out.c0
  have d1 := P0.out.c1
  have d2 := P0.out.c2
  clear a0 a1 a2 CC hbel1
  go_wp2
  refine ret_one rfl rfl rfl (P1.out.store (t := s) (u := .slice A1 n c1) (y := x)) ?_
  exact ⟨_, _, rfl, (M1.out.put3 (by have := HS.out; omega)).mono (by have := HS.out; omega), below_put3 B1.out (by omega)⟩

end Go.Proofs.YtelalanhalbicaaDoor
