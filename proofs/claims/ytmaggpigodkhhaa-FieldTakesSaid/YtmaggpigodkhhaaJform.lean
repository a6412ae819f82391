/- Package field: formed. -/
import Derived.Test.YtmaggpigodkhhaaJnum
import Derived.Test.YtmaggpigodkhhaaEcom
import Derived.Test.YtmaggpigodkhhaaEmay
namespace Go.Proofs.Ytmaggpigodkhhaa
open Go.RowKit

set_option maxHeartbeats 6400000 in
theorem formed_any {w : World} {n c g : Nat} {A : Option Addr} {f : Nat → Nat} {x : Int} (hr : Rd w w.heap.size A n c f) (hg : g < 256) :
    Calls Try.prog 38 #[.int .u64 (g : Int), .agg #[.bool false, .slice A n c, .int .i64 x]] w fun e w' =>
      Hid (Below w.heap.size w w') ∧ ((g ≤ 1 ∧ DMay (decide (g = 1)) n f x ∧ e = .returned (.tuple #[.agg #[.bool (decide (g = 1)), .slice A n c, .int .i64 x], .int .i64 0])) ∨
        (¬ (g ≤ 1 ∧ DMay (decide (g = 1)) n f x) ∧ e = .returned (.tuple #[.agg #[.bool false, .slice none 0 0, .int .i64 0], .int .i64 41]))) := by
  obtain ⟨W, hW⟩ : ∃ W, W = (w.alloc (.cells #[.bool false, .slice A n c, .int .i64 x] 26)).alloc (.cells #[.bool false, .slice none 0 0, .int .i64 0] 26) := ⟨_, rfl⟩
  have B0 := hid (show Below w.heap.size w W from hW ▸ ((Below.refl w.heap.size w).alloc (Nat.le_refl _) _).alloc (by simp) _)
  have P0 : Hid (Dbox W w.heap.size false (.slice A n c) x) := hid (hW ▸ (Below.heap_alloc _ _ _ (by simp)).trans (heap_alloc_new w _))
  have Z0 : Hid (Dbox W (w.heap.size + 1) false (.slice none 0 0) 0) := hid (hW ▸ heap_alloc2_new w _ _)
  have HW := hid hW
  have HR := hid hr
  clear hW hr
  have b0 := P0.out.frozen 0
  have hcase : g = 0 ∨ g = 1 ∨ (((g : Int) == 1) = false ∧ ((g : Int) != 0) = true ∧ ¬ g ≤ 1) := by
    rcases Nat.lt_or_ge g 2 with h | h
    · omega
    · right; right
      refine ⟨by simp; omega, ?_, by omega⟩
      simp only [bne_iff_ne]
      omega
  rcases hcase with rfl | rfl | ⟨h1, h2, h3⟩
  · have P1 := hid (P0.out.set0 false)
    have B1 := hid (B0.out.setCell (p := ⟨w.heap.size, 0, none⟩) (Nat.le_refl _) (.bool false))
    have Z1 := hid (Z0.out.far (k := w.heap.size) (by omega) 0 (.bool false))
    have C := hid (dcheck_any (w := W.setCell ⟨w.heap.size, 0, none⟩ (.bool false)) ((HR.out.below B1.out).mono B1.out.size) false x)
    have c0 := P0.out.c0
    have c1 := P0.out.c1
    have c2 := P0.out.c2
    by_cases hm : DMay false n f x
    · have HM := hid hm
      rw [dchk_ok hm] at C
      clear hm
      go_enter Try.func38, Try.ntmps38
      go_upto_region 1 with fail
      rw [← HW.out]
      go_wp2_with fail
      refine C.out.mono ?_
      rintro e w1 ⟨rfl, hb⟩
      have P2 := hid (P1.out.below hb P1.out.lt)
      have Z2 := hid (Z1.out.below hb Z1.out.lt)
      have B2 := hid (B1.out.trans (hb.mono B1.out.size))
      have e0 := P2.out.c0
      have e1 := P2.out.c1
      have e2 := P2.out.c2
      have f0 := Z2.out.frozen 0
      have f1 := Z2.out.frozen 1
      have f2 := Z2.out.frozen 2
      have z0 := Z2.out.c0
      have z1 := Z2.out.c1
      have z2 := Z2.out.c2
      clear c0 c1 c2
      go_wp2
      refine ret_dyad rfl rfl rfl rfl (Z2.out.store (t := false) (u := .slice A n c) (y := x)) ?_
      exact ⟨below_put3 B2.out (by simp), .inl ⟨by omega, HM.out, rfl⟩⟩
    · have HM := hid hm
      rw [dchk_bad hm] at C
      clear hm
      go_enter Try.func38, Try.ntmps38
      go_upto_region 1 with fail
      rw [← HW.out]
      go_wp2_with fail
      refine C.out.mono ?_
      rintro e w1 ⟨rfl, hb⟩
      have Z2 := hid (Z1.out.below hb Z1.out.lt)
      have B2 := hid (B1.out.trans (hb.mono B1.out.size))
      have f0 := Z2.out.frozen 0
      have f1 := Z2.out.frozen 1
      have f2 := Z2.out.frozen 2
      have z0 := Z2.out.c0
      have z1 := Z2.out.c1
      have z2 := Z2.out.c2
      clear c0 c1 c2
      go_wp2
      refine ret_dyad rfl rfl rfl rfl (Z2.out.store (t := false) (u := .slice none 0 0) (y := 0)) ?_
      exact ⟨below_put3 B2.out (by simp), .inr ⟨fun h => HM.out h.2, rfl⟩⟩
  · have P1 := hid (P0.out.set0 true)
    have B1 := hid (B0.out.setCell (p := ⟨w.heap.size, 0, none⟩) (Nat.le_refl _) (.bool true))
    have Z1 := hid (Z0.out.far (k := w.heap.size) (by omega) 0 (.bool true))
    have C := hid (dcheck_any (w := W.setCell ⟨w.heap.size, 0, none⟩ (.bool true)) ((HR.out.below B1.out).mono B1.out.size) true x)
    have c0 := P0.out.c0
    have c1 := P0.out.c1
    have c2 := P0.out.c2
    by_cases hm : DMay true n f x
    · have HM := hid hm
      rw [dchk_ok hm] at C
      clear hm
      go_enter Try.func38, Try.ntmps38
      go_upto_region 1 with fail
      rw [← HW.out]
      go_wp2_with fail
      refine C.out.mono ?_
      rintro e w1 ⟨rfl, hb⟩
      have P2 := hid (P1.out.below hb P1.out.lt)
      have Z2 := hid (Z1.out.below hb Z1.out.lt)
      have B2 := hid (B1.out.trans (hb.mono B1.out.size))
      have e0 := P2.out.c0
      have e1 := P2.out.c1
      have e2 := P2.out.c2
      have f0 := Z2.out.frozen 0
      have f1 := Z2.out.frozen 1
      have f2 := Z2.out.frozen 2
      have z0 := Z2.out.c0
      have z1 := Z2.out.c1
      have z2 := Z2.out.c2
      clear c0 c1 c2
      go_wp2
      refine ret_dyad rfl rfl rfl rfl (Z2.out.store (t := true) (u := .slice A n c) (y := x)) ?_
      exact ⟨below_put3 B2.out (by simp), .inl ⟨by omega, HM.out, rfl⟩⟩
    · have HM := hid hm
      rw [dchk_bad hm] at C
      clear hm
      go_enter Try.func38, Try.ntmps38
      go_upto_region 1 with fail
      rw [← HW.out]
      go_wp2_with fail
      refine C.out.mono ?_
      rintro e w1 ⟨rfl, hb⟩
      have Z2 := hid (Z1.out.below hb Z1.out.lt)
      have B2 := hid (B1.out.trans (hb.mono B1.out.size))
      have f0 := Z2.out.frozen 0
      have f1 := Z2.out.frozen 1
      have f2 := Z2.out.frozen 2
      have z0 := Z2.out.c0
      have z1 := Z2.out.c1
      have z2 := Z2.out.c2
      clear c0 c1 c2
      go_wp2
      refine ret_dyad rfl rfl rfl rfl (Z2.out.store (t := false) (u := .slice none 0 0) (y := 0)) ?_
      exact ⟨below_put3 B2.out (by simp), .inr ⟨fun h => HM.out h.2, rfl⟩⟩
  · have H3 := hid h3
    have P1 := hid (P0.out.set0 false)
    have B1 := hid (B0.out.setCell (p := ⟨w.heap.size, 0, none⟩) (Nat.le_refl _) (.bool false))
    have Z1 := hid (Z0.out.far (k := w.heap.size) (by omega) 0 (.bool false))
    have c0 := P0.out.c0
    have f0 := Z0.out.frozen 0
    have f1 := Z0.out.frozen 1
    have f2 := Z0.out.frozen 2
    have z0 := Z0.out.c0
    have z1 := Z0.out.c1
    have z2 := Z0.out.c2
    clear h3
    go_enter Try.func38, Try.ntmps38
    go_upto_region 1 with fail
    rw [← HW.out]
    go_wp2
    refine ret_dyad rfl rfl rfl rfl (Z1.out.store (t := false) (u := .slice none 0 0) (y := 0)) ?_
    exact ⟨below_put3 B1.out (by simp), .inr ⟨fun h => H3.out h.1, rfl⟩⟩

end Go.Proofs.Ytmaggpigodkhhaa
