/- The law LimbShifts, walked: for any limbs and number it returns true, and turns no memory that was there. -/
import Derived.Test.YtgjlifjkikojjaaDoorRlow
namespace Go.Proofs.YtgjlifjkikojjaaDoor
open Go.RowKit

set_option maxHeartbeats 12800000 in
set_option maxRecDepth 1000000 in
theorem shifts_walk {A : Option Addr} {n c : Nat} {k : Int} {f : Nat → Nat} {w : World} (ha : Rd w w.heap.size A n c f) (hnil : A = none → n = 0 ∧ c = 0) (hkw : (Lit.int .i64 k).wf = true) (hT : Tab w) :
    Calls Tryd.prog 4 #[.slice A n c, .int .i64 k] w (Alive w) := by
  have hkm : k ≤ 9223372036854775807 := by
    have hmax : IntKind.i64.max = 9223372036854775807 := rfl
    simp only [Lit.wf, Bool.and_eq_true, decide_eq_true_eq] at hkw
    omega
  have hac := ha.cap
  have ham := ha.max
  have Ha := hid ha
  have HT := hid hT
  have Hkm := hid hkm
  have Hnil := hid hnil
  clear ha hT hkw hkm hnil
  by_cases hn : (42 : Int) < (n : Int)
  · have Cg := hid (great_any A n c w (by omega))
    rw [decide_eq_true hn] at Cg
    go_enter Tryd.func4, Tryd.ntmps4
    go_wp2_with fail
    refine Cg.out.mono ?_
    rintro e w' ⟨rfl, rfl⟩
    go_wp2_with fail
    go_ret
    exact ⟨rfl, Below.refl _ _⟩
  have h42 : n ≤ 42 := by omega
  have Cg := hid (great_any A n c w (by omega))
  rw [decide_eq_false hn] at Cg
  have Hcells := hid (cells_of_rd Ha.out)
  go_enter Tryd.func4, Tryd.ntmps4
  go_wp2_with fail
  refine Cg.out.mono ?_
  rintro e w' ⟨rfl, rfl⟩
  go_wp2_with (at_builtin; refine wpList_append_copy rfl (.tmp 25) (.tmp 26) 22 rfl 23 (.int .u32 0) 4 Tryd.underlying22 info_u32 rfl (by decide) rfl rfl (by simp) Hnil.out Hcells.out (by simp; intros; subst_vars; rfl) (by omega) ?_; intro v1 w1 hown1 hbel1)
  obtain ⟨A1, c1, rfl, hr1⟩ := rd_of_row hown1.out ham Ha.out.lt Ha.out.out
  have Ho := hid hr1
  have HT := hid (HT.out.below hbel1.out HT.out.lt)
  have Ha1 := hid ((Ha.out.below hbel1.out).mono hbel1.out.size)
  clear hown1 hr1 Hcells Cg Hnil
  -- limb.Left
  have C2 := hid (Left_any Ho.out k Hkm.out)
  refine C2.out.mono ?_
  rintro e w2 h2
  obtain ⟨b2, x, rfl, gx⟩ := h2.got
  have B2 := hid b2
  have Gx := hid gx
  clear h2 b2 gx C2
  -- headcountref01.Left
  have C3 := hid (rLeft_any ((Ha1.out.below B2.out).mono B2.out.size) h42 k Hkm.out)
  go_wp2_with fail
  refine C3.out.mono ?_
  rintro e w3 ⟨y, _, rfl, ⟨rfl⟩, Vy, b3⟩
  have B3 := hid (B2.out.trans (b3.out.mono B2.out.size))
  have B23 := hid b3.out
  clear C3 b3
  -- limb.Right
  have C4 := hid (Right_any ((Ho.out.below B3.out).mono B3.out.size) k Hkm.out)
  go_wp2_with fail
  refine C4.out.mono ?_
  rintro e w4 h4
  obtain ⟨b4, z, rfl, gz⟩ := h4.got
  have B34 := hid b4
  have B4 := hid (B3.out.trans (b4.mono B3.out.size))
  have Gz := hid gz
  clear h4 b4 gz C4
  -- headcountref01.Right
  have C5 := hid (rRight_any ((Ha1.out.below B4.out).mono B4.out.size) h42 k Hkm.out)
  go_wp2_with fail
  refine C5.out.mono ?_
  rintro e w5 ⟨y2, _, rfl, ⟨rfl⟩, Vy2, b5⟩
  have B5 := hid (B4.out.trans (b5.out.mono B4.out.size))
  have B45 := hid b5.out
  clear C5 b5
  -- limb.Bits
  have C6 := hid (Bits_any ((Ho.out.below B5.out).mono B5.out.size))
  go_wp2_with fail
  refine C6.out.mono ?_
  rintro e w6 ⟨b6, s6, rfl, p6, q6⟩
  have B6 := hid (B5.out.trans (b6.mono B5.out.size))
  have B56 := hid b6
  have P6 := hid p6
  have Q6 := hid q6
  clear C6 b6 p6 q6
  -- headcountref01.Bits
  have C7 := hid (rBits_any ((Ha1.out.below B6.out).mono B6.out.size) h42)
  go_wp2_with fail
  refine C7.out.mono ?_
  rintro e w7 ⟨b7, s7, rfl, p7, q7⟩
  obtain rfl : s6 = s7 := Size.same P6.out Q6.out p7 q7
  have B7 := hid (B6.out.trans (b7.mono B6.out.size))
  have B67 := hid b7
  clear C7 b7 p7 q7 P6 Q6
  -- limb.Low
  have C8 := hid (Low_any ((Ho.out.below B7.out).mono B7.out.size) (HT.out.below B7.out HT.out.lt))
  go_wp2_with fail
  refine C8.out.mono ?_
  rintro e w8 ⟨b8, s8, rfl, p8, q8⟩
  have B8 := hid (B7.out.trans (b8.mono B7.out.size))
  have B78 := hid b8
  have P8 := hid p8
  have Q8 := hid q8
  clear C8 b8 p8 q8
  -- headcountref01.Low
  have C9 := hid (rLow_any ((Ha1.out.below B8.out).mono B8.out.size) h42)
  go_wp2_with fail
  refine C9.out.mono ?_
  rintro e w9 ⟨b9, s9, rfl, p9, q9⟩
  obtain rfl : s8 = s9 := LowOf.same P8.out Q8.out p9 q9
  have B9 := hid (B8.out.trans (b9.mono B8.out.size))
  have B89 := hid b9
  clear C9 b9 p9 q9 P8 Q8
  -- what stays till here
  have B49 := hid (B45.out.trans ((B56.out.trans ((B67.out.trans ((B78.out.trans (B89.out.mono B78.out.size)).mono B67.out.size)).mono B56.out.size)).mono B45.out.size))
  have B29 := hid (B23.out.trans ((B34.out.trans (B49.out.mono B34.out.size)).mono B23.out.size))
  have Vx := hid (Gx.out.val.below B29.out)
  have Vy9 := hid (Vy.out.below ((B34.out.trans (B49.out.mono B34.out.size))))
  have Vz := hid (Gz.out.val.below B49.out)
  have Vy29 := hid (Vy2.out.below (B56.out.trans ((B67.out.trans ((B78.out.trans (B89.out.mono B78.out.size)).mono B67.out.size)).mono B56.out.size)))
  clear Vy Vy2 B56 B67 B78 B89 B8 B7 B6 B5
  generalize leftErr n f k = e1 at *
  generalize rightErr n f k = e2 at *
  generalize chk n f = e3 at *
  -- Same(x, y)
  have D1 := hid (rsame_val Vx.out Vy9.out)
  go_wp2_with fail
  refine D1.out.mono ?_
  rintro e w10 ⟨rfl, q1, rfl⟩
  clear D1
  -- Same(z, w)
  have D2 := hid (rsame_val (Vz.out.below (below_drewN (Below.refl w9.heap.size w9) q1)) (Vy29.out.below (below_drewN (Below.refl w9.heap.size w9) q1)))
  go_wp2_with fail
  refine D2.out.mono ?_
  rintro e w10 ⟨rfl, q2, hq⟩
  have B10 : Hid (Below w9.heap.size w9 w10) := by subst hq; exact below_drewN (below_drewN (Below.refl _ _) q1) q2
  have H10 : Hid (w10.heap = w9.heap) := by subst hq; rfl
  clear D2 hq
  have Hgx : Hid (∀ i, i < w2.heap.size → w1.heap.size ≤ i → w10.heap[i]? = w2.heap[i]?) := hid (fun i hi _ => by rw [H10.out]; exact B29.out.block i hi)
  have Gz10 := hid ((Gz.out.below B49.out (Nat.le_refl _)).above (w' := w10) (fun i _ => by rw [H10.out]))
  have B10 := hid (B9.out.trans (B10.out.mono B9.out.size))
  have h23 := B23.out.size
  have h34 := B34.out.size
  have h49 := B49.out.size
  have h12 := B2.out.size
  clear Gz B49 B29 Vx Vy9 Vz Vy29 B34 B23 B4 B3 H10 B9
  -- spoil(x)
  have D3 := hid (spoil_got Gx.out Hgx.out)
  go_wp2_with fail
  refine D3.out.mono ?_
  rintro e w11 ⟨rfl, b11, o11⟩
  have B11 := hid (B10.out.trans b11)
  have Gz11 := hid (Gz10.out.above (fun i hi => o11 i (by omega)))
  clear D3 b11 o11 Gz10 Gx Hgx B10
  -- spoil(z)
  have D4 := hid (spoil_got (w := w11) Gz11.out (fun i _ _ => rfl))
  go_wp2_with fail
  refine D4.out.mono ?_
  rintro e w12 ⟨rfl, b12, _⟩
  have B12 := hid (B11.out.trans (b12.mono (by omega)))
  clear D4 b12 B11 Gz11
  -- Same(own, a)
  have D5 := hid (rsame_any (Ho.out.below B12.out) (Ha1.out.below B12.out))
  go_wp2_with fail
  refine D5.out.mono ?_
  rintro e w13 ⟨r, rfl, hr, q3, rfl⟩
  obtain rfl : r = true := by simpa using hr
  clear hr D5
  go_wp2_with fail
  go_ret
  exact ⟨rfl, hbel1.out.trans ((below_drewN B12.out q3).mono hbel1.out.size)⟩
end Go.Proofs.YtgjlifjkikojjaaDoor
