/- FieldNames, walked. -/
import Derived.Test.YtndehapggbmndaaJany
namespace Go.Proofs.Ytndehapggbmndaa
open Go.RowKit

theorem Rd.two (w : World) : Rd w w.heap.size none 0 0 (fun _ => 0) := Rd.nil w _
/-- What dE is at short bytes. -/
theorem dE_2 : dE ([2, 0, 0, 0].drop 0) = 41 := by
  unfold dE
  rw [if_neg (by decide), if_neg (fun h => absurd h.1 (by decide))]
theorem dE_7 : dE ([0, 0, 0, 1, 0, 0, 0].drop 0) = 40 := by
  unfold dE
  rw [if_pos (by decide)]
theorem dE_8 : dE ([0, 0, 1, 1, 0, 0, 0, 2].drop 0) = 41 := by
  unfold dE
  rw [if_neg (by decide), if_neg (fun h => absurd (h.2.2.2.2.2 (by decide)) (by decide))]

set_option maxRecDepth 100000 in
set_option maxHeartbeats 12800000 in
theorem fnames_walk {w : World} : Calls Try.prog 3 #[] w fun e w' => e = .returned (.bool true) ∧ Below w.heap.size w w' := by
  have K := hid (Below.refl w.heap.size w)
  go_enter Try.func3, Try.ntmps3
  go_wp2_with fail
  refine (PutNumber_arg (V := 256) (z := 1) (by decide) (by omega)).mono ?_
  rintro e w1 ⟨rfl, rfl⟩
  go_wp2_with fail
  refine (PutNumber_arg (V := 0) (z := 9) (by decide) (by omega)).mono ?_
  rintro e w2 ⟨rfl, rfl⟩
  have hmk : (Instr.makeSlice 22 (.int .i64 3900) (.int .i64 3900)).run Try.prog w = .ok (.slice (some ⟨w.heap.size, 0, none⟩) 3900 3900) (w.alloc (.cells (madeCells #[.int .u8 0] 3900) 5)) := by
    obtain ⟨i, hi, hz, hsz, hby⟩ := info_one u8_info
    have hr := run_make (P := Try.prog) w 22 5 i (.int .u8 0) (by kernel_rfl) hi hz .i64 .i64 3900 3900 (by omega) (by omega) (by rw [hby]; omega) (by omega)
    rw [hr, hsz]
    rfl
  have ha := hid ((Below.refl w.heap.size w).alloc (Nat.le_refl _) (.cells (madeCells #[.int .u8 0] 3900) 5))
  replace K := hid (K.out.trans ha.out)
  go_wp2_with fail
  refine (PutNumber_many (V := 0) (k := 1) (by omega) (by omega) (by decide) (by omega) (by omega) (by omega)).mono ?_
  rintro e w3 ⟨rfl, rfl⟩
  clear hmk
  obtain ⟨V, hV⟩ : ∃ V, V = w.alloc (.cells (madeCells #[.int .u8 0] 3900) 5) := ⟨_, rfl⟩
  rw [← hV] at K ⊢
  clear hV ha
  go_wp2_with fail
  refine (PutDyad_bad (x := 1) (s := false) (Rd.nil V _) (fun h => absurd (h.2.2.2.2 (by omega)) (by decide))).mono ?_
  rintro e w4 ⟨rfl, hb4⟩
  replace K := hid (K.out.trans (hb4.out.mono K.out.size))
  clear hb4
  have hY := hid (By.new w4 [9, 1, 0] (by decide) (by decide))
  have ha := hid ((Below.refl w4.heap.size w4).alloc (Nat.le_refl _) (.cells (vals [9, 1, 0]).toArray 5))
  replace hY := hid (hY.out.mono (B' := (w4.alloc (.cells (vals [9, 1, 0]).toArray 5)).heap.size) (by simp))
  replace K := hid (K.out.trans (ha.out.mono K.out.size))
  clear ha
  go_wp2_with fail
  refine (Number_any hY.out 1 2).mono ?_
  rintro e w5 ⟨A5, n5, c5, V5, e5, p5, rfl, he5, hX5, hp5, hV5, hb5⟩
  replace K := hid (K.out.trans (hb5.out.mono K.out.size))
  obtain rfl : e5 = 0 := he5.out.trans (by decide)
  obtain rfl : V5 = 256 := hV5.out.trans (by decide)
  clear he5 hX5 hp5 hV5 hb5 hY
  go_upto_region 6 with fail
  obtain ⟨u5, hu⟩ : ∃ u, u = w5.alloc (.cells #[.slice A5 n5 c5, .int .i64 p5] 32) := ⟨_, rfl⟩
  rw [← hu]
  have ha : Hid (Below w5.heap.size w5 u5) := hid (hu ▸ (Below.refl w5.heap.size w5).alloc (Nat.le_refl _) _)
  clear hu
  replace K := hid (K.out.trans (ha.out.mono K.out.size))
  clear ha
  have hY := hid (By.new u5 [9, 1, 0] (by decide) (by decide))
  have ha := hid ((Below.refl u5.heap.size u5).alloc (Nat.le_refl _) (.cells (vals [9, 1, 0]).toArray 5))
  replace hY := hid (hY.out.mono (B' := (u5.alloc (.cells (vals [9, 1, 0]).toArray 5)).heap.size) (by simp))
  replace K := hid (K.out.trans (ha.out.mono K.out.size))
  clear ha
  go_wp2_with fail
  refine (Number_any hY.out 2 2).mono ?_
  rintro e w6 ⟨A6, n6, c6, V6, e6, p6, rfl, he6, hX6, hp6, hV6, hb6⟩
  replace K := hid (K.out.trans (hb6.out.mono K.out.size))
  obtain rfl : e6 = 40 := he6.out.trans (by decide)
  obtain rfl : V6 = 0 := hV6.out.trans (by decide)
  clear he6 hX6 hp6 hV6 hb6 hY
  go_upto_region 7 with fail
  obtain ⟨u6, hu⟩ : ∃ u, u = w6.alloc (.cells #[.slice A6 n6 c6, .int .i64 p6] 32) := ⟨_, rfl⟩
  rw [← hu]
  have ha : Hid (Below w6.heap.size w6 u6) := hid (hu ▸ (Below.refl w6.heap.size w6).alloc (Nat.le_refl _) _)
  clear hu
  replace K := hid (K.out.trans (ha.out.mono K.out.size))
  clear ha
  go_wp2_with fail
  refine (Number_any (By.nul u6 _) 1 1).mono ?_
  rintro e w7 ⟨A7, n7, c7, V7, e7, p7, rfl, he7, hX7, hp7, hV7, hb7⟩
  replace K := hid (K.out.trans (hb7.out.mono K.out.size))
  obtain rfl : e7 = 8 := he7.out.trans (by decide)
  clear he7 hX7 hp7 hV7 hb7
  go_upto_region 8 with fail
  obtain ⟨u7, hu⟩ : ∃ u, u = w7.alloc (.cells #[.slice A7 n7 c7, .int .i64 p7] 32) := ⟨_, rfl⟩
  rw [← hu]
  have ha : Hid (Below w7.heap.size w7 u7) := hid (hu ▸ (Below.refl w7.heap.size w7).alloc (Nat.le_refl _) _)
  clear hu
  replace K := hid (K.out.trans (ha.out.mono K.out.size))
  clear ha
  have hY := hid (By.new u7 [2, 0, 0, 0] (by decide) (by decide))
  have ha := hid ((Below.refl u7.heap.size u7).alloc (Nat.le_refl _) (.cells (vals [2, 0, 0, 0]).toArray 5))
  replace hY := hid (hY.out.mono (B' := (u7.alloc (.cells (vals [2, 0, 0, 0]).toArray 5)).heap.size) (by simp))
  replace K := hid (K.out.trans (ha.out.mono K.out.size))
  clear ha
  go_wp2_with fail
  refine (Dyad_any hY.out 0).mono ?_
  rintro e w8 ⟨A8, n8, c8, p8, s8, D8, k8, d8, x8, e8, f8, rfl, he8, hX8, hp8, hM8, hV8, hz8, hb8⟩
  replace K := hid (K.out.trans (hb8.out.mono K.out.size))
  obtain rfl : e8 = 41 := he8.out.trans (by unfold dEr; rw [if_pos (by decide)]; exact dE_2)
  clear he8 hX8 hp8 hM8 hV8 hz8 hb8 hY
  go_upto_region 9 with fail
  obtain ⟨u8, hu⟩ : ∃ u, u = (w8.alloc (.cells #[.slice A8 n8 c8, .int .i64 p8] 32)).alloc (.cells #[.bool s8, .slice D8 k8 d8, .int .i64 x8] 30) := ⟨_, rfl⟩
  rw [← hu]
  have ha : Hid (Below w8.heap.size w8 u8) := hid (hu ▸ ((Below.refl w8.heap.size w8).alloc (Nat.le_refl _) _).alloc (by simp) _)
  clear hu
  replace K := hid (K.out.trans (ha.out.mono K.out.size))
  clear ha
  have hY := hid (By.new u8 [0, 0, 0, 1, 0, 0, 0] (by decide) (by decide))
  have ha := hid ((Below.refl u8.heap.size u8).alloc (Nat.le_refl _) (.cells (vals [0, 0, 0, 1, 0, 0, 0]).toArray 5))
  replace hY := hid (hY.out.mono (B' := (u8.alloc (.cells (vals [0, 0, 0, 1, 0, 0, 0]).toArray 5)).heap.size) (by simp))
  replace K := hid (K.out.trans (ha.out.mono K.out.size))
  clear ha
  go_wp2_with fail
  refine (Dyad_any hY.out 0).mono ?_
  rintro e w9 ⟨A9, n9, c9, p9, s9, D9, k9, d9, x9, e9, f9, rfl, he9, hX9, hp9, hM9, hV9, hz9, hb9⟩
  replace K := hid (K.out.trans (hb9.out.mono K.out.size))
  obtain rfl : e9 = 40 := he9.out.trans (by unfold dEr; rw [if_pos (by decide)]; exact dE_7)
  clear he9 hX9 hp9 hM9 hV9 hz9 hb9 hY
  go_upto_region 10 with fail
  obtain ⟨u9, hu⟩ : ∃ u, u = (w9.alloc (.cells #[.slice A9 n9 c9, .int .i64 p9] 32)).alloc (.cells #[.bool s9, .slice D9 k9 d9, .int .i64 x9] 30) := ⟨_, rfl⟩
  rw [← hu]
  have ha : Hid (Below w9.heap.size w9 u9) := hid (hu ▸ ((Below.refl w9.heap.size w9).alloc (Nat.le_refl _) _).alloc (by simp) _)
  clear hu
  replace K := hid (K.out.trans (ha.out.mono K.out.size))
  clear ha
  have hY := hid (By.new u9 [0, 0, 1, 1, 0, 0, 0, 2] (by decide) (by decide))
  have ha := hid ((Below.refl u9.heap.size u9).alloc (Nat.le_refl _) (.cells (vals [0, 0, 1, 1, 0, 0, 0, 2]).toArray 5))
  replace hY := hid (hY.out.mono (B' := (u9.alloc (.cells (vals [0, 0, 1, 1, 0, 0, 0, 2]).toArray 5)).heap.size) (by simp))
  replace K := hid (K.out.trans (ha.out.mono K.out.size))
  clear ha
  go_wp2_with fail
  refine (Dyad_any hY.out 0).mono ?_
  rintro e w10 ⟨A10, n10, c10, p10, s10, D10, k10, d10, x10, e10, f10, rfl, he10, hX10, hp10, hM10, hV10, hz10, hb10⟩
  replace K := hid (K.out.trans (hb10.out.mono K.out.size))
  obtain rfl : e10 = 41 := he10.out.trans (by unfold dEr; rw [if_pos (by decide)]; exact dE_8)
  clear he10 hX10 hp10 hM10 hV10 hz10 hb10 hY
  go_upto_region 11 with fail
  obtain ⟨u10, hu⟩ : ∃ u, u = (w10.alloc (.cells #[.slice A10 n10 c10, .int .i64 p10] 32)).alloc (.cells #[.bool s10, .slice D10 k10 d10, .int .i64 x10] 30) := ⟨_, rfl⟩
  rw [← hu]
  have ha : Hid (Below w10.heap.size w10 u10) := hid (hu ▸ ((Below.refl w10.heap.size w10).alloc (Nat.le_refl _) _).alloc (by simp) _)
  clear hu
  replace K := hid (K.out.trans (ha.out.mono K.out.size))
  clear ha
  go_wp2_with fail
  refine (falive_any _).mono ?_
  rintro e w11 ⟨rfl, hb11⟩
  replace K := hid (K.out.trans (hb11.out.mono K.out.size))
  clear hb11
  go_wp2_with fail
  refine (Done_any none 0 0 0 _ (by omega)).mono ?_
  rintro e w12 ⟨rfl, hb12⟩
  replace K := hid (K.out.trans (hb12.out.mono K.out.size))
  clear hb12
  go_wp2_with fail
  refine (Done_any none 0 0 (-1) _ (by omega)).mono ?_
  rintro e w13 ⟨rfl, hb13⟩
  replace K := hid (K.out.trans (hb13.out.mono K.out.size))
  clear hb13
  go_wp2
  go_ret
  exact ⟨rfl, K.out⟩

end Go.Proofs.Ytndehapggbmndaa
