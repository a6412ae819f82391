/- FrameNames, walked. -/
import Derived.Test.YtiablmnaincciaaFpure
namespace Go.Proofs.Ytiablmnaincciaa
open Go.RowKit

theorem flt_eight : flt (List.replicate 8 0) = 40 := by decide +kernel
theorem flt_nine : flt (List.replicate 9 0) = 42 := by decide +kernel
theorem flt_wrong : flt ([72, 2, 1, 0, 0] ++ [41, 70, 106, 5]) = 41 := by decide +kernel
theorem crc_wrong : crc [72, 2, 1, 0, 0] = 90850857 := by decide +kernel
theorem crc_none : crc [] = 0 := by decide +kernel

set_option maxHeartbeats 12800000 in
theorem names_walk {w : World} :
    Calls Try.prog 3 #[] w fun e w' => e = .returned (.bool true) ∧ Below w.heap.size w w' := by
  obtain ⟨i, hi, hz, hsz, hby⟩ := info_one u8_info
  have hmk : ∀ (n : Nat) (w' : World), n ≤ 5000 → (Instr.makeSlice 22 (.int .i64 (n : Int)) (.int .i64 (n : Int))).run Try.prog w' = .ok (.slice (some ⟨w'.heap.size, 0, none⟩) n n) (w'.alloc (.cells (madeCells #[.int .u8 0] n) 5)) := fun n w' hn => by
    have hr := run_make_row1 (P := Try.prog) 22 5 i (.int .u8 0) (by kernel_rfl) hi hz hsz .i64 .i64 n (by rw [hby]; omega) (by omega) w'
    exact hr
  obtain ⟨c97, h97⟩ : ∃ c, c = madeCells #[.int .u8 0] 4097 := ⟨_, rfl⟩
  obtain ⟨c96, h96⟩ : ∃ c, c = madeCells #[.int .u8 0] 4096 := ⟨_, rfl⟩
  obtain ⟨c8, h8⟩ : ∃ c, c = madeCells #[.int .u8 0] 8 := ⟨_, rfl⟩
  obtain ⟨c9, h9⟩ : ∃ c, c = madeCells #[.int .u8 0] 9 := ⟨_, rfl⟩
  have m97 : ∀ w', (Instr.makeSlice 22 (.int .i64 4097) (.int .i64 4097)).run Try.prog w' = .ok (.slice (some ⟨w'.heap.size, 0, none⟩) 4097 4097) (w'.alloc (.cells c97 5)) := fun w' => by rw [h97]; exact hmk 4097 w' (by omega)
  have m96 : ∀ w', (Instr.makeSlice 22 (.int .i64 4096) (.int .i64 4096)).run Try.prog w' = .ok (.slice (some ⟨w'.heap.size, 0, none⟩) 4096 4096) (w'.alloc (.cells c96 5)) := fun w' => by rw [h96]; exact hmk 4096 w' (by omega)
  have m8 : ∀ w', (Instr.makeSlice 22 (.int .i64 8) (.int .i64 8)).run Try.prog w' = .ok (.slice (some ⟨w'.heap.size, 0, none⟩) 8 8) (w'.alloc (.cells c8 5)) := fun w' => by rw [h8]; exact hmk 8 w' (by omega)
  have m9 : ∀ w', (Instr.makeSlice 22 (.int .i64 9) (.int .i64 9)).run Try.prog w' = .ok (.slice (some ⟨w'.heap.size, 0, none⟩) 9 9) (w'.alloc (.cells c9 5)) := fun w' => by rw [h9]; exact hmk 9 w' (by omega)
  obtain ⟨z96, hz96⟩ : ∃ z, z = List.replicate 4096 0 := ⟨_, rfl⟩
  obtain ⟨z8, hz8⟩ : ∃ z, z = List.replicate 8 0 := ⟨_, rfl⟩
  obtain ⟨z9, hz9⟩ : ∃ z, z = List.replicate 9 0 := ⟨_, rfl⟩
  have Y96 : Hid (∀ w' : World, By (w'.alloc (.cells c96 5)) (w'.heap.size + 1) (some ⟨w'.heap.size, 0, none⟩) 4096 4096 z96) := hid fun w' => by rw [h96, hz96]; exact By.zeros w' 4096 (by omega)
  have Y8 : Hid (∀ w' : World, By (w'.alloc (.cells c8 5)) (w'.heap.size + 1) (some ⟨w'.heap.size, 0, none⟩) 8 8 z8) := hid fun w' => by rw [h8, hz8]; exact By.zeros w' 8 (by omega)
  have Y9 : Hid (∀ w' : World, By (w'.alloc (.cells c9 5)) (w'.heap.size + 1) (some ⟨w'.heap.size, 0, none⟩) 9 9 z9) := hid fun w' => by rw [h9, hz9]; exact By.zeros w' 9 (by omega)
  have F8 := hid (show flt z8 = 40 by rw [hz8]; exact flt_eight)
  have F9 := hid (show flt z9 = 42 by rw [hz9]; exact flt_nine)
  have L96 := hid (show z96.length = 4096 by rw [hz96, List.length_replicate])
  have Z96 := hid (show ∀ x ∈ z96, x < 256 by rw [hz96]; intro x hx; have := List.eq_of_mem_replicate hx; omega)
  clear h97 h96 h8 h9 hz96 hz8 hz9 hmk hi hz hsz hby
  have KB := fun (w' : World) (o : Obj) => (Below.refl w'.heap.size w').alloc (Nat.le_refl _) o
  have P1 : ∀ w' : World, Calls Try.prog 8 #[.int .u8 1, .slice (some ⟨w.heap.size, 0, none⟩) 4097 4097] w' fun e w'' => e = .returned (.tuple #[.slice none 0 0, .int .i64 4]) ∧ w' = w'' := fun w' => Put_many (kind := 1) (by omega)
  have HP1 := hid P1
  have HKB := hid KB
  clear P1 KB
  go_enter Try.func3, Try.ntmps3
  go_wp2_with fail
  with_reducible refine (HP1.out _).mono ?_
  rintro e w1 ⟨rfl, rfl⟩
  have J1 := hid (HKB.out w (.cells c97 5))
  generalize hw1 : w.alloc (.cells c97 5) = w1 at *
  have hs1 := J1.out.size
  clear hw1
  have P2 := Put_fits (kind := 9) ((Y96.out w1).mono (by simp)) (by omega) (by omega)
  change Calls _ _ #[.int .u8 9, _] _ _ at P2
  have HP2 := hid P2
  clear P2
  go_wp2_with fail
  with_reducible refine HP2.out.mono ?_
  rintro e w2 ⟨v, rfl, hO, hb2⟩
  have J2 := hid (J1.out.trans (((HKB.out w1 (.cells c96 5)).trans (hb2.out.mono (by simp))).mono hs1))
  have hfl : (frm 9 z96).length = 4105 := by rw [frm_length, L96.out]
  have hsh := hO.out.shape
  rw [hfl] at hsh
  obtain ⟨A1, c1, rfl, hY⟩ := hsh
  have CT := Take_good hY (Nat.le_refl _) (flt_frm (by omega) (by rw [L96.out]; omega) Z96.out)
  rw [frm_kind, frm_body] at CT
  have HCT := hid CT
  have hs2 := J2.out.size
  clear CT hY hO hfl hb2 HP2 HP1
  go_wp2_with fail
  with_reducible refine HCT.out.mono ?_
  rintro e w3 ⟨v2, rfl, hO2, hb3⟩
  have hsh2 := hO2.out.shape
  rw [L96.out] at hsh2
  obtain ⟨A2, c2, rfl, -⟩ := hsh2
  have J3 := hid (J2.out.trans (hb3.out.mono hs2))
  have hs3 := J3.out.size
  have T8 := Take_bad (Y8.out w3) (by simp) (by rw [F8.out]; omega)
  rw [F8.out] at T8
  have HT8 := hid T8
  clear T8 hO2 hb3 HCT
  go_wp2_with fail
  with_reducible refine HT8.out.mono ?_
  rintro e w4 ⟨rfl, hb4⟩
  have J4 := hid (J3.out.trans (((HKB.out w3 (.cells c8 5)).trans (hb4.out.mono (by simp))).mono hs3))
  have hs4 := J4.out.size
  have T9 := Take_bad (Y9.out w4) (by simp) (by rw [F9.out]; omega)
  rw [F9.out] at T9
  have HT9 := hid T9
  clear T9 hb4 HT8
  go_wp2_with fail
  with_reducible refine HT9.out.mono ?_
  rintro e w5 ⟨rfl, hb5⟩
  have J5 := hid (J4.out.trans (((HKB.out w4 (.cells c9 5)).trans (hb5.out.mono (by simp))).mono hs4))
  have hs5 := J5.out.size
  have HN := hid (By.new w5 [72, 2, 1, 0, 0] (by decide) (by decide))
  have CS := Sum_any HN.out
  rw [crc_wrong] at CS
  have HS := hid CS
  have HO1 : Hid (Ow (w5.alloc (.cells (vals [72, 2, 1, 0, 0]).toArray 5)) w5.heap.size (.slice (some ⟨w5.heap.size, 0, none⟩) 5 5) [72, 2, 1, 0, 0]) :=
    hid ⟨⟨rfl, .inr ⟨w5.heap.size, 5, _, rfl, Nat.le_refl _, heap_alloc_new w5 _, Nat.le_refl _, by unfold maxLen; omega, rfl, rfl⟩⟩, by decide, by decide⟩
  have J6 := hid (J5.out.trans ((HKB.out w5 (.cells (vals [72, 2, 1, 0, 0]).toArray 5)).mono hs5))
  clear CS hb5 HT9
  go_wp2_with fail
  refine HS.out.mono ?_
  rintro e w6 ⟨rfl, rfl⟩
  have hq := By.new (w5.alloc (.cells (vals [72, 2, 1, 0, 0]).toArray 5)) [41, 70, 106, 5] (by decide) (by decide)
  rw [World.size_alloc] at hq
  have HQ := hid hq
  clear hq
  have HKQ := hid (HKB.out (w5.alloc (.cells (vals [72, 2, 1, 0, 0]).toArray 5)) (.cells (vals [41, 70, 106, 5]).toArray 5))
  have HO2 := hid (HO1.out.below HKQ.out (Nat.le_refl _))
  have J7 := hid (J6.out.trans (HKQ.out.mono (by simp <;> omega)))
  go_wp2_with (first
    | (at_builtin; refine app_bytes rfl (.tmp 51) (.tmp 63) rfl rfl rfl HO2.out (by simp <;> omega) HQ.out (by simp) ?_; intro v7 w7 hO7 hb7; have hsh7 := hO7.out.shape; obtain ⟨A7, c7, rfl, hY7⟩ := hsh7; have HT7 := Take_bad hY7 (Nat.le_refl _) (by rw [flt_wrong]; omega); rw [flt_wrong] at HT7; have HT7' := hid HT7; have J8 := hid (J7.out.trans (hb7.out.mono hs5)); have hs8 := J8.out.size; clear hY7 HT7 hO7 hb7)
    | fail)
  refine HT7'.out.mono ?_
  rintro e w8 ⟨rfl, hb8⟩
  have J9 := hid (J8.out.trans (hb8.out.mono hs8))
  have hs9 := J9.out.size
  clear HT7' hb8
  go_wp2_with fail
  with_reducible refine (alive_any _).mono ?_
  rintro e w9 ⟨rfl, hb9⟩
  have J10 := hid (J9.out.trans (hb9.out.mono hs9))
  have CN := Sum_any (By.nul w9 0)
  rw [crc_none] at CN
  change Calls _ _ _ _ fun e w' => e = .returned (.int .u32 0) ∧ w9 = w' at CN
  have HCN := hid CN
  clear CN hb9
  go_wp2_with fail
  with_reducible refine HCN.out.mono ?_
  rintro e w10 ⟨rfl, rfl⟩
  go_wp2
  go_ret
  exact ⟨rfl, J10.out⟩

end Go.Proofs.Ytiablmnaincciaa
