/- FrameBack, walked. -/
import Derived.Test.YtiablmnaincciaaFpure
namespace Go.Proofs.Ytiablmnaincciaa
open Go.RowKit

theorem str_self (xs : List Nat) : (str xs == str xs) = true := beq_self_eq_true (str xs).data
theorem str_selfn (xs : List Nat) : (str xs != str xs) = false := by
  show (!(str xs == str xs)) = false
  rw [str_self]
  rfl
theorem flt_nil : flt [] = 40 := rfl

set_option maxHeartbeats 12800000 in
theorem back_walk {w : World} {n c m d : Nat} {A D : Option Addr} {kind : Int} {xs ts : List Nat} (hk : 0 ≤ kind ∧ kind ≤ 255) (h : By w w.heap.size A n c xs) (h2 : By w w.heap.size D m d ts) :
    Calls Try.prog 5 #[.int .u8 kind, .slice A n c, .slice D m d] w fun e w' => e = .returned (.bool true) ∧ Below w.heap.size w w' := by
  have CA := hid (alive_any w)
  have hmax := h.max
  have hmax2 := h2.max
  have HX := hid h
  have HT := hid h2
  obtain ⟨k, rfl⟩ : ∃ k : Nat, kind = k := ⟨kind.toNat, by omega⟩
  have hk256 : k < 256 := by omega
  clear h h2 hk
  by_cases hgo : n ≤ 5000 ∧ m ≤ 5000
  · obtain ⟨hn, hm⟩ := hgo
    have hkk : ((k : Int) != (k : Int)) = false := by simp
    by_cases hbad : flt ts = 0
    · by_cases hbig : 4096 < n
      · go_enter Try.func5, Try.ntmps5
        go_wp2_with fail
        with_reducible refine CA.out.mono ?_
        rintro e w1 ⟨rfl, hb1⟩
        have HX1 := hid (HX.out.below hb1.out)
        have HT1 := hid (HT.out.below hb1.out)
        go_wp2_with fail
        with_reducible refine (Put_many hbig).mono ?_
        rintro e w2 ⟨rfl, rfl⟩
        go_wp2_with fail
        with_reducible refine (Take_bad (By.nul _ _) (Nat.zero_le _) (by rw [flt_nil]; omega)).mono ?_
        rw [flt_nil]
        rintro e w3 ⟨rfl, hb3⟩
        have HB3 := hid (hb1.out.trans (hb3.out.mono hb1.out.size))
        have HT3 := hid (HT.out.below HB3.out)
        go_wp2_with fail
        with_reducible refine (Take_good HT3.out HB3.out.size hbad).mono ?_
        rintro e w4 ⟨v4, rfl, hO4, hb4⟩
        have hfr := frm_of HT.out.lt hbad
        have hbl : ((ts.take (ts.length - 4)).drop 5).length ≤ 4096 := by
          have h5 := flt_good hbad
          rw [List.length_drop, List.length_take]
          omega
        have hk2 : ts.getD 2 0 < 256 := by
          rw [List.getD_eq_getElem?_getD]
          cases hx : ts[2]? with
          | none => show 0 < 256; omega
          | some x => exact HT.out.lt x (List.mem_of_getElem? hx)
        have Hfr := hid hfr
        generalize ts.getD 2 0 = k2 at *
        generalize (ts.take (ts.length - 4)).drop 5 = bs at *
        have hsh4 := hO4.out.shape
        obtain ⟨bl, hbl2⟩ : ∃ bl, bl = bs.length := ⟨_, rfl⟩
        rw [← hbl2] at hsh4 hbl
        obtain ⟨A4, c4, rfl, hY4⟩ := hsh4
        have HP := hid (Put_fits hY4 hk2 hbl)
        rw [Hfr.out] at HP
        clear hY4 hfr hbl2 hO4
        go_wp2_with fail
        with_reducible refine HP.out.mono ?_
        rintro e w5 ⟨v5, rfl, hO5, hb5⟩
        have hsh5 := hO5.out.shape
        rw [HT.out.len] at hsh5
        obtain ⟨A5, c5, rfl, hY5⟩ := hsh5
        have HB5 := hid ((HB3.out.trans (hb4.out.mono HB3.out.size)).trans (hb5.out.mono (Nat.le_trans HB3.out.size hb4.out.size)))
        have cv3 := conv_any hY5
        have cv4 := conv_any (HT.out.below HB5.out)
        have te := str_self ts
        have tn := str_selfn ts
        generalize str ts = ST at *
        clear hY5 hO5 HP
        go_wp2
        go_ret
        exact ⟨rfl, HB5.out⟩
      · go_enter Try.func5, Try.ntmps5
        go_wp2_with fail
        with_reducible refine CA.out.mono ?_
        rintro e w1 ⟨rfl, hb1⟩
        have HX1 := hid (HX.out.below hb1.out)
        have HT1 := hid (HT.out.below hb1.out)
        go_wp2_with fail
        with_reducible refine (Put_fits (HX1.out.mono hb1.out.size) hk256 (by omega)).mono ?_
        rintro e w2 ⟨v, rfl, hO, hb2⟩
        have hsh := hO.out.shape
        have hfl : (frm k xs).length = n + 9 := by rw [frm_length, HX.out.len]
        rw [hfl] at hsh
        obtain ⟨A1, c1, rfl, hY⟩ := hsh
        have HY := hid hY
        have hff : flt (frm k xs) = 0 := flt_frm hk256 (by rw [HX.out.len]; omega) HX.out.lt
        have CT := Take_good HY.out (Nat.le_refl _) hff
        rw [frm_kind, frm_body] at CT
        have HCT := hid CT
        clear hfl hY hO HY hff CT
        go_wp2_with fail
        with_reducible refine HCT.out.mono ?_
        rintro e w3 ⟨v2, rfl, hO2, hb3⟩
        have hsh2 := hO2.out.shape
        rw [HX.out.len] at hsh2
        obtain ⟨A2, c2, rfl, hY2⟩ := hsh2
        have HB3 := hid ((hb1.out.trans (hb2.out.mono hb1.out.size)).trans (hb3.out.mono (Nat.le_trans hb1.out.size hb2.out.size)))
        have cv1 := conv_any hY2
        have cv2 := conv_any (HX.out.below HB3.out)
        have se := str_self xs
        have sn := str_selfn xs
        generalize str xs = SX at *
        clear hY2 hO2
        have HT3 := hid (HT.out.below HB3.out)
        go_wp2_with fail
        with_reducible refine (Take_good HT3.out HB3.out.size hbad).mono ?_
        rintro e w4 ⟨v4, rfl, hO4, hb4⟩
        have hfr := frm_of HT.out.lt hbad
        have hbl : ((ts.take (ts.length - 4)).drop 5).length ≤ 4096 := by
          have h5 := flt_good hbad
          rw [List.length_drop, List.length_take]
          omega
        have hk2 : ts.getD 2 0 < 256 := by
          rw [List.getD_eq_getElem?_getD]
          cases hx : ts[2]? with
          | none => show 0 < 256; omega
          | some x => exact HT.out.lt x (List.mem_of_getElem? hx)
        have Hfr := hid hfr
        generalize ts.getD 2 0 = k2 at *
        generalize (ts.take (ts.length - 4)).drop 5 = bs at *
        have hsh4 := hO4.out.shape
        obtain ⟨bl, hbl2⟩ : ∃ bl, bl = bs.length := ⟨_, rfl⟩
        rw [← hbl2] at hsh4 hbl
        obtain ⟨A4, c4, rfl, hY4⟩ := hsh4
        have HP := hid (Put_fits hY4 hk2 hbl)
        rw [Hfr.out] at HP
        clear hY4 hfr hbl2 hO4
        go_wp2_with fail
        with_reducible refine HP.out.mono ?_
        rintro e w5 ⟨v5, rfl, hO5, hb5⟩
        have hsh5 := hO5.out.shape
        rw [HT.out.len] at hsh5
        obtain ⟨A5, c5, rfl, hY5⟩ := hsh5
        have HB5 := hid ((HB3.out.trans (hb4.out.mono HB3.out.size)).trans (hb5.out.mono (Nat.le_trans HB3.out.size hb4.out.size)))
        have cv3 := conv_any hY5
        have cv4 := conv_any (HT.out.below HB5.out)
        have te := str_self ts
        have tn := str_selfn ts
        generalize str ts = ST at *
        clear hY5 hO5 HP
        go_wp2
        go_ret
        exact ⟨rfl, HB5.out⟩
    · by_cases hbig : 4096 < n
      · go_enter Try.func5, Try.ntmps5
        go_wp2_with fail
        with_reducible refine CA.out.mono ?_
        rintro e w1 ⟨rfl, hb1⟩
        have HX1 := hid (HX.out.below hb1.out)
        have HT1 := hid (HT.out.below hb1.out)
        go_wp2_with fail
        with_reducible refine (Put_many hbig).mono ?_
        rintro e w2 ⟨rfl, rfl⟩
        go_wp2_with fail
        with_reducible refine (Take_bad (By.nul _ _) (Nat.zero_le _) (by rw [flt_nil]; omega)).mono ?_
        rw [flt_nil]
        rintro e w3 ⟨rfl, hb3⟩
        have HB3 := hid (hb1.out.trans (hb3.out.mono hb1.out.size))
        have HT3 := hid (HT.out.below HB3.out)
        go_wp2_with fail
        with_reducible refine (Take_bad HT3.out HB3.out.size hbad).mono ?_
        rintro e w4 ⟨rfl, hb4⟩
        have hz : (flt ts != 0) = true := by simpa using hbad
        have hz2 : (flt ts == 0) = false := by simpa using hbad
        generalize flt ts = z at *
        go_wp2_with fail
        have HP0 := Put_fits (w := w4) (kind := 0) (By.nul _ _) (by omega) (by omega)
        change Calls _ _ #[.int .u8 0, .slice none 0 0] w4 _ at HP0
        with_reducible refine HP0.mono ?_
        rintro e w5 ⟨v5, rfl, hO5, hb5⟩
        obtain ⟨A5, c5, rfl, -⟩ := hO5.out.shape
        clear hO5
        go_wp2
        go_ret
        exact ⟨rfl, (HB3.out.trans (hb4.out.mono HB3.out.size)).trans (hb5.out.mono (Nat.le_trans HB3.out.size hb4.out.size))⟩
      · go_enter Try.func5, Try.ntmps5
        go_wp2_with fail
        with_reducible refine CA.out.mono ?_
        rintro e w1 ⟨rfl, hb1⟩
        have HX1 := hid (HX.out.below hb1.out)
        have HT1 := hid (HT.out.below hb1.out)
        go_wp2_with fail
        with_reducible refine (Put_fits (HX1.out.mono hb1.out.size) hk256 (by omega)).mono ?_
        rintro e w2 ⟨v, rfl, hO, hb2⟩
        have hsh := hO.out.shape
        have hfl : (frm k xs).length = n + 9 := by rw [frm_length, HX.out.len]
        rw [hfl] at hsh
        obtain ⟨A1, c1, rfl, hY⟩ := hsh
        have HY := hid hY
        have hff : flt (frm k xs) = 0 := flt_frm hk256 (by rw [HX.out.len]; omega) HX.out.lt
        have CT := Take_good HY.out (Nat.le_refl _) hff
        rw [frm_kind, frm_body] at CT
        have HCT := hid CT
        clear hfl hY hO HY hff CT
        go_wp2_with fail
        with_reducible refine HCT.out.mono ?_
        rintro e w3 ⟨v2, rfl, hO2, hb3⟩
        have hsh2 := hO2.out.shape
        rw [HX.out.len] at hsh2
        obtain ⟨A2, c2, rfl, hY2⟩ := hsh2
        have HB3 := hid ((hb1.out.trans (hb2.out.mono hb1.out.size)).trans (hb3.out.mono (Nat.le_trans hb1.out.size hb2.out.size)))
        have cv1 := conv_any hY2
        have cv2 := conv_any (HX.out.below HB3.out)
        have se := str_self xs
        have sn := str_selfn xs
        generalize str xs = SX at *
        clear hY2 hO2
        have HT3 := hid (HT.out.below HB3.out)
        go_wp2_with fail
        with_reducible refine (Take_bad HT3.out HB3.out.size hbad).mono ?_
        rintro e w4 ⟨rfl, hb4⟩
        have hz : (flt ts != 0) = true := by simpa using hbad
        have hz2 : (flt ts == 0) = false := by simpa using hbad
        generalize flt ts = z at *
        go_wp2_with fail
        have HP0 := Put_fits (w := w4) (kind := 0) (By.nul _ _) (by omega) (by omega)
        change Calls _ _ #[.int .u8 0, .slice none 0 0] w4 _ at HP0
        with_reducible refine HP0.mono ?_
        rintro e w5 ⟨v5, rfl, hO5, hb5⟩
        obtain ⟨A5, c5, rfl, -⟩ := hO5.out.shape
        clear hO5
        go_wp2
        go_ret
        exact ⟨rfl, (HB3.out.trans (hb4.out.mono HB3.out.size)).trans (hb5.out.mono (Nat.le_trans HB3.out.size hb4.out.size))⟩
  · have hcase : 5000 < (n : Int) ∨ ¬ 5000 < (n : Int) ∧ 5000 < (m : Int) := by omega
    clear hgo
    rcases hcase with d0 | ⟨d0, d1⟩
    all_goals
      go_enter Try.func5, Try.ntmps5
      go_wp2_with fail
      refine CA.out.mono ?_
      rintro e w1 ⟨rfl, hb1⟩
      go_wp2
      go_ret
      exact ⟨rfl, hb1.out⟩

end Go.Proofs.Ytiablmnaincciaa
