/- MailBursts, walked. -/
import Derived.Test.YtbankbehfjogpaaWbak
import Derived.Test.YtbankbehfjogpaaFbits
namespace Go.Proofs.Ytbankbehfjogpaa
open Go.RowKit Go.Shelf Go.Lib
set_option maxRecDepth 100000

set_option maxHeartbeats 51200000 in
theorem burst_walk {w : World} {m : Md} {l : List De} {t : Nat → Nat} {at_ mask : Int} (h : Prd w w.heap.size m l t) (h2 : -9223372036854775808 ≤ at_ ∧ at_ ≤ 9223372036854775807) (hmk : 0 ≤ mask ∧ mask ≤ 4294967295) :
    Calls Try.prog 5 #[.agg (mdc m), .int .i64 at_, .int .u32 mask] w fun e w' => e = .returned (.bool true) ∧ Below w.heap.size w w' := by
  obtain ⟨w1, hw1⟩ : ∃ w1, w1 = w.alloc (.cells (mdc m) 31) := ⟨_, rfl⟩
  have B0 := hid (show Below w.heap.size w w1 from hw1 ▸ (Below.refl _ w).alloc (Nat.le_refl _) _)
  have P0 := hid (show Pbox w1 w.heap.size m from hw1 ▸ heap_alloc_new w _)
  have HW := hid hw1
  have H := hid h
  obtain ⟨M, rfl⟩ : ∃ M : Nat, mask = M := ⟨mask.toNat, by omega⟩
  have hM : M < 4294967296 := by omega
  clear hw1 h hmk
  go_enter Try.func5, Try.ntmps5
  go_upto_region 1 with fail
  rw [← HW.out]
  clear HW
  go_wp2_with fail
  refine (wlive_any w1).mono ?_
  rintro e w2 ⟨rfl, hb⟩
  replace B0 := hid (B0.out.trans (hb.out.mono B0.out.size))
  replace P0 := hid (P0.out.below hb.out P0.out.lt)
  clear hb
  by_cases hg1 : PGr m
  · have CG := hid (great_yes (H.out.on B0.out) hg1)
    clear hg1
    go_wp2_with (first | (refine wp_pload rfl (.tmp 3) (by with_reducible rfl) w.heap.size m (by rfl) P0.out ?_) | fail)
    refine CG.out.mono ?_
    rintro e w3 ⟨rfl, hb⟩
    go_wp2
    go_ret
    exact ⟨rfl, B0.out.trans (hb.out.mono B0.out.size)⟩
  have CG := hid (great_no (H.out.on B0.out) hg1)
  clear hg1
  go_wp2_with (first | (refine wp_pload rfl (.tmp 3) (by with_reducible rfl) w.heap.size m (by rfl) P0.out ?_) | fail)
  refine CG.out.mono ?_
  rintro e w3 ⟨rfl, hb⟩
  replace B0 := hid (B0.out.trans (hb.out.mono B0.out.size))
  replace P0 := hid (P0.out.below hb.out P0.out.lt)
  clear hb CG
  by_cases hm : PMay m l t
  case neg =>
    have C1 := hid (write_bad (H.out.on B0.out) hm)
    clear hm
    go_wp2_with (first | (refine wp_pload rfl (.tmp 3) (by with_reducible rfl) w.heap.size m (by rfl) P0.out ?_) | fail)
    refine C1.out.mono ?_
    rintro e w4 ⟨rfl, hb⟩
    go_wp2
    go_ret
    exact ⟨rfl, B0.out.trans (hb.out.mono B0.out.size)⟩
  have C1 := hid (write_good (H.out.on B0.out) hm)
  have HM0 := hid hm
  have HOK := hid (rdok_frm H.out hm cont_lt)
  have hfit := fit_of H.out hm
  have HF := hid (fun (ys : List Nat) (q a : Nat) => flt_turned (kind := m.kd) (xs := cont (mlOf m l t)) (ys := ys) (m := q) (at_ := a) H.out.kd (by have := cont_len hfit; omega) cont_lt)
  clear hm hfit
  go_wp2_with (first | (refine wp_pload rfl (.tmp 3) (by with_reducible rfl) w.heap.size m (by rfl) P0.out ?_) | fail)
  refine C1.out.mono ?_
  rintro e w4 ⟨v, rfl, hO, hb⟩
  obtain ⟨fs, hfs⟩ : ∃ fs, fs = frm m.kd (cont (mlOf m l t)) := ⟨_, rfl⟩
  rw [← hfs] at hO HF HOK
  obtain ⟨L, hL⟩ : ∃ L, L = fs.length := ⟨_, rfl⟩
  have hL9 : 9 ≤ L := by rw [hL, hfs, frm_length]; omega
  have hL5 : L ≤ 5000 := by rw [hL, hfs, frm_length]; have := cont_len (fit_of H.out HM0.out); omega
  have hsh := hO.out.shape
  rw [← hL] at hsh
  obtain ⟨A1, c1, rfl, -⟩ := hsh
  have hop := hO.out.open_ (by omega)
  obtain ⟨g, rfl, -, hc1, hg, hgl, -, -⟩ := hop
  have hgm : w.heap.size < g := Nat.lt_of_lt_of_le P0.out.lt hg
  have J2 := hid (B0.out.trans (hb.out.mono B0.out.size))
  have P4 := hid (P0.out.below hb.out P0.out.lt)
  have hg2 : w.heap.size ≤ g := by omega
  have HO := hid (hO.out.mono (B' := w.heap.size) B0.out.size)
  have Hfl := hid hL
  clear hO hb hfs C1 hL B0 P0
  by_cases hat : 0 ≤ at_ ∧ at_ < 8 * (L : Int)
  case neg =>
    have hcase : at_ < 0 ∨ ¬ at_ < 0 ∧ 8 * (L : Int) ≤ at_ := by omega
    clear hat
    rcases hcase with d0 | ⟨d0, d1⟩
    all_goals
      go_wp2
      go_ret
      exact ⟨rfl, J2.out⟩
  obtain ⟨ha0, ha1⟩ := hat
  obtain ⟨a, rfl⟩ : ∃ a : Nat, at_ = a := ⟨at_.toNat, by omega⟩
  have ha2 : a < 8 * L := by omega
  go_wp2
  go_loopw [10, 11, 12] (fun tu i _ wr => ∃ (j : Nat) (ys : List Nat), j ≤ 32 ∧ a + j ≤ 8 * L ∧ i = .int .i64 (j : Int) ∧ tu = .bool (decide (M % 2 ^ j ≠ 0)) ∧ Hid (Ow wr w.heap.size (.slice (some ⟨g, 0, none⟩) L c1) ys) ∧ Hid (nm ys = nm fs ^^^ M % 2 ^ j * 2 ^ a) ∧ Hid (Below w.heap.size w wr ∧ Pbox wr w.heap.size m)) (fun _ i _ _ => 32 - (RowKit.intOf i).toNat)
  case atStart => exact ⟨0, fs, by omega, by omega, rfl, by simp [Nat.mod_one], HO, hid (by rw [Nat.pow_zero, Nat.mod_one, Nat.zero_mul, Nat.xor_zero]), hid ⟨J2.out, P4.out⟩⟩
  case round =>
    obtain ⟨j, ys, hj, haj, rfl, rfl, hOy, hNy, hby⟩ := hrel
    by_cases hcon : j < 32 ∧ a + j < 8 * L
    · obtain ⟨hc1', hc2'⟩ := hcon
      have hi1 : (j : Int) < 32 := by omega
      have hi2 : (j : Int) < 8 * (L : Int) - (a : Int) := by omega
      have hop := hOy.out.open_ (by omega)
      obtain ⟨g', e', hyl, -, -, -, hcell, hfr⟩ := hop
      injection e' with e'
      injection e' with e1 e2
      subst e1
      have hq : (a + j) / 8 < L := by omega
      have hck := hcell _ hq
      have hfk := hfr ((a + j) / 8)
      have hlt := hOy.out.2.1
      have Hj := hid hj
      rcases Nat.mod_two_eq_zero_or_one (M / 2 ^ j) with hb | hb
      · have hbit : (((M : Int) / 2 ^ j).tmod 2 == 1) = false := by
          have : ((M / 2 ^ j % 2 : Nat) : Int) = 0 := by rw [hb]; rfl
          rw [Int.tmod_eq_emod_of_nonneg (Int.ediv_nonneg (by omega) (Int.pow_nonneg (by omega)))]
          have h3 : (M : Int) / 2 ^ j % 2 = 0 := by simpa using this
          rw [h3]
          rfl
        have ht : decide (M % 2 ^ j ≠ 0) = decide (M % 2 ^ (j + 1) ≠ 0) := decide_eq_decide.2 (by rw [turned_step, hb]; omega)
        have hN2 := hid (turn_none hNy.out hb)
        have Ht := hid ht
        clear hb ht hck hfk hcell hfr hlt hyl
        go_wp2
        go_roundw
        case rel => exact ⟨j + 1, ys, by omega, by omega, by go_num, by rw [Ht.out], hOy, hN2, hby⟩
        case measure => simp [RowKit.intOf]; omega
      · have hbit : (((M : Int) / 2 ^ j).tmod 2 == 1) = true := by
          have : ((M / 2 ^ j % 2 : Nat) : Int) = 1 := by rw [hb]; rfl
          rw [Int.tmod_eq_emod_of_nonneg (Int.ediv_nonneg (by omega) (Int.pow_nonneg (by omega)))]
          have h3 : (M : Int) / 2 ^ j % 2 = 1 := by simpa using this
          rw [h3]
          rfl
        have ht : decide (M % 2 ^ (j + 1) ≠ 0) = true := decide_eq_true (by rw [turned_step]; exact .inr hb)
        have hN2 := hid (turn_bit hlt (by rw [← hyl]; omega) hNy.out hb)
        obtain ⟨x0, hx0⟩ : ∃ x0, x0 = ys.getD ((a + j) / 8) 0 := ⟨_, rfl⟩
        have hxl : x0 < 256 := by
          rw [hx0, List.getD_eq_getElem?_getD, List.getElem?_eq_getElem (by rw [← hyl]; exact hq)]
          exact hlt _ (List.getElem_mem _)
        rw [← hx0] at hck hN2
        have hp8 : (2 : Nat) ^ ((a + j) % 8) < 256 := Nat.lt_of_le_of_lt (Nat.pow_le_pow_right (by omega) (show (a + j) % 8 ≤ 7 by omega)) (by omega)
        obtain ⟨y0, hy0⟩ : ∃ y0, y0 = x0 ^^^ 2 ^ ((a + j) % 8) := ⟨_, rfl⟩
        have hyl0 : y0 < 256 := hy0 ▸ Nat.xor_lt_two_pow (n := 8) hxl hp8
        rw [← hy0] at hN2
        have hxor : bits BinOp.xor IntKind.u8 (x0 : Int) ((2 : Int) ^ ((a + j) % 8) % 256) = (y0 : Int) := by
          have e2 : (2 : Int) ^ ((a + j) % 8) % 256 = ((2 ^ ((a + j) % 8) : Nat) : Int) := by
            have h9 : ((2 ^ ((a + j) % 8) : Nat) : Int) < 256 := Int.ofNat_lt.2 hp8
            have h10 : (2 : Int) ^ ((a + j) % 8) = ((2 ^ ((a + j) % 8) : Nat) : Int) := by simp
            rw [h10]
            exact Int.emod_eq_of_lt (Int.natCast_nonneg _) h9
          rw [e2, hy0]
          exact u8_xor_nat x0 _ hxl hp8
        have hO2 := hid (hOy.out.set ((a + j) / 8) hyl0)
        have hB2 := hid (show Below w.heap.size w _ ∧ Pbox _ w.heap.size m from ⟨hby.out.1.setCell (p := ⟨g, (a + j) / 8, none⟩) hg2 (.int .u8 (y0 : Int)), far1 (g := g) hby.out.2 (Nat.ne_of_lt hgm) ((a + j) / 8) (.int .u8 (y0 : Int))⟩)
        have hq1 : ((a : Int) + (j : Int)) / 8 = (((a + j) / 8 : Nat) : Int) := by omega
        have hq2 : ((a : Int) + (j : Int)) % 8 = (((a + j) % 8 : Nat) : Int) := by omega
        have hqi : (((a + j) / 8 : Nat) : Int) < (L : Int) := by omega
        have hr8 : (a + j) % 8 < 8 := by omega
        have Hp8 := hid hp8
        have Ht := hid ht
        clear hb ht hcell hfr hlt hx0 hy0 hp8 hyl
        generalize (a + j) / 8 = q at *
        generalize (a + j) % 8 = r at *
        go_wp2
        go_roundw
        case rel => exact ⟨j + 1, _, by omega, by omega, by go_num, by rw [Ht.out], hO2, hN2, hB2⟩
        case measure => simp [RowKit.intOf]; omega
    · obtain ⟨T, hT⟩ : ∃ T, T = M % 2 ^ j := ⟨_, rfl⟩
      have hTl : T < 4294967296 := hT ▸ Nat.lt_of_le_of_lt (Nat.mod_le _ _) hM
      have hyl := hOy.out.by_.1
      have hflt := HF.out ys T a hOy.out.2.1 (by rw [← hyl, Hfl.out]) hTl (by rw [← Hfl.out]; omega) (by rw [hT]; exact hNy.out)
      have hcase : ¬ (j : Int) < 32 ∨ (j : Int) < 32 ∧ ¬ (j : Int) < 8 * (L : Int) - (a : Int) := by omega
      have hsh := hOy.out.by_.2
      have HY := hid hsh
      have B5 := hid hby.out.1
      have P5 := hid hby.out.2
      have hT0 := hid hT
      have HYS := hid (show T = 0 → ys = fs from fun h0 => by
        have hn := hNy.out
        rw [← hT, h0, Nat.zero_mul, Nat.xor_zero] at hn
        have e1 := bys_nm hOy.out.2.1
        have e2 := bys_nm HO.out.2.1
        rw [← e1, ← e2, hn, ← hyl, Hfl.out])
      clear hyl hsh hT hby
      by_cases h0 : T = 0
      · have hys := HYS.out h0
        have C2 := hid (read_good (HY.out) (hys ▸ HOK.out))
        have hm0 : M % 2 ^ j = 0 := by rw [← hT0.out]; exact h0
        clear hys hflt HF HYS
        rcases hcase with d0 | ⟨d0, d1⟩
        all_goals
          go_wp2_with fail
          refine C2.out.mono ?_
          rintro e w5 ⟨m1, rfl, hO5, hb⟩
          have B6 := hid (B5.out.trans (hb.out.mono B5.out.size))
          have P6 := hid (P5.out.below hb.out P5.out.lt)
          have HO5 := hid hO5.out
          clear hb hO5
          obtain ⟨Wn, hWn⟩ : ∃ Wn, Wn = w5.alloc (.cells (mdc (Mz 0)) 31) := ⟨_, rfl⟩
          have PN := hid (show Pbox Wn w5.heap.size (Mz 0) from hWn ▸ box_zero w5)
          have HWn := hid hWn
          clear hWn
          go_upto_region 16 with (first | (refine wp_pstore_c rfl (.tmp 13) (.tmp 81) (by with_reducible rfl) ?_; refine ⟨w5.heap.size, Mz 0, m1, by rfl, by rfl, HWn.out ▸ PN.out, ?_⟩) | fail)
          clear PN HWn
          have hbx := box_new w5 m1
          obtain ⟨w6, hw6⟩ : ∃ w6, w6 = pstore (w5.alloc (.cells (mdc (Mz 0)) 31)) w5.heap.size m1 := ⟨_, rfl⟩
          change Code.wp _ _ _ _ (pstore (w5.alloc (.cells (mdc (Mz 0)) 31)) w5.heap.size m1)
          rw [← hw6] at hbx ⊢
          have PY := hid hbx.1
          have KY := hid hbx.2
          clear hw6 hbx
          have B7 := hid (B6.out.trans (KY.out.mono B6.out.size))
          have P7 := hid (P6.out.below KY.out P6.out.lt)
          have HO6 := hid (show Out (fun X D => Mk X 34 0 D.A D.n D.c D.f) w6 0 m1 (mlOf m l t) from ((HO5.out.dv' (Dv' := fun X D => Mk X 34 0 D.A D.n D.c D.f) (fun D hD => hD.mono (Nat.zero_le _))).mono (Nat.zero_le _)).stay KY.out)
          have HP6 := hid (HO6.out.prd H.out.kd (fun D hD => hD.rd))
          have CS := hid (wsame_any (P := True) HP6.out (H.out.on B7.out) (hid ⟨fun _ => (psm_prd HP6.out (H.out.on B7.out) (out_ml HO6.out).2 (may_x HM0.out)).2 (out_ml HO6.out).1, fun _ => trivial⟩))
          clear HO5 HO6 KY
          go_wp2_with (first | (refine wp_gmail (by kernel_rfl) (.tmp 13) (by with_reducible rfl) w5.heap.size m1 (by rfl) PY.out ?_) | (refine wp_gmail (by kernel_rfl) (.tmp 3) (by with_reducible rfl) w.heap.size m (by rfl) P7.out ?_) | fail)
          refine CS.out.mono ?_
          rintro e w7 ⟨q, rfl, hr, hb⟩
          obtain rfl : q = true := hr.out.2 trivial
          have B8 := hid (B7.out.trans (hb.out.mono B7.out.size))
          clear hb hr
          go_wp2
          go_ret
          exact ⟨by first | rfl | simp, B8.out⟩
      · rw [if_neg h0] at hflt
        have C2 := read_frame HY.out (by rw [hflt]; omega)
        rw [hflt] at C2
        have HC2 := hid C2
        have hm0 : ¬ M % 2 ^ j = 0 := by rw [← hT0.out]; exact h0
        clear C2 hflt HF HYS
        rcases hcase with d0 | ⟨d0, d1⟩
        all_goals
          go_wp2_with fail
          refine HC2.out.mono ?_
          rintro e w5 ⟨rfl, hb⟩
          have B6 := hid (B5.out.trans (hb.out.mono B5.out.size))
          clear hb
          obtain ⟨Wn, hWn⟩ : ∃ Wn, Wn = w5.alloc (.cells (mdc (Mz 0)) 31) := ⟨_, rfl⟩
          have PN := hid (show Pbox Wn w5.heap.size (Mz 0) from hWn ▸ box_zero w5)
          have HWn := hid hWn
          clear hWn
          go_upto_region 16 with (first | (refine wp_pstore_c rfl (.tmp 13) (.tmp 81) (by with_reducible rfl) ?_; refine ⟨w5.heap.size, Mz 0, Mz 0, by rfl, by rfl, HWn.out ▸ PN.out, ?_⟩) | fail)
          clear PN HWn
          have hbx := box_new w5 (Mz 0)
          obtain ⟨w6, hw6⟩ : ∃ w6, w6 = pstore (w5.alloc (.cells (mdc (Mz 0)) 31)) w5.heap.size (Mz 0) := ⟨_, rfl⟩
          change Code.wp _ _ _ _ (pstore (w5.alloc (.cells (mdc (Mz 0)) 31)) w5.heap.size (Mz 0))
          rw [← hw6] at hbx ⊢
          have B7 := hid (B6.out.trans (hbx.2.mono B6.out.size))
          clear hw6 hbx
          go_wp2
          go_ret
          exact ⟨by first | rfl | simp, B7.out⟩
end Go.Proofs.Ytbankbehfjogpaa
