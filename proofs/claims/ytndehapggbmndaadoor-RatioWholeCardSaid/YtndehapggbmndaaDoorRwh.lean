/- RatioWhole, walked. -/
import Derived.Test.YtndehapggbmndaaDoorRal
namespace Go.Proofs.YtndehapggbmndaaDoor
open Go.RowKit

/-- Go's quotient and what is left, and those of the document. -/
theorem quo_rem {a b : Int} (hb : 0 < b) : ∃ q r : Int, a.tdiv b = q ∧ a.tmod b = r ∧ a / b = (if r < 0 then q - 1 else q) ∧ -(-a / b) = (if r < 0 then q - 1 else q) + (if r = 0 then 0 else 1) ∧ a = b * q + r ∧ -b < r ∧ r < b := by
  have h1 := Int.mul_tdiv_add_tmod a b
  have h2 := Int.tmod_lt_of_pos a hb
  have h3 : -b < a.tmod b := Int.lt_tmod_of_pos a hb
  obtain ⟨q, hq⟩ : ∃ q, q = a.tdiv b := ⟨_, rfl⟩
  obtain ⟨r, hr⟩ : ∃ r, r = a.tmod b := ⟨_, rfl⟩
  rw [← hq, ← hr] at h1
  rw [← hr] at h2 h3
  refine ⟨q, r, hq.symm, hr.symm, ?_, ?_, h1.symm, h3, h2⟩
  · have hd := Int.ediv_emod_unique (a := a) (b := b) (r := if r < 0 then r + b else r) (q := if r < 0 then q - 1 else q) hb
    refine (hd.2 ⟨?_, ?_, ?_⟩).1
    · split
      · rw [Int.mul_sub, Int.mul_one]; omega
      · omega
    · split <;> omega
    · split <;> omega
  · have hd := Int.ediv_emod_unique (a := -a) (b := b) (r := if 0 < r then b - r else -r) (q := if 0 < r then -q - 1 else -q) hb
    have := (hd.2 ⟨?_, ?_, ?_⟩).1
    · rw [this]
      split <;> split <;> split <;> omega
    · split
      · rw [Int.mul_sub, Int.mul_one, Int.mul_neg]; omega
      · rw [Int.mul_neg]; omega
    · split <;> omega
    · split <;> omega


set_option maxRecDepth 100000 in
set_option maxHeartbeats 12800000 in
theorem rwhole_walk {w : World} {a b : Int} (ha : -2147483648 ≤ a ∧ a ≤ 2147483647) (hb : -2147483648 ≤ b ∧ b ≤ 2147483647) (hT : Tab w) (hT64 : Tab64 w) :
    Calls Tryd.prog 6 #[.int .i32 a, .int .i32 b] w fun e w' => e = .returned (.bool true) ∧ Below w.heap.size w w' := by
  have HT := hid hT
  have HU := hid hT64
  clear hT hT64
  by_cases hb1 : b < 1
  · go_enter Tryd.func6, Tryd.ntmps6
    go_wp2_with fail
    refine (ralive_any _ HT.out HU.out).mono ?_
    rintro e w1 ⟨rfl, hb1⟩
    go_wp2
    go_ret
    exact ⟨rfl, hb1.out⟩
  · obtain ⟨q, r, hq, hr, hL, hH, hqr, hr1, hr2⟩ := quo_rem (a := a) (b := b) (by omega)
    obtain ⟨q2, r2, hq2, hr2', hN, -, hqr2, hr3, hr4⟩ := quo_rem (a := 2 * a + b) (b := 2 * b) (by omega)
    have hwa : IntKind.i64.wrap a = a := IntWalk.i64_in _ (by omega)
    have hwb : IntKind.i64.wrap b = b := IntWalk.i64_in _ (by omega)
    have hbz : (b == 0) = false := by simp; omega
    have hbz2 : ¬ b = 0 := by omega
    have hcz : (2 * b == 0) = false := by simp; omega
    have hcz2 : ¬ 2 * b = 0 := by omega
    have hqb : -2147483648 ≤ q ∧ q ≤ 2147483648 := by
      have h1 := Int.natAbs_tdiv_le_natAbs a b
      rw [hq] at h1
      omega
    have hqb2 : -12884901888 ≤ q2 ∧ q2 ≤ 12884901888 := by
      have h1 := Int.natAbs_tdiv_le_natAbs (2 * a + b) (2 * b)
      rw [hq2] at h1
      omega
    have hwq : IntKind.i64.wrap q = q := IntWalk.i64_in _ (by omega)
    have hwr : IntKind.i64.wrap r = r := IntWalk.i64_in _ (by omega)
    have hwq2 : IntKind.i64.wrap q2 = q2 := IntWalk.i64_in _ (by omega)
    have hwr2 : IntKind.i64.wrap r2 = r2 := IntWalk.i64_in _ (by omega)
    have hw2a : IntKind.i64.wrap (2 * a) = 2 * a := IntWalk.i64_in _ (by omega)
    have hw2b : IntKind.i64.wrap (2 * b) = 2 * b := IntWalk.i64_in _ (by omega)
    have hwS : IntKind.i64.wrap (2 * a + b) = 2 * a + b := IntWalk.i64_in _ (by omega)
    have hwq1 : IntKind.i64.wrap (q - 1) = q - 1 := IntWalk.i64_in _ (by omega)
    have hwq3 : IntKind.i64.wrap (q - 1 + 1) = q := by rw [IntWalk.i64_in _ (by omega)]; omega
    have hwq4 : IntKind.i64.wrap (q + 1) = q + 1 := IntWalk.i64_in _ (by omega)
    have hwq5 : IntKind.i64.wrap (q2 - 1) = q2 - 1 := IntWalk.i64_in _ (by omega)
    have HL := hid hL
    have HH := hid hH
    have HN := hid hN
    have hb3 : Hid (0 < b) := hid (by omega)
    have Ha := hid ha
    have Hb := hid hb
    have Hb1 := hid hb1
    have Hqb := hid hqb
    have Hqb2 := hid hqb2
    clear hqr hqr2 hr1 hr2 hr3 hr4
    have hc1 : r < 0 ∨ r = 0 ∨ 0 < r := by omega
    have hc2 : r2 < 0 ∨ ¬ r2 < 0 := by omega
    clear ha hb hb1 hqb hqb2 hL hH hN
    have K := hid (Below.refl w.heap.size w)
    rcases hc1 with hc | hc | hc
    all_goals
      rcases hc2 with hd | hd
      all_goals
        first
          | (have hne : (r != 0) = true := by simp; omega)
          | (have hne : (r != 0) = false := by simp; omega)
        first
          | (have hlt : (r < 0) = True := by simp; omega)
          | (have hlt : ¬ r < 0 := by omega)
        first
          | have E1 : Hid (a * 2 ^ 0 / b = q - 1) := hid (by rw [Int.pow_zero, Int.mul_one, HL.out, if_pos hc])
          | have E1 : Hid (a * 2 ^ 0 / b = q) := hid (by rw [Int.pow_zero, Int.mul_one, HL.out, if_neg (by omega)])
        first
          | have E2 : Hid (-(-(a * 2 ^ 0) / b) = q + 1) := hid (by rw [Int.pow_zero, Int.mul_one, HH.out, if_neg (by omega), if_neg (by omega)])
          | have E2 : Hid (-(-(a * 2 ^ 0) / b) = q) := hid (by rw [Int.pow_zero, Int.mul_one, HH.out, if_pos hc, if_neg (by omega)]; omega)
          | have E2 : Hid (-(-(a * 2 ^ 0) / b) = q) := hid (by rw [Int.pow_zero, Int.mul_one, HH.out, if_neg (by omega), if_pos hc]; omega)
        first
          | have E3 : Hid ((2 * a + b) / (2 * b) = q2 - 1) := hid (by rw [HN.out, if_pos hd])
          | have E3 : Hid ((2 * a + b) / (2 * b) = q2) := hid (by rw [HN.out, if_neg hd])
        go_enter Tryd.func6, Tryd.ntmps6
        go_wp2_with fail
        refine (ralive_any _ (HT.out) (HU.out)).mono ?_
        rintro e w1 ⟨rfl, hb1⟩
        replace K := hid (K.out.trans (hb1.out.mono K.out.size))
        clear hb1

        have hra : -9223372036854775808 ≤ a ∧ a ≤ 9223372036854775807 := by have := Ha.out; omega
        have hrb : -9223372036854775808 ≤ b ∧ b ≤ 9223372036854775807 := by have := Hb.out; omega
        go_wp2_with fail
        refine (of_arg a hra).mono ?_
        rintro e waa ⟨sx, Ax, nx, cx, xx, rfl, D1, hb⟩
        replace K := hid (K.out.trans (hb.out.mono K.out.size))
        clear hb
        go_wp2_with fail
        refine (of_arg b hrb).mono ?_
        rintro e wba ⟨sy, Ay, ny, cy, xy, rfl, D2, hb⟩
        replace K := hid (K.out.trans (hb.out.mono K.out.size))
        replace D1 := hid (D1.out.below hb.out)
        clear hb
        go_wp2_with fail
        refine (floor_good (k := 0) D1.out D2.out hb3.out (by omega) (HT.out.below K.out HT.out.lt) (HU.out.below K.out HU.out.lt) E1.out (by have := Hqb.out; have := Hqb2.out; omega)).mono ?_
        rintro e wca ⟨sa, Aa, na, ca, xa, rfl, Ga, hb⟩
        replace K := hid (K.out.trans (hb.out.mono K.out.size))
        clear hb D1 D2
        go_upto_region 15 with fail
        obtain ⟨Ua, hU⟩ : ∃ U, U = wca.alloc (.cells #[.bool sa, .slice Aa na ca, .int .i64 xa] 24) := ⟨_, rfl⟩
        rw [← hU]
        have Pa : Hid (Dbox Ua wca.heap.size sa (.slice Aa na ca) xa) := hid (hU ▸ heap_alloc_new _ _)
        have ha : Hid (Below wca.heap.size wca Ua) := hid (hU ▸ (Below.refl _ wca).alloc (Nat.le_refl _) _)
        clear hU
        replace K := hid (K.out.trans (ha.out.mono K.out.size))
        replace Ga := hid (Ga.out.below ha.out)
        clear ha
        go_wp2_with fail
        refine (of_arg a hra).mono ?_
        rintro e wab ⟨sx, Ax, nx, cx, xx, rfl, D1, hb⟩
        replace K := hid (K.out.trans (hb.out.mono K.out.size))
        replace Ga := hid (Ga.out.below hb.out)
        replace Pa := hid (Pa.out.below hb.out Pa.out.lt)
        clear hb
        go_wp2_with fail
        refine (of_arg b hrb).mono ?_
        rintro e wbb ⟨sy, Ay, ny, cy, xy, rfl, D2, hb⟩
        replace K := hid (K.out.trans (hb.out.mono K.out.size))
        replace Ga := hid (Ga.out.below hb.out)
        replace Pa := hid (Pa.out.below hb.out Pa.out.lt)
        replace D1 := hid (D1.out.below hb.out)
        clear hb
        go_wp2_with fail
        refine (ceil_good (k := 0) D1.out D2.out hb3.out (by omega) (HT.out.below K.out HT.out.lt) (HU.out.below K.out HU.out.lt) E2.out (by have := Hqb.out; have := Hqb2.out; omega)).mono ?_
        rintro e wcb ⟨sb, Ab, nb, cb, xb, rfl, Gb, hb⟩
        replace K := hid (K.out.trans (hb.out.mono K.out.size))
        replace Ga := hid (Ga.out.below hb.out)
        replace Pa := hid (Pa.out.below hb.out Pa.out.lt)
        clear hb D1 D2
        go_upto_region 16 with fail
        obtain ⟨Ub, hU⟩ : ∃ U, U = wcb.alloc (.cells #[.bool sb, .slice Ab nb cb, .int .i64 xb] 24) := ⟨_, rfl⟩
        rw [← hU]
        have Pb : Hid (Dbox Ub wcb.heap.size sb (.slice Ab nb cb) xb) := hid (hU ▸ heap_alloc_new _ _)
        have ha : Hid (Below wcb.heap.size wcb Ub) := hid (hU ▸ (Below.refl _ wcb).alloc (Nat.le_refl _) _)
        clear hU
        replace K := hid (K.out.trans (ha.out.mono K.out.size))
        replace Ga := hid (Ga.out.below ha.out)
        replace Pa := hid (Pa.out.below ha.out Pa.out.lt)
        replace Gb := hid (Gb.out.below ha.out)
        clear ha
        go_wp2_with fail
        refine (of_arg a hra).mono ?_
        rintro e wac ⟨sx, Ax, nx, cx, xx, rfl, D1, hb⟩
        replace K := hid (K.out.trans (hb.out.mono K.out.size))
        replace Ga := hid (Ga.out.below hb.out)
        replace Pa := hid (Pa.out.below hb.out Pa.out.lt)
        replace Gb := hid (Gb.out.below hb.out)
        replace Pb := hid (Pb.out.below hb.out Pb.out.lt)
        clear hb
        go_wp2_with fail
        refine (of_arg b hrb).mono ?_
        rintro e wbc ⟨sy, Ay, ny, cy, xy, rfl, D2, hb⟩
        replace K := hid (K.out.trans (hb.out.mono K.out.size))
        replace Ga := hid (Ga.out.below hb.out)
        replace Pa := hid (Pa.out.below hb.out Pa.out.lt)
        replace Gb := hid (Gb.out.below hb.out)
        replace Pb := hid (Pb.out.below hb.out Pb.out.lt)
        replace D1 := hid (D1.out.below hb.out)
        clear hb
        go_wp2_with fail
        refine (near_good D1.out D2.out hb3.out (HT.out.below K.out HT.out.lt) (HU.out.below K.out HU.out.lt) E3.out (by have := Hqb.out; have := Hqb2.out; omega)).mono ?_
        rintro e wcc ⟨sc, Ac, nc, cc, xc, rfl, Gc, hb⟩
        replace K := hid (K.out.trans (hb.out.mono K.out.size))
        replace Ga := hid (Ga.out.below hb.out)
        replace Pa := hid (Pa.out.below hb.out Pa.out.lt)
        replace Gb := hid (Gb.out.below hb.out)
        replace Pb := hid (Pb.out.below hb.out Pb.out.lt)
        clear hb D1 D2
        go_upto_region 17 with fail
        obtain ⟨Uc, hU⟩ : ∃ U, U = wcc.alloc (.cells #[.bool sc, .slice Ac nc cc, .int .i64 xc] 24) := ⟨_, rfl⟩
        rw [← hU]
        have Pc : Hid (Dbox Uc wcc.heap.size sc (.slice Ac nc cc) xc) := hid (hU ▸ heap_alloc_new _ _)
        have ha : Hid (Below wcc.heap.size wcc Uc) := hid (hU ▸ (Below.refl _ wcc).alloc (Nat.le_refl _) _)
        clear hU
        replace K := hid (K.out.trans (ha.out.mono K.out.size))
        replace Ga := hid (Ga.out.below ha.out)
        replace Pa := hid (Pa.out.below ha.out Pa.out.lt)
        replace Gb := hid (Gb.out.below ha.out)
        replace Pb := hid (Pb.out.below ha.out Pb.out.lt)
        replace Gc := hid (Gc.out.below ha.out)
        clear ha
        have Pac0 := Pa.out.c0
        have Pac1 := Pa.out.c1
        have Pac2 := Pa.out.c2
        have Pbc0 := Pb.out.c0
        have Pbc1 := Pb.out.c1
        have Pbc2 := Pb.out.c2
        have Pcc0 := Pc.out.c0
        have Pcc1 := Pc.out.c1
        have Pcc2 := Pc.out.c2
        go_wp2_with fail
        refine (is_true (x := 0) Ga.out (by have := Hqb.out; have := Hqb2.out; omega) (by omega) (.inl rfl) rfl).mono ?_
        rintro e wia ⟨rfl, hb⟩
        clear Pac0 Pac1 Pac2 Pbc0 Pbc1 Pbc2 Pcc0 Pcc1 Pcc2
        replace K := hid (K.out.trans (hb.out.mono K.out.size))
        replace Ga := hid (Ga.out.below hb.out)
        replace Pa := hid (Pa.out.below hb.out Pa.out.lt)
        replace Gb := hid (Gb.out.below hb.out)
        replace Pb := hid (Pb.out.below hb.out Pb.out.lt)
        replace Gc := hid (Gc.out.below hb.out)
        replace Pc := hid (Pc.out.below hb.out Pc.out.lt)
        have Pac0 := Pa.out.c0
        have Pac1 := Pa.out.c1
        have Pac2 := Pa.out.c2
        have Pbc0 := Pb.out.c0
        have Pbc1 := Pb.out.c1
        have Pbc2 := Pb.out.c2
        have Pcc0 := Pc.out.c0
        have Pcc1 := Pc.out.c1
        have Pcc2 := Pc.out.c2
        clear hb
        go_wp2_with fail
        refine (is_true (x := 0) Gb.out (by have := Hqb.out; have := Hqb2.out; omega) (by omega) (.inl rfl) rfl).mono ?_
        rintro e wib ⟨rfl, hb⟩
        clear Pac0 Pac1 Pac2 Pbc0 Pbc1 Pbc2 Pcc0 Pcc1 Pcc2
        replace K := hid (K.out.trans (hb.out.mono K.out.size))
        replace Ga := hid (Ga.out.below hb.out)
        replace Pa := hid (Pa.out.below hb.out Pa.out.lt)
        replace Gb := hid (Gb.out.below hb.out)
        replace Pb := hid (Pb.out.below hb.out Pb.out.lt)
        replace Gc := hid (Gc.out.below hb.out)
        replace Pc := hid (Pc.out.below hb.out Pc.out.lt)
        have Pac0 := Pa.out.c0
        have Pac1 := Pa.out.c1
        have Pac2 := Pa.out.c2
        have Pbc0 := Pb.out.c0
        have Pbc1 := Pb.out.c1
        have Pbc2 := Pb.out.c2
        have Pcc0 := Pc.out.c0
        have Pcc1 := Pc.out.c1
        have Pcc2 := Pc.out.c2
        clear hb
        go_wp2_with fail
        refine (is_true0 Gc.out (by have := Hqb.out; have := Hqb2.out; omega)).mono ?_
        rintro e wic ⟨rfl, hb⟩
        clear Pac0 Pac1 Pac2 Pbc0 Pbc1 Pbc2 Pcc0 Pcc1 Pcc2
        replace K := hid (K.out.trans (hb.out.mono K.out.size))
        replace Ga := hid (Ga.out.below hb.out)
        replace Pa := hid (Pa.out.below hb.out Pa.out.lt)
        replace Gb := hid (Gb.out.below hb.out)
        replace Pb := hid (Pb.out.below hb.out Pb.out.lt)
        replace Gc := hid (Gc.out.below hb.out)
        replace Pc := hid (Pc.out.below hb.out Pc.out.lt)
        have Pac0 := Pa.out.c0
        have Pac1 := Pa.out.c1
        have Pac2 := Pa.out.c2
        have Pbc0 := Pb.out.c0
        have Pbc1 := Pb.out.c1
        have Pbc2 := Pb.out.c2
        have Pcc0 := Pc.out.c0
        have Pcc1 := Pc.out.c1
        have Pcc2 := Pc.out.c2
        clear hb
        go_wp2
        go_ret
        exact ⟨rfl, K.out⟩

end Go.Proofs.YtndehapggbmndaaDoor
