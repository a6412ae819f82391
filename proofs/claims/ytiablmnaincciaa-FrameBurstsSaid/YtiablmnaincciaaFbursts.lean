/- FrameBursts, walked. -/
import Derived.Test.YtiablmnaincciaaFbits
namespace Go.Proofs.Ytiablmnaincciaa
open Go.RowKit

set_option maxHeartbeats 12800000 in
theorem bursts_walk {w : World} {n c : Nat} {A : Option Addr} {kind at_ mask : Int} {xs : List Nat} (hk : 0 ≤ kind ∧ kind ≤ 255) (h : By w w.heap.size A n c xs) (h2 : -9223372036854775808 ≤ at_ ∧ at_ ≤ 9223372036854775807) (hm : 0 ≤ mask ∧ mask ≤ 4294967295) :
    Calls Try.prog 6 #[.int .u8 kind, .slice A n c, .int .i64 at_, .int .u32 mask] w fun e w' => e = .returned (.bool true) ∧ Below w.heap.size w w' := by
  have CA := hid (alive_any w)
  have hmax := h.max
  have HX := hid h
  obtain ⟨k, rfl⟩ : ∃ k : Nat, kind = k := ⟨kind.toNat, by omega⟩
  obtain ⟨M, rfl⟩ : ∃ M : Nat, mask = M := ⟨mask.toNat, by omega⟩
  have hk256 : k < 256 := by omega
  have hM : M < 4294967296 := by omega
  clear h hk hm
  by_cases hbig : 4096 < n
  · have hcase : 5000 < (n : Int) ∨ ¬ 5000 < (n : Int) := by omega
    rcases hcase with d0 | d0
    all_goals
      go_enter Try.func6, Try.ntmps6
      go_wp2_with fail
      with_reducible refine CA.out.mono ?_
      rintro e w1 ⟨rfl, hb1⟩
      go_wp2_with fail
      with_reducible refine (Put_many hbig).mono ?_
      rintro e w2 ⟨rfl, rfl⟩
      go_wp2
      go_ret
      exact ⟨rfl, hb1.out⟩
  · have hn0 : (n : Int) ≤ 4096 := by omega
    go_enter Try.func6, Try.ntmps6
    go_wp2_with fail
    with_reducible refine CA.out.mono ?_
    rintro e w1 ⟨rfl, hb1⟩
    have HX1 := hid (HX.out.below hb1.out)
    go_wp2_with fail
    with_reducible refine (Put_fits (HX1.out.mono hb1.out.size) hk256 (by omega)).mono ?_
    rintro e w2 ⟨v, rfl, hO, hb2⟩
    have hfl : (frm k xs).length = n + 9 := by rw [frm_length, HX.out.len]
    have hsh := hO.out.shape
    rw [hfl] at hsh
    obtain ⟨A1, c1, rfl, -⟩ := hsh
    have hop := hO.out.open_ (by omega)
    obtain ⟨g, rfl, -, hc1, hg, hgl, -, -⟩ := hop
    have J2 := hid (hb1.out.trans (hb2.out.mono hb1.out.size))
    have hg2 : w.heap.size ≤ g := Nat.le_trans hb1.out.size hg
    have HO := hid (hO.out.mono hb1.out.size)
    have Hfl := hid hfl
    have HF := hid (fun (ys : List Nat) (m a : Nat) => flt_turned (kind := k) (xs := xs) (ys := ys) (m := m) (at_ := a) hk256 (by rw [HX.out.len]; omega) HX.out.lt)
    obtain ⟨fs, hfs⟩ : ∃ fs, fs = frm k xs := ⟨_, rfl⟩
    rw [← hfs] at HO Hfl HF
    clear hO hfl hb2 hfs
    by_cases hat : 0 ≤ at_ ∧ at_ < 8 * ((n : Int) + 9)
    · obtain ⟨ha0, ha1⟩ := hat
      obtain ⟨a, rfl⟩ : ∃ a : Nat, at_ = a := ⟨at_.toNat, by omega⟩
      have ha2 : a < 8 * (n + 9) := by omega
      go_wp2
      go_loopw [12, 13, 14] (fun tu i _ wr => ∃ (j : Nat) (ys : List Nat), j ≤ 32 ∧ a + j ≤ 8 * (n + 9) ∧ i = .int .i64 (j : Int) ∧ tu = .bool (decide (M % 2 ^ j ≠ 0)) ∧ Hid (Ow wr w.heap.size (.slice (some ⟨g, 0, none⟩) (n + 9) c1) ys) ∧ Hid (nm ys = nm fs ^^^ M % 2 ^ j * 2 ^ a) ∧ Hid (Below w.heap.size w wr)) (fun _ i _ _ => 32 - (intOf i).toNat)
      case atStart => exact ⟨0, fs, by omega, by omega, rfl, by simp [Nat.mod_one], HO, hid (by rw [Nat.pow_zero, Nat.mod_one, Nat.zero_mul, Nat.xor_zero]), J2⟩
      case round =>
        obtain ⟨j, ys, hj, haj, rfl, rfl, hOy, hNy, hby⟩ := hrel
        by_cases hcon : j < 32 ∧ a + j < 8 * (n + 9)
        · obtain ⟨hc1', hc2'⟩ := hcon
          have hi1 : (j : Int) < 32 := by omega
          have hi2 : (j : Int) < 8 * ((n : Int) + 9) - (a : Int) := by omega
          have hop := hOy.out.open_ (by omega)
          obtain ⟨g', e', hyl, -, -, -, hcell, hfr⟩ := hop
          injection e' with e'
          injection e' with e1 e2
          subst e1
          have hq : (a + j) / 8 < n + 9 := by omega
          have hck := hcell _ hq
          have hfk := hfr ((a + j) / 8)
          have hlt := hOy.out.2.1
          have Hj := hid hj
          rcases Nat.mod_two_eq_zero_or_one (M / 2 ^ j) with hb | hb
          · have hbit : (((M : Int) / 2 ^ j).tmod 2 == 1) = false := by
              have : ((M / 2 ^ j % 2 : Nat) : Int) = 0 := by rw [hb]; rfl
              rw [Int.tmod_eq_emod_of_nonneg (Int.ediv_nonneg (by omega) (Int.pow_nonneg (by omega)))]
              have h3 : (M : Int) / 2 ^ j % 2 = 0 := by simpa using this
              rw [h3]
              rfl
            have ht : decide (M % 2 ^ j ≠ 0) = decide (M % 2 ^ (j + 1) ≠ 0) := decide_eq_decide.2 (by rw [turned_step, hb]; omega)
            have hN2 := hid (turn_none hNy.out hb)
            have Ht := hid ht
            clear hb ht hck hfk hcell hfr hlt hyl
            go_wp2
            go_roundw
            case rel => exact ⟨j + 1, ys, by omega, by omega, by go_num, by rw [Ht.out], hOy, hN2, hby⟩
            case measure => simp [intOf]; omega
          · have hbit : (((M : Int) / 2 ^ j).tmod 2 == 1) = true := by
              have : ((M / 2 ^ j % 2 : Nat) : Int) = 1 := by rw [hb]; rfl
              rw [Int.tmod_eq_emod_of_nonneg (Int.ediv_nonneg (by omega) (Int.pow_nonneg (by omega)))]
              have h3 : (M : Int) / 2 ^ j % 2 = 1 := by simpa using this
              rw [h3]
              rfl
            have ht : decide (M % 2 ^ (j + 1) ≠ 0) = true := decide_eq_true (by rw [turned_step]; exact .inr hb)
            have hN2 := hid (turn_bit hlt (by rw [← hyl]; omega) hNy.out hb)
            obtain ⟨x0, hx0⟩ : ∃ x0, x0 = ys.getD ((a + j) / 8) 0 := ⟨_, rfl⟩
            have hxl : x0 < 256 := by
              rw [hx0, List.getD_eq_getElem?_getD, List.getElem?_eq_getElem (by rw [← hyl]; exact hq)]
              exact hlt _ (List.getElem_mem _)
            rw [← hx0] at hck hN2
            have hp8 : (2 : Nat) ^ ((a + j) % 8) < 256 := Nat.lt_of_le_of_lt (Nat.pow_le_pow_right (by omega) (show (a + j) % 8 ≤ 7 by omega)) (by omega)
            obtain ⟨y0, hy0⟩ : ∃ y0, y0 = x0 ^^^ 2 ^ ((a + j) % 8) := ⟨_, rfl⟩
            have hyl0 : y0 < 256 := hy0 ▸ Nat.xor_lt_two_pow (n := 8) hxl hp8
            rw [← hy0] at hN2
            have hxor : bits BinOp.xor IntKind.u8 (x0 : Int) ((2 : Int) ^ ((a + j) % 8) % 256) = (y0 : Int) := by
              have e2 : (2 : Int) ^ ((a + j) % 8) % 256 = ((2 ^ ((a + j) % 8) : Nat) : Int) := by
                have h9 : ((2 ^ ((a + j) % 8) : Nat) : Int) < 256 := Int.ofNat_lt.2 hp8
                have h10 : (2 : Int) ^ ((a + j) % 8) = ((2 ^ ((a + j) % 8) : Nat) : Int) := by simp
                rw [h10]
                exact Int.emod_eq_of_lt (Int.natCast_nonneg _) h9
              rw [e2, hy0]
              exact u8_xor_nat x0 _ hxl hp8
            have hO2 := hid (hOy.out.set ((a + j) / 8) hyl0)
            have hB2 := hid (hby.out.setCell (p := ⟨g, (a + j) / 8, none⟩) hg2 (.int .u8 (y0 : Int)))
            have hq1 : ((a : Int) + (j : Int)) / 8 = (((a + j) / 8 : Nat) : Int) := by omega
            have hq2 : ((a : Int) + (j : Int)) % 8 = (((a + j) % 8 : Nat) : Int) := by omega
            have hqi : (((a + j) / 8 : Nat) : Int) < (n : Int) + 9 := by omega
            have hr8 : (a + j) % 8 < 8 := by omega
            have Hp8 := hid hp8
            have Ht := hid ht
            clear hb ht hcell hfr hlt hx0 hy0 hp8 hyl
            generalize (a + j) / 8 = q at *
            generalize (a + j) % 8 = r at *
            go_wp2
            go_roundw
            case rel => exact ⟨j + 1, _, by omega, by omega, by go_num, by rw [Ht.out], hO2, hN2, hB2⟩
            case measure => simp [intOf]; omega
        · obtain ⟨T, hT⟩ : ∃ T, T = M % 2 ^ j := ⟨_, rfl⟩
          have hTl : T < 4294967296 := hT ▸ Nat.lt_of_le_of_lt (Nat.mod_le _ _) hM
          have hyl := hOy.out.by_.1
          have hflt := HF.out ys T a hOy.out.2.1 (by rw [← hyl, Hfl.out]) hTl (by rw [Hfl.out]; omega) (by rw [hT]; exact hNy.out)
          have hcase : ¬ (j : Int) < 32 ∨ (j : Int) < 32 ∧ ¬ (j : Int) < 8 * ((n : Int) + 9) - (a : Int) := by omega
          have hsh := hOy.out.by_.2
          have HY := hid hsh
          have hsz := hby.out.size
          have hT0 := hid hT
          clear hyl hsh hT
          by_cases h0 : T = 0
          · rw [if_pos h0] at hflt
            have CT := hid (Take_good HY.out (Nat.le_refl _) hflt)
            have hm0 : M % 2 ^ j = 0 := by rw [← hT0.out]; exact h0
            rcases hcase with d0 | ⟨d0, d1⟩
            all_goals
              go_wp2_with fail
              with_reducible refine CT.out.mono ?_
              rintro e w3 ⟨v3, rfl, -, hb3⟩
              go_wp2
              go_ret
              exact ⟨rfl, hby.out.trans (hb3.out.mono hsz)⟩
          · rw [if_neg h0] at hflt
            have CT := Take_bad HY.out (Nat.le_refl _) (by rw [hflt]; omega)
            rw [hflt] at CT
            have HCT := hid CT
            have hm0 : ¬ M % 2 ^ j = 0 := by rw [← hT0.out]; exact h0
            rcases hcase with d0 | ⟨d0, d1⟩
            all_goals
              go_wp2_with fail
              with_reducible refine HCT.out.mono ?_
              rintro e w3 ⟨rfl, hb3⟩
              go_wp2
              go_ret
              exact ⟨rfl, hby.out.trans (hb3.out.mono hsz)⟩
    · have hcase : at_ < 0 ∨ ¬ at_ < 0 ∧ 8 * ((n : Int) + 9) ≤ at_ := by omega
      clear hat
      rcases hcase with d0 | ⟨d0, d1⟩
      all_goals
        go_wp2
        go_ret
        exact ⟨rfl, J2.out⟩

end Go.Proofs.Ytiablmnaincciaa
