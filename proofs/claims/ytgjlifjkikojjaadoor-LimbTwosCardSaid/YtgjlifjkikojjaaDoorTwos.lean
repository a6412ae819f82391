/- The law LimbTwos, walked: for any slice and number it returns true, and turns no memory that was there. -/
import Derived.Test.YtgjlifjkikojjaaDoorArg
namespace Go.Proofs.YtgjlifjkikojjaaDoor
open Go.RowKit

theorem low_1280 {V k : Nat} (h : LowOf V k) (hV : V < pw 40) : k ≤ 1280 := by
  rcases h with ⟨_, rfl⟩ | ⟨m, rfl⟩
  · omega
  · rcases Nat.lt_or_ge 1280 k with h1 | h1
    · have a : pw 40 ≤ 2 ^ k := pw40_le (by omega)
      have b : 2 ^ k * 1 ≤ 2 ^ k * (2 * m + 1) := Nat.mul_le_mul_left _ (by omega)
      omega
    · exact h1

/-- What is left of a number without its lowest bits that are 0 is odd: so is its first limb. -/
theorem odd_limb {V k n : Nat} {f : Nat → Nat} (h : LowOf V k) (hV : 0 < V) (hf : Fit n f) (ho : ∀ j, n ≤ j → f j = 0) (he : vl f n = V / 2 ^ k) : ∃ y, 0 < n ∧ f 0 = 2 * y + 1 := by
  rcases h with ⟨h0, _⟩ | ⟨m, rfl⟩
  · omega
  · have hp : 0 < 2 ^ k := Nat.pow_pos (by omega)
    rw [Nat.mul_div_cancel_left _ hp] at he
    have hn : 0 < n := by
      rcases Nat.eq_zero_or_pos n with h0 | h0
      · subst h0
        simp [vl] at he
      · exact h0
    obtain ⟨L, rfl⟩ : ∃ L, n = 1 + L := ⟨n - 1, by omega⟩
    rw [vl_shift, show vl f 1 = f 0 by simp [vl, pw], show pw 1 = 2 * 2147483648 by simp [pw], Nat.mul_assoc] at he
    generalize 2147483648 * vl (fun j => f (1 + j)) L = r at he
    exact ⟨f 0 / 2, hn, by omega⟩

theorem size_shift {V s k : Nat} (h : Size V s) (hV : 0 < V) : Size (V * 2 ^ k) (s + k) := by
  have s0 := size_pos' h hV
  have hp : 0 < 2 ^ k := Nat.pow_pos (by omega)
  refine ⟨?_, fun _ => ?_⟩
  · rw [Nat.pow_add]
    exact Nat.mul_lt_mul_of_pos_right h.1 hp
  · rw [show s + k - 1 = s - 1 + k by omega, Nat.pow_add]
    exact Nat.mul_le_mul_right _ (h.2 s0)

theorem wrap_pow {k y : Nat} (h : 2 ^ k = y) (hy : y ≤ 9223372036854775807) : IntKind.u64.wrap (2 ^ k) = (y : Int) := by
  rw [show ((2 : Int) ^ k) = ((2 ^ k : Nat) : Int) by simp, h, IntKind.wrap_u64]
  omega

set_option maxHeartbeats 12800000 in
set_option maxRecDepth 1000000 in
theorem twos_walk {A : Option Addr} {n c : Nat} {k : Int} {f : Nat → Nat} {w : World} (ha : Rd w w.heap.size A n c f) (hkw : (Lit.int .i64 k).wf = true) (hT : Tab w) :
    Calls Tryd.prog 7 #[.slice A n c, .int .i64 k] w (Alive w) := by
  have hkm : k ≤ 9223372036854775807 := by
    have hmax : IntKind.i64.max = 9223372036854775807 := rfl
    simp only [Lit.wf, Bool.and_eq_true, decide_eq_true_eq] at hkw
    omega
  have Cl := hid (alive_any hT)
  have hac := ha.cap
  have ham := ha.max
  have hV1 : 0 < n → Fit n f → 0 < vl f n := fun h0 hf => by
    have a := vl_ge h0 (hf.2 h0)
    have b := pw_pos (n - 1)
    omega
  have HV := hid hV1
  have Aa := hid (ha.arg (Nat.le_refl _))
  have HT := hid hT
  have Hkm := hid hkm
  clear ha hT hkw hV1 hkm
  generalize hp : Fit n f = p at *
  generalize vl f n = V at *
  clear hp
  go_enter Tryd.func7, Tryd.ntmps7
  go_wp2_with fail
  refine Cl.out.mono ?_
  rintro e w1 ⟨rfl, hb1⟩
  have B1 := hid hb1
  have Aa := hid (Aa.out.below hb1)
  clear hb1 Cl
  by_cases hn : (42 : Int) < (n : Int)
  · have Cg := hid (great_any A n c w1 (by omega))
    rw [decide_eq_true hn] at Cg
    go_wp2_with fail
    refine Cg.out.mono ?_
    rintro e w' ⟨rfl, rfl⟩
    go_wp2_with fail
    go_ret
    exact ⟨rfl, B1.out⟩
  have Cg := hid (great_any A n c w1 (by omega))
  rw [decide_eq_false hn] at Cg
  go_wp2_with fail
  refine Cg.out.mono ?_
  rintro e w' ⟨rfl, rfl⟩
  clear Cg
  go_wp2_with fail
  refine (left_arg Aa.out k Hkm.out).mono ?_
  rintro e w2 ⟨vx, ex, rfl, Ex, Vx, hb2⟩
  have Aa := hid (Aa.out.below hb2.out)
  have B2 := hid (B1.out.trans (hb2.out.mono B1.out.size))
  clear hb2 B1
  by_cases hp : p
  · by_cases hk0 : k < 0
    · have he := Ex.out.2.1 hp hk0
      subst he
      clear Ex Vx Hkm
      have HTc := hid (HT.out.below B2.out HT.out.lt)
      go_wp2_with fail
      refine (low_arg Aa.out HTc.out).mono ?_
      rintro e wl ⟨low, el, rfl, El, hbl⟩
      obtain ⟨he, hlow⟩ := El.out.1 hp
      subst he
      have Aa := hid (Aa.out.below hbl.out)
      have BL := hid (B2.out.trans (hbl.out.mono B2.out.size))
      have hlk : low ≤ 1280 := low_1280 hlow ((Aa.out.val hp).lt)
      have Hlow := hid hlow
      clear hbl El hlow
      go_wp2_with fail
      refine (right_arg Aa.out (low : Int) (by omega)).mono ?_
      rintro e wr ⟨vo, eo, rfl, Eo, Vo, hbo⟩
      have he := Eo.out.1 hp (by omega)
      subst he
      rw [resV_ok rfl, Int.toNat_natCast] at Vo
      have BR := hid (BL.out.trans (hbo.out.mono BL.out.size))
      clear Eo hbo
      by_cases hn0 : n = 0
      · subst hn0
        go_wp2
        all_goals (go_ret; exact ⟨rfl, BR.out⟩)
      · have hnz : (((n : Nat) : Int) == 0) = false := by simp; omega
        have hV0 := HV.out (by omega) hp
        obtain ⟨A2, k2, c2, f2, rfl, r2, fit2, e2⟩ := Vo.out
        obtain ⟨y, hk2, hf2⟩ := odd_limb (Hlow.out) (by omega) fit2 r2.out e2
        obtain ⟨b2, off2, rfl, _, hc2⟩ := r2.at_ hk2
        have xc := hc2 0 hk2
        rw [Nat.add_zero] at xc
        have xl := r2.lt 0
        have c2c := r2.cap
        have c2m := r2.max
        rw [hf2] at xc xl
        have hodd : (((2 * y + 1 : Nat) : Int) % 2 == 1) = true := by rw [beq_iff_eq]; omega
        have hk2b : (0 : Int) < (k2 : Int) := by omega
        clear hc2 hf2 e2 fit2 r2 hV0 Vo
        generalize 2 * y + 1 = z at *
        go_wp2
        all_goals (go_ret; exact ⟨rfl, BR.out⟩)
    · obtain ⟨k, rfl⟩ := Int.eq_ofNat_of_zero_le (show 0 ≤ k by omega)
      have he := Ex.out.1 hp (by omega)
      rw [Int.toNat_natCast] at he Vx
      by_cases hov : V * 2 ^ k < pw 40
      · rw [show overErr (V * 2 ^ k) = 0 from if_pos hov] at he
        subst he
        rw [resV_ok rfl] at Vx
        have Hov := hid hov
        have hk2 : (k : Int) ≤ 9223372036854775807 := Hkm.out
        clear Ex hov Hkm
        go_wp2_with fail
        refine (right_arg Vx.out.arg (k : Int) hk2).mono ?_
        rintro e w3 ⟨vb, eb, rfl, Eb, Vb, hb3⟩
        have he := Eb.out.1 trivial (by omega)
        subst he
        rw [resV_ok rfl, Int.toNat_natCast, Nat.mul_div_cancel _ (Nat.pow_pos (by omega))] at Vb
        have Aa := hid (Aa.out.below hb3.out)
        have Vx := hid (Vx.out.below hb3.out)
        have B3 := hid (B2.out.trans (hb3.out.mono B2.out.size))
        clear hb3 Eb B2
        go_wp2_with fail
        refine (bits_arg Aa.out).mono ?_
        rintro e w4 ⟨s1, e1, rfl, E1, hb4⟩
        obtain ⟨he, hs1⟩ := E1.out.1 hp
        subst he
        have Aa := hid (Aa.out.below hb4.out)
        have Vx := hid (Vx.out.below hb4.out)
        have Vb := hid (Vb.out.below hb4.out)
        have B4 := hid (B3.out.trans (hb4.out.mono B3.out.size))
        clear hb4 E1 B3
        go_wp2_with fail
        refine (bits_arg Vx.out.arg).mono ?_
        rintro e w5 ⟨s2, e2, rfl, E2, hb5⟩
        obtain ⟨he, hs2⟩ := E2.out.1 trivial
        subst he
        have Aa := hid (Aa.out.below hb5.out)
        have Vx := hid (Vx.out.below hb5.out)
        have Vb := hid (Vb.out.below hb5.out)
        have B5 := hid (B4.out.trans (hb5.out.mono B4.out.size))
        clear hb5 E2 B4
        have hsz : 0 < n → s2 = s1 + k ∧ s2 ≤ 1280 := fun h0 =>
          ⟨hs2.uniq (size_shift hs1 (HV.out h0 hp)), size_1280 hs2 Hov.out⟩
        have Hsz := hid hsz
        clear hs1 hs2 hsz
        go_wp2_with fail
        refine (same_val Vb.out (Aa.out.val hp)).mono ?_
        rintro e w6 ⟨rfl, hb6⟩
        rw [decide_eq_true rfl]
        have Aa := hid (Aa.out.below hb6)
        have Vx := hid (Vx.out.below hb6)
        have B6 := hid (B5.out.trans (hb6.mono B5.out.size))
        clear hb6 Vb B5
        by_cases hn0 : n = 0
        · subst hn0
          by_cases hk63 : (k : Int) < 63
          · have hk63' : k < 63 := by omega
            have hpow : 2 ^ k ≤ 9223372036854775807 := by
              have := Nat.pow_le_pow_right (show 0 < 2 by omega) (show k ≤ 62 by omega)
              omega
            generalize hy : 2 ^ k = y at *
            have Hy := hid hy
            have hsh : IntKind.u64.wrap (2 ^ k) = (y : Int) := wrap_pow hy hpow
            clear hy
            go_wp2_with fail
            refine (of_any y (by omega) _).mono ?_
            rintro e w7 ⟨vy, rfl, hny, hb7⟩
            have Vy := hid hny.val
            have Aa := hid (Aa.out.below hb7)
            have Vx := hid (Vx.out.below hb7)
            have B7 := hid (B6.out.trans (hb7.mono B6.out.size))
            clear hny hb7 B6 hsh
            go_wp2_with fail
            refine (mul_arg Aa.out Vy.out.arg).mono ?_
            rintro e w8 ⟨vm, em, rfl, Em, Vm, hb8⟩
            have he : em = 0 := Errs.yes Em.out ⟨hp, trivial⟩ Hov.out
            subst he
            rw [resV_ok rfl] at Vm
            have Aa := hid (Aa.out.below hb8.out)
            have Vx := hid (Vx.out.below hb8.out)
            have B8 := hid (B7.out.trans (hb8.out.mono B7.out.size))
            clear hb8 Em Vy B7
            go_wp2_with fail
            refine (same_val Vx.out Vm.out).mono ?_
            rintro e w9 ⟨rfl, hb9⟩
            rw [decide_eq_true rfl]
            have Aa := hid (Aa.out.below hb9)
            have B9 := hid (B8.out.trans (hb9.mono B8.out.size))
            clear hb9 Vx Vm B8 Hov Hy Hsz
            have HTc := hid (HT.out.below B9.out HT.out.lt)
            go_wp2_with fail
            refine (low_arg Aa.out HTc.out).mono ?_
            rintro e wl ⟨low, el, rfl, El, hbl⟩
            obtain ⟨he, hlow⟩ := El.out.1 hp
            subst he
            have Aa := hid (Aa.out.below hbl.out)
            have BL := hid (B9.out.trans (hbl.out.mono B9.out.size))
            have hlk : low ≤ 1280 := low_1280 hlow ((Aa.out.val hp).lt)
            have Hlow := hid hlow
            clear hbl El hlow
            go_wp2_with fail
            refine (right_arg Aa.out (low : Int) (by omega)).mono ?_
            rintro e wr ⟨vo, eo, rfl, Eo, Vo, hbo⟩
            have he := Eo.out.1 hp (by omega)
            subst he
            rw [resV_ok rfl, Int.toNat_natCast] at Vo
            have BR := hid (BL.out.trans (hbo.out.mono BL.out.size))
            clear Eo hbo
            go_wp2
            all_goals (go_ret; exact ⟨rfl, BR.out⟩)
          · clear Vx Hsz
            have HTc := hid (HT.out.below B6.out HT.out.lt)
            go_wp2_with fail
            refine (low_arg Aa.out HTc.out).mono ?_
            rintro e wl ⟨low, el, rfl, El, hbl⟩
            obtain ⟨he, hlow⟩ := El.out.1 hp
            subst he
            have Aa := hid (Aa.out.below hbl.out)
            have BL := hid (B6.out.trans (hbl.out.mono B6.out.size))
            have hlk : low ≤ 1280 := low_1280 hlow ((Aa.out.val hp).lt)
            have Hlow := hid hlow
            clear hbl El hlow
            go_wp2_with fail
            refine (right_arg Aa.out (low : Int) (by omega)).mono ?_
            rintro e wr ⟨vo, eo, rfl, Eo, Vo, hbo⟩
            have he := Eo.out.1 hp (by omega)
            subst he
            rw [resV_ok rfl, Int.toNat_natCast] at Vo
            have BR := hid (BL.out.trans (hbo.out.mono BL.out.size))
            clear Eo hbo
            go_wp2
            all_goals (go_ret; exact ⟨rfl, BR.out⟩)
        · have hnp : (0 : Int) < (n : Int) := by omega
          obtain ⟨hs, hs3⟩ := Hsz.out (by omega)
          subst hs
          by_cases hk63 : (k : Int) < 63
          · have hk63' : k < 63 := by omega
            have hpow : 2 ^ k ≤ 9223372036854775807 := by
              have := Nat.pow_le_pow_right (show 0 < 2 by omega) (show k ≤ 62 by omega)
              omega
            generalize hy : 2 ^ k = y at *
            have Hy := hid hy
            have hsh : IntKind.u64.wrap (2 ^ k) = (y : Int) := wrap_pow hy hpow
            clear hy
            go_wp2_with fail
            refine (of_any y (by omega) _).mono ?_
            rintro e w7 ⟨vy, rfl, hny, hb7⟩
            have Vy := hid hny.val
            have Aa := hid (Aa.out.below hb7)
            have Vx := hid (Vx.out.below hb7)
            have B7 := hid (B6.out.trans (hb7.mono B6.out.size))
            clear hny hb7 B6 hsh
            go_wp2_with fail
            refine (mul_arg Aa.out Vy.out.arg).mono ?_
            rintro e w8 ⟨vm, em, rfl, Em, Vm, hb8⟩
            have he : em = 0 := Errs.yes Em.out ⟨hp, trivial⟩ Hov.out
            subst he
            rw [resV_ok rfl] at Vm
            have Aa := hid (Aa.out.below hb8.out)
            have Vx := hid (Vx.out.below hb8.out)
            have B8 := hid (B7.out.trans (hb8.out.mono B7.out.size))
            clear hb8 Em Vy B7
            go_wp2_with fail
            refine (same_val Vx.out Vm.out).mono ?_
            rintro e w9 ⟨rfl, hb9⟩
            rw [decide_eq_true rfl]
            have Aa := hid (Aa.out.below hb9)
            have B9 := hid (B8.out.trans (hb9.mono B8.out.size))
            clear hb9 Vx Vm B8 Hov Hy Hsz
            have HTc := hid (HT.out.below B9.out HT.out.lt)
            go_wp2_with fail
            refine (low_arg Aa.out HTc.out).mono ?_
            rintro e wl ⟨low, el, rfl, El, hbl⟩
            obtain ⟨he, hlow⟩ := El.out.1 hp
            subst he
            have Aa := hid (Aa.out.below hbl.out)
            have BL := hid (B9.out.trans (hbl.out.mono B9.out.size))
            have hlk : low ≤ 1280 := low_1280 hlow ((Aa.out.val hp).lt)
            have Hlow := hid hlow
            clear hbl El hlow
            go_wp2_with fail
            refine (right_arg Aa.out (low : Int) (by omega)).mono ?_
            rintro e wr ⟨vo, eo, rfl, Eo, Vo, hbo⟩
            have he := Eo.out.1 hp (by omega)
            subst he
            rw [resV_ok rfl, Int.toNat_natCast] at Vo
            have BR := hid (BL.out.trans (hbo.out.mono BL.out.size))
            clear Eo hbo
            have hnz : (((n : Nat) : Int) == 0) = false := by simp; omega
            have hV0 := HV.out (by omega) hp
            obtain ⟨A2, k2, c2, f2, rfl, r2, fit2, e2⟩ := Vo.out
            obtain ⟨y, hk2, hf2⟩ := odd_limb (Hlow.out) (by omega) fit2 r2.out e2
            obtain ⟨b2, off2, rfl, _, hc2⟩ := r2.at_ hk2
            have xc := hc2 0 hk2
            rw [Nat.add_zero] at xc
            have xl := r2.lt 0
            have c2c := r2.cap
            have c2m := r2.max
            rw [hf2] at xc xl
            have hodd : (((2 * y + 1 : Nat) : Int) % 2 == 1) = true := by rw [beq_iff_eq]; omega
            have hk2b : (0 : Int) < (k2 : Int) := by omega
            clear hc2 hf2 e2 fit2 r2 hV0 Vo
            generalize 2 * y + 1 = z at *
            go_wp2
            all_goals (go_ret; exact ⟨rfl, BR.out⟩)
          · clear Vx Hsz
            have HTc := hid (HT.out.below B6.out HT.out.lt)
            go_wp2_with fail
            refine (low_arg Aa.out HTc.out).mono ?_
            rintro e wl ⟨low, el, rfl, El, hbl⟩
            obtain ⟨he, hlow⟩ := El.out.1 hp
            subst he
            have Aa := hid (Aa.out.below hbl.out)
            have BL := hid (B6.out.trans (hbl.out.mono B6.out.size))
            have hlk : low ≤ 1280 := low_1280 hlow ((Aa.out.val hp).lt)
            have Hlow := hid hlow
            clear hbl El hlow
            go_wp2_with fail
            refine (right_arg Aa.out (low : Int) (by omega)).mono ?_
            rintro e wr ⟨vo, eo, rfl, Eo, Vo, hbo⟩
            have he := Eo.out.1 hp (by omega)
            subst he
            rw [resV_ok rfl, Int.toNat_natCast] at Vo
            have BR := hid (BL.out.trans (hbo.out.mono BL.out.size))
            clear Eo hbo
            have hnz : (((n : Nat) : Int) == 0) = false := by simp; omega
            have hV0 := HV.out (by omega) hp
            obtain ⟨A2, k2, c2, f2, rfl, r2, fit2, e2⟩ := Vo.out
            obtain ⟨y, hk2, hf2⟩ := odd_limb (Hlow.out) (by omega) fit2 r2.out e2
            obtain ⟨b2, off2, rfl, _, hc2⟩ := r2.at_ hk2
            have xc := hc2 0 hk2
            rw [Nat.add_zero] at xc
            have xl := r2.lt 0
            have c2c := r2.cap
            have c2m := r2.max
            rw [hf2] at xc xl
            have hodd : (((2 * y + 1 : Nat) : Int) % 2 == 1) = true := by rw [beq_iff_eq]; omega
            have hk2b : (0 : Int) < (k2 : Int) := by omega
            clear hc2 hf2 e2 fit2 r2 hV0 Vo
            generalize 2 * y + 1 = z at *
            go_wp2
            all_goals (go_ret; exact ⟨rfl, BR.out⟩)
      · rw [show overErr (V * 2 ^ k) = 10 from if_neg hov] at he
        subst he
        clear Ex Vx hov Hkm
        have HTc := hid (HT.out.below B2.out HT.out.lt)
        go_wp2_with fail
        refine (low_arg Aa.out HTc.out).mono ?_
        rintro e wl ⟨low, el, rfl, El, hbl⟩
        obtain ⟨he, hlow⟩ := El.out.1 hp
        subst he
        have Aa := hid (Aa.out.below hbl.out)
        have BL := hid (B2.out.trans (hbl.out.mono B2.out.size))
        have hlk : low ≤ 1280 := low_1280 hlow ((Aa.out.val hp).lt)
        have Hlow := hid hlow
        clear hbl El hlow
        go_wp2_with fail
        refine (right_arg Aa.out (low : Int) (by omega)).mono ?_
        rintro e wr ⟨vo, eo, rfl, Eo, Vo, hbo⟩
        have he := Eo.out.1 hp (by omega)
        subst he
        rw [resV_ok rfl, Int.toNat_natCast] at Vo
        have BR := hid (BL.out.trans (hbo.out.mono BL.out.size))
        clear Eo hbo
        by_cases hn0 : n = 0
        · subst hn0
          go_wp2
          all_goals (go_ret; exact ⟨rfl, BR.out⟩)
        · have hnz : (((n : Nat) : Int) == 0) = false := by simp; omega
          have hV0 := HV.out (by omega) hp
          obtain ⟨A2, k2, c2, f2, rfl, r2, fit2, e2⟩ := Vo.out
          obtain ⟨y, hk2, hf2⟩ := odd_limb (Hlow.out) (by omega) fit2 r2.out e2
          obtain ⟨b2, off2, rfl, _, hc2⟩ := r2.at_ hk2
          have xc := hc2 0 hk2
          rw [Nat.add_zero] at xc
          have xl := r2.lt 0
          have c2c := r2.cap
          have c2m := r2.max
          rw [hf2] at xc xl
          have hodd : (((2 * y + 1 : Nat) : Int) % 2 == 1) = true := by rw [beq_iff_eq]; omega
          have hk2b : (0 : Int) < (k2 : Int) := by omega
          clear hc2 hf2 e2 fit2 r2 hV0 Vo
          generalize 2 * y + 1 = z at *
          go_wp2
          all_goals (go_ret; exact ⟨rfl, BR.out⟩)
  · have he := Ex.out.2.2 hp
    subst he
    have HTc := hid (HT.out.below B2.out HT.out.lt)
    clear Ex Vx
    go_wp2_with fail
    refine (low_arg Aa.out HTc.out).mono ?_
    rintro e wl ⟨low, el, rfl, El, hbl⟩
    obtain ⟨he, _⟩ := El.out.2 hp
    subst he
    have Aa := hid (Aa.out.below hbl.out)
    have BL := hid (B2.out.trans (hbl.out.mono B2.out.size))
    clear hbl El
    go_wp2_with fail
    refine (check_arg Aa.out).mono ?_
    rintro e wr ⟨er, rfl, Er, rfl⟩
    have he := Er.out.2 hp
    subst he
    clear Er
    go_wp2
    go_ret
    exact ⟨rfl, BL.out⟩

end Go.Proofs.YtgjlifjkikojjaaDoor
