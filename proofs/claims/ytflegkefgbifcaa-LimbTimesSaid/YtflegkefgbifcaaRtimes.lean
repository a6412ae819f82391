/- The reference's Times, Into, Mul, Div. -/
import Derived.Test.YtflegkefgbifcaaRplus
import Derived.Test.YtflegkefgbifcaaRtold
import Derived.Test.YtflegkefgbifcaaRshift
import Derived.Test.YtflegkefgbifcaaMul
import Derived.Test.YtflegkefgbifcaaDiv
namespace Go.Proofs.Ytflegkefgbifcaa
open Go.RowKit

theorem mod_up (V t : Nat) : V % tw (t + 1) = V % tw t + tw t * bt V t := by
  rw [tw_succ, Nat.mod_mul]
  rfl

theorem pw40_tw {V : Nat} (h : V < pw 40) : V < tw 1280 := by
  rwa [tw_pw, show 32 * 40 = 1280 from rfl] at h

theorem mul_tw {U V a b : Nat} (hU : U < tw a) (hV : V < tw b) : U * V < tw (a + b) := by
  rw [tw_add]
  exact Nat.mul_lt_mul_of_lt_of_le hU (Nat.le_of_lt hV) (tw_pos b)

set_option maxHeartbeats 1600000 in
theorem Times_any {w : World} {U V : Nat} {v1 v2 : Value} (h1 : Bt w w.heap.size U v1) (h2 : Bt w w.heap.size V v2) (hU : U < pw 40) (hV : V < pw 40) :
    Calls Try.prog 29 #[v1, v2] w fun e w' => ∃ v, e = .returned v ∧ Below w.heap.size w w' ∧ Bt w' w'.heap.size (U * V) v := by
  obtain ⟨D, m, d, rfl, hy, hl⟩ := h2
  have hm := Bt.le4000 hy hl hV
  have H1 := hid h1
  have Hy := hid hy
  have HU := hid hU
  have hyc := hy.cap
  clear h1 hy hl hU hV
  go_enter Try.func29, Try.ntmps29
  go_wp2_with fail
  go_loopw [5, 6] (fun v i wr => ∃ t : Nat, t ≤ m ∧ i = .int .i64 (t : Int) ∧ Hid (Bt wr wr.heap.size (U * (V % tw t)) v) ∧ Hid (Below w.heap.size w wr)) (fun _ i _ => m - (intOf i).toNat)
  case atStart => exact ⟨0, by omega, rfl, hid (by rw [tw_zero, Nat.mod_one, Nat.mul_zero]; exact bt_nil _ _), Below.refl _ _⟩
  case round =>
    obtain ⟨t, ht, rfl, Ho, hbel⟩ := hrel
    by_cases htm : t < m
    · obtain ⟨b, off, rfl, hbB, hc⟩ := Hy.out.at_ (by omega)
      have xa := (hbel.out.cell (p := ⟨b, off + t, none⟩) hbB).trans (hc t htm)
      have hb1 := bt_le V t
      have hmu := mod_up V t
      clear hc
      by_cases hb0 : bt V t = 0
      · rw [hb0] at xa hmu
        have Hm := hid hmu
        clear hb0 hb1 hmu
        go_wp2_with fail
        go_roundw
        case rel => exact ⟨t + 1, by omega, by go_num, hid (by rw [Hm.out, Nat.mul_zero, Nat.add_zero]; exact Ho.out), hbel⟩
        case measure => simp [intOf]; omega
      · have hb2 : bt V t = 1 := by omega
        rw [hb2] at xa hmu
        have Hm := hid hmu
        have C1 := hid (Times2_any ((H1.out.below hbel.out).mono hbel.out.size) HU.out t (by omega))
        clear hb0 hb1 hmu hb2
        go_wp2_with fail
        refine C1.out.mono ?_
        rintro e w1 ⟨v3, rfl, hb1, A3, n3, c3, rfl, hx3, hl3⟩
        obtain ⟨A4, n4, c4, rfl, hx4, hl4⟩ := Ho.out
        have hlt : U * (V % tw t) < tw 2560 := by
          refine Nat.lt_of_lt_of_le (mul_tw (pw40_tw HU.out) (Nat.mod_lt V (tw_pos t))) (tw_mono (by omega))
        have hlt3 : U * tw t < tw 2560 := by
          refine Nat.lt_of_lt_of_le (mul_tw (b := t + 1) (pw40_tw HU.out) ?_) (tw_mono (by omega))
          rw [tw_succ]
          have := tw_pos t
          omega
        have l4 : n4 ≤ 2560 := Bt.len hl4 hlt hx4
        have l3 : n3 ≤ 2560 := Bt.len hl3 hlt3 hx3
        have C2 := hid (Plus_bits (hx4.below hb1) hx3 hb1.size (Nat.le_refl _) (by omega) (by omega))
        have B1 := hid (hbel.out.trans (hb1.mono hbel.out.size))
        clear C1 hb1 hx3 hl3 hx4 hl4 hlt hlt3 Ho
        go_wp2_with fail
        refine C2.out.mono ?_
        rintro e w2 ⟨v5, rfl, hb2, hbt⟩
        have B2 := hid (B1.out.trans (hb2.mono B1.out.size))
        have Hbt := hid hbt
        clear hb2 hbt C2
        go_wp2_with fail
        go_roundw
        case rel => exact ⟨t + 1, by omega, by go_num, hid (by rw [Hm.out, Nat.mul_one, Nat.mul_add]; exact Hbt.out), B2⟩
        case measure => simp [intOf]; omega
    · obtain rfl : t = m := by omega
      have hmo := Nat.mod_eq_of_lt Hy.out.lt
      have Hm := hid hmo
      clear hmo
      go_wp2_with fail
      go_ret
      exact ⟨_, rfl, hbel.out, by have := Ho.out; rwa [Hm.out] at this⟩

section
variable {A D : Option Addr} {n c m d : Nat} {f h : Nat → Nat} {w : World}

set_option maxHeartbeats 1600000 in
theorem rMul_any (ha : Rd w w.heap.size A n c f) (hb : Rd w w.heap.size D m d h) (hn42 : n ≤ 42) (hm42 : m ≤ 42) :
    Calls Try.prog 7 #[.slice A n c, .slice D m d] w (Back w (· = mulErr n f m h) (vl f n * vl h m)) := by
  have Cm := hid (May_any ha)
  have Cn := hid (May_any hb)
  by_cases hf : Fit n f
  · rw [decide_eq_true hf] at Cm
    by_cases hh : Fit m h
    · rw [decide_eq_true hh] at Cn
      have HE := hid (show mulErr n f m h = overErr (vl f n * vl h m) from if_pos ⟨hf, hh⟩)
      have HV1 := hid (vl_pw40 ha hf)
      have HV2 := hid (vl_pw40 hb hh)
      have Cd := hid (Digits_any ha hn42)
      have Hb := hid hb
      clear ha hb hf hh
      go_enter Try.func7, Try.ntmps7
      go_wp2_with fail
      refine Cm.out.mono ?_
      rintro e w' ⟨rfl, rfl⟩
      go_wp2_with fail
      refine Cn.out.mono ?_
      rintro e w' ⟨rfl, rfl⟩
      go_wp2_with fail
      refine Cd.out.mono ?_
      rintro e w1 ⟨v1, rfl, hbel1, hx1⟩
      have Ce := hid (Digits_any ((Hb.out.below hbel1).mono hbel1.size) hm42)
      have Hbel1 := hid hbel1
      have Hx1 := hid hx1
      clear hbel1 hx1 Cd Cm Cn
      go_wp2_with fail
      refine Ce.out.mono ?_
      rintro e w2 ⟨v2, rfl, hbel2, hx2⟩
      have Co := hid (Times_any ((Hx1.out.below hbel2).mono hbel2.size) hx2 HV1.out HV2.out)
      have Hbel2 := hid (Hbel1.out.trans (hbel2.mono Hbel1.out.size))
      clear hbel2 hx2 Ce
      go_wp2_with fail
      refine Co.out.mono ?_
      rintro e w3 ⟨v3, rfl, hbel3, hb3⟩
      have Ct := hid (told_any hb3 (Nat.le_refl _) (Nat.lt_of_lt_of_le (mul_tw (pw40_tw HV1.out) (pw40_tw HV2.out)) (tw_mono (by omega))))
      have Hbel3 := hid (Hbel2.out.trans (hbel3.mono Hbel2.out.size))
      clear hbel3 hb3 Co
      go_wp2_with fail
      refine Ct.out.mono ?_
      rintro e w4 ⟨v4, er, rfl, HE4, HV4, Hbel4⟩
      clear Ct
      go_wp2
      go_ret2
      exact ⟨v4, er, rfl, hid (HE4.out.trans HE.out.symm), HV4, hid (Hbel3.out.trans (Hbel4.out.mono Hbel3.out.size))⟩
    · rw [decide_eq_false hh] at Cn
      have HE := hid (show mulErr n f m h = 8 from if_neg (fun x => hh x.2))
      clear ha hb hf hh
      go_enter Try.func7, Try.ntmps7
      go_wp2_with fail
      refine Cm.out.mono ?_
      rintro e w' ⟨rfl, rfl⟩
      go_wp2_with fail
      refine Cn.out.mono ?_
      rintro e w' ⟨rfl, rfl⟩
      go_wp2
      go_ret2
      exact ⟨_, 8, rfl, hid HE.out.symm, by rw [resV_bad (by decide)]; exact Val.nil _, Below.refl _ _⟩
  · rw [decide_eq_false hf] at Cm
    have HE := hid (show mulErr n f m h = 8 from if_neg (fun x => hf x.1))
    clear ha hb hf
    go_enter Try.func7, Try.ntmps7
    go_wp2_with fail
    refine Cm.out.mono ?_
    rintro e w' ⟨rfl, rfl⟩
    go_wp2
    go_ret2
    exact ⟨_, 8, rfl, hid HE.out.symm, by rw [resV_bad (by decide)]; exact Val.nil _, Below.refl _ _⟩
end

end Go.Proofs.Ytflegkefgbifcaa
