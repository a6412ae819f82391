/- The reference's Check, Cmp, Add, Sub. -/
import Derived.Test.YtgjlifjkikojjaaRplus
import Derived.Test.YtgjlifjkikojjaaRtold
import Derived.Test.YtgjlifjkikojjaaSub
namespace Go.Proofs.Ytgjlifjkikojjaa
open Go.RowKit

theorem rCheck_any {B : Nat} {A : Option Addr} {n c : Nat} {f : Nat → Nat} {w : World} (h : Rd w B A n c f) :
    Calls Try.prog 13 #[.slice A n c] w fun e w' => e = .returned (.int .i64 (chk n f)) ∧ w = w' := by
  have Cm := hid (May_any h)
  by_cases hf : Fit n f
  · rw [decide_eq_true hf] at Cm
    rw [chk_fit hf]
    clear h hf
    go_enter Try.func13, Try.ntmps13
    go_wp2_with fail
    refine Cm.out.mono ?_
    rintro e w' ⟨rfl, rfl⟩
    go_wp2
    go_ret
    exact ⟨rfl, rfl⟩
  · rw [decide_eq_false hf] at Cm
    rw [chk_bad hf]
    clear h hf
    go_enter Try.func13, Try.ntmps13
    go_wp2_with fail
    refine Cm.out.mono ?_
    rintro e w' ⟨rfl, rfl⟩
    go_wp2
    go_ret
    exact ⟨rfl, rfl⟩

section
variable {A D : Option Addr} {n c m d : Nat} {f h : Nat → Nat} {w : World}

theorem Bt.le4000 {w : World} {B V : Nat} {A : Option Addr} {n c : Nat} (_h : Bits w B A n c V) (hl : 0 < n → tw (n - 1) ≤ V) (hV : V < pw 40) : n ≤ 1280 := by
  rw [tw_pw, show 32 * 40 = 1280 from rfl] at hV
  rcases Nat.lt_or_ge 1280 n with h1 | h1
  · have a := hl (by omega)
    have b : tw 1280 ≤ tw (n - 1) := tw_mono (by omega)
    omega
  · exact h1

set_option maxHeartbeats 1600000 in
theorem rCmp_any (ha : Rd w w.heap.size A n c f) (hb : Rd w w.heap.size D m d h) (hn42 : n ≤ 42) (hm42 : m ≤ 42) :
    Calls Try.prog 7 #[.slice A n c, .slice D m d] w (TwoInts w (cmpRes n f m h) (cmpErr n f m h)) := by
  have Cm := hid (May_any ha)
  have Cn := hid (May_any hb)
  by_cases hf : Fit n f
  · rw [decide_eq_true hf] at Cm
    by_cases hh : Fit m h
    · rw [decide_eq_true hh] at Cn
      have HR := hid (show cmpRes n f m h = cmpN (vl f n) (vl h m) from if_pos ⟨hf, hh⟩)
      have HE := hid (show cmpErr n f m h = 0 from if_pos ⟨hf, hh⟩)
      have Cd := hid (Digits_any ha hn42)
      have Hb := hid hb
      clear ha hb hf hh
      go_enter Try.func7, Try.ntmps7
      go_wp2_with fail
      refine Cm.out.mono ?_
      rintro e w' ⟨rfl, rfl⟩
      go_wp2_with fail
      refine Cn.out.mono ?_
      rintro e w' ⟨rfl, rfl⟩
      go_wp2_with fail
      refine Cd.out.mono ?_
      rintro e w1 ⟨v1, rfl, hbel1, A1, n1, c1, rfl, hx1, _⟩
      have Ce := hid (Digits_any ((Hb.out.below hbel1).mono hbel1.size) hm42)
      have Hbel1 := hid hbel1
      have Hx1 := hid hx1
      clear hbel1 hx1 Cd Cm Cn
      go_wp2_with fail
      refine Ce.out.mono ?_
      rintro e w2 ⟨v2, rfl, hbel2, A2, n2, c2, rfl, hx2, _⟩
      have Co := hid (Order_any (Hx1.out.below hbel2) hx2)
      have Hbel2 := hid (Hbel1.out.trans (hbel2.mono Hbel1.out.size))
      clear hbel2 hx2 Ce
      go_wp2_with fail
      refine Co.out.mono ?_
      rintro e w' ⟨rfl, rfl⟩
      go_wp2
      go_ret2
      exact ⟨by rw [HR.out, HE.out]; rfl, Hbel2.out⟩
    · rw [decide_eq_false hh] at Cn
      have HR := hid (show cmpRes n f m h = 0 from if_neg (fun x => hh x.2))
      have HE := hid (show cmpErr n f m h = 8 from if_neg (fun x => hh x.2))
      clear ha hb hf hh
      go_enter Try.func7, Try.ntmps7
      go_wp2_with fail
      refine Cm.out.mono ?_
      rintro e w' ⟨rfl, rfl⟩
      go_wp2_with fail
      refine Cn.out.mono ?_
      rintro e w' ⟨rfl, rfl⟩
      go_wp2
      go_ret2
      exact ⟨by rw [HR.out, HE.out]; rfl, Below.refl _ _⟩
  · rw [decide_eq_false hf] at Cm
    have HR := hid (show cmpRes n f m h = 0 from if_neg (fun x => hf x.1))
    have HE := hid (show cmpErr n f m h = 8 from if_neg (fun x => hf x.1))
    clear ha hb hf
    go_enter Try.func7, Try.ntmps7
    go_wp2_with fail
    refine Cm.out.mono ?_
    rintro e w' ⟨rfl, rfl⟩
    go_wp2
    go_ret2
    exact ⟨by rw [HR.out, HE.out]; rfl, Below.refl _ _⟩

set_option maxHeartbeats 1600000 in
theorem rAdd_any (ha : Rd w w.heap.size A n c f) (hb : Rd w w.heap.size D m d h) (hn42 : n ≤ 42) (hm42 : m ≤ 42) :
    Calls Try.prog 9 #[.slice A n c, .slice D m d] w (Back w (· = addErr n f m h) (vl f n + vl h m)) := by
  have Cm := hid (May_any ha)
  have Cn := hid (May_any hb)
  by_cases hf : Fit n f
  · rw [decide_eq_true hf] at Cm
    by_cases hh : Fit m h
    · rw [decide_eq_true hh] at Cn
      have HE := hid (show addErr n f m h = overErr (vl f n + vl h m) from if_pos ⟨hf, hh⟩)
      have HV1 := hid (vl_pw40 ha hf)
      have HV2 := hid (vl_pw40 hb hh)
      have Cd := hid (Digits_any ha hn42)
      have Hb := hid hb
      clear ha hb hf hh
      go_enter Try.func9, Try.ntmps9
      go_wp2_with fail
      refine Cm.out.mono ?_
      rintro e w' ⟨rfl, rfl⟩
      go_wp2_with fail
      refine Cn.out.mono ?_
      rintro e w' ⟨rfl, rfl⟩
      go_wp2_with fail
      refine Cd.out.mono ?_
      rintro e w1 ⟨v1, rfl, hbel1, A1, n1, c1, rfl, hx1, hl1⟩
      have Ce := hid (Digits_any ((Hb.out.below hbel1).mono hbel1.size) hm42)
      have Hbel1 := hid hbel1
      have Hx1 := hid hx1
      have h41 := Bt.le4000 hx1 hl1 HV1.out
      clear hbel1 hx1 hl1 Cd Cm Cn
      go_wp2_with fail
      refine Ce.out.mono ?_
      rintro e w2 ⟨v2, rfl, hbel2, A2, n2, c2, rfl, hx2, hl2⟩
      have h42 := Bt.le4000 hx2 hl2 HV2.out
      have Co := hid (Plus_bits (Hx1.out.below hbel2) hx2 hbel2.size (Nat.le_refl _) (by omega) (by omega))
      have Hbel2 := hid (Hbel1.out.trans (hbel2.mono Hbel1.out.size))
      clear hbel2 hx2 hl2 Ce
      go_wp2_with fail
      refine Co.out.mono ?_
      rintro e w3 ⟨v3, rfl, hbel3, hb3⟩
      have Ct := hid (told_any hb3 (Nat.le_refl _) (by
        refine Nat.lt_of_lt_of_le (add_lt (n := 1280) (m := 1280) (by have := HV1.out; rwa [tw_pw] at this) (by have := HV2.out; rwa [tw_pw] at this) (Nat.le_refl _)) ?_
        exact tw_mono (by omega)))
      have Hbel3 := hid (Hbel2.out.trans (hbel3.mono Hbel2.out.size))
      clear hbel3 hb3 Co
      go_wp2_with fail
      refine Ct.out.mono ?_
      rintro e w4 ⟨v4, er, rfl, HE4, HV4, Hbel4⟩
      clear Ct
      go_wp2
      go_ret2
      exact ⟨v4, er, rfl, hid (HE4.out.trans HE.out.symm), HV4, hid (Hbel3.out.trans (Hbel4.out.mono Hbel3.out.size))⟩
    · rw [decide_eq_false hh] at Cn
      have HE := hid (show addErr n f m h = 8 from if_neg (fun x => hh x.2))
      clear ha hb hf hh
      go_enter Try.func9, Try.ntmps9
      go_wp2_with fail
      refine Cm.out.mono ?_
      rintro e w' ⟨rfl, rfl⟩
      go_wp2_with fail
      refine Cn.out.mono ?_
      rintro e w' ⟨rfl, rfl⟩
      go_wp2
      go_ret2
      exact ⟨_, 8, rfl, hid HE.out.symm, by rw [resV_bad (by decide)]; exact Val.nil _, Below.refl _ _⟩
  · rw [decide_eq_false hf] at Cm
    have HE := hid (show addErr n f m h = 8 from if_neg (fun x => hf x.1))
    clear ha hb hf
    go_enter Try.func9, Try.ntmps9
    go_wp2_with fail
    refine Cm.out.mono ?_
    rintro e w' ⟨rfl, rfl⟩
    go_wp2
    go_ret2
    exact ⟨_, 8, rfl, hid HE.out.symm, by rw [resV_bad (by decide)]; exact Val.nil _, Below.refl _ _⟩

set_option maxHeartbeats 1600000 in
theorem rSub_any (ha : Rd w w.heap.size A n c f) (hb : Rd w w.heap.size D m d h) (hn42 : n ≤ 42) (hm42 : m ≤ 42) :
    Calls Try.prog 11 #[.slice A n c, .slice D m d] w (Back w (· = subErr n f m h) (vl f n - vl h m)) := by
  have Cc := hid (rCmp_any ha hb hn42 hm42)
  by_cases hf : Fit n f ∧ Fit m h
  · rw [show cmpErr n f m h = 0 from if_pos hf, show cmpRes n f m h = cmpN (vl f n) (vl h m) from if_pos hf] at Cc
    by_cases hlt : vl f n < vl h m
    · rw [cmpN_lt hlt] at Cc
      have HE := hid (show subErr n f m h = 11 by unfold subErr; rw [if_pos hf, if_pos hlt])
      clear ha hb hf hlt
      go_enter Try.func11, Try.ntmps11
      go_wp2_with fail
      refine Cc.out.mono ?_
      rintro e w1 ⟨rfl, hbel1⟩
      have Hbel1 := hid hbel1
      clear hbel1 Cc
      go_wp2
      go_ret2
      exact ⟨_, 11, rfl, hid HE.out.symm, hid (by rw [resV_bad (by decide)]; exact Val.nil _), Hbel1⟩
    · have h0 : ¬ cmpN (vl f n) (vl h m) < 0 := by unfold cmpN; rw [if_neg hlt]; split <;> omega
      have HE := hid (show subErr n f m h = 0 by unfold subErr; rw [if_pos hf, if_neg hlt])
      have HV1 := hid (vl_pw40 ha hf.1)
      have HV2 := hid (vl_pw40 hb hf.2)
      have HVU := hid (show vl h m ≤ vl f n by omega)
      have Ha := hid ha
      have Hb := hid hb
      generalize cmpN (vl f n) (vl h m) = r at *
      clear ha hb hf hlt
      go_enter Try.func11, Try.ntmps11
      go_wp2_with fail
      refine Cc.out.mono ?_
      rintro e w0 ⟨rfl, hbel0⟩
      have Hbel0 := hid hbel0
      have Cd := hid (Digits_any ((Ha.out.below hbel0).mono hbel0.size) hn42)
      clear hbel0 Cc
      go_wp2_with fail
      refine Cd.out.mono ?_
      rintro e w1 ⟨v1, rfl, hbel1, A1, n1, c1, rfl, hx1, hl1⟩
      have Hbel1 := hid (Hbel0.out.trans (hbel1.mono Hbel0.out.size))
      have Ce := hid (Digits_any ((Hb.out.below Hbel1.out).mono Hbel1.out.size) hm42)
      have Hx1 := hid hx1
      have h41 := Bt.le4000 hx1 hl1 HV1.out
      clear hbel1 hx1 hl1 Cd
      go_wp2_with fail
      refine Ce.out.mono ?_
      rintro e w2 ⟨v2, rfl, hbel2, A2, n2, c2, rfl, hx2, hl2⟩
      have Co := hid (Minus_bits (Hx1.out.below hbel2) hx2 hbel2.size (Nat.le_refl _) (by omega) HVU.out)
      have Hbel2 := hid (Hbel1.out.trans (hbel2.mono Hbel1.out.size))
      clear hbel2 hx2 hl2 Ce
      go_wp2_with fail
      refine Co.out.mono ?_
      rintro e w3 ⟨v3, rfl, hbel3, hb3⟩
      have HV3 := hid (Nat.lt_of_le_of_lt (Nat.sub_le (vl f n) (vl h m)) HV1.out)
      have Ct := hid (told_any hb3 (Nat.le_refl _) (by
        refine Nat.lt_of_lt_of_le HV3.out ?_
        rw [tw_pw]
        exact tw_mono (by omega)))
      have Hbel3 := hid (Hbel2.out.trans (hbel3.mono Hbel2.out.size))
      clear hbel3 hb3 Co
      go_wp2_with fail
      refine Ct.out.mono ?_
      rintro e w4 ⟨v4, er, rfl, HE4, HV4, Hbel4⟩
      clear Ct
      go_wp2
      go_ret2
      exact ⟨v4, er, rfl, hid (HE4.out.trans ((if_pos HV3.out).trans HE.out.symm)), HV4, hid (Hbel3.out.trans (Hbel4.out.mono Hbel3.out.size))⟩
  · rw [show cmpErr n f m h = 8 from if_neg hf, show cmpRes n f m h = 0 from if_neg hf] at Cc
    have HE := hid (show subErr n f m h = 8 from if_neg hf)
    clear ha hb hf
    go_enter Try.func11, Try.ntmps11
    go_wp2_with fail
    refine Cc.out.mono ?_
    rintro e w1 ⟨rfl, hbel1⟩
    have Hbel1 := hid hbel1
    clear hbel1 Cc
    go_wp2
    go_ret2
    exact ⟨_, 8, rfl, hid HE.out.symm, hid (by rw [resV_bad (by decide)]; exact Val.nil _), Hbel1⟩

end
end Go.Proofs.Ytgjlifjkikojjaa
