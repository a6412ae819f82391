/- The reference's Div. -/
import Derived.Test.YtflegkefgbifcaaRinto
namespace Go.Proofs.Ytflegkefgbifcaa
open Go.RowKit

/-- What Div hands back. -/
def RDiv (w : World) (er : Int) (Q R : Nat) (e : Ending) (w' : World) : Prop := ∃ v1 v2, e = .returned (.tuple #[v1, v2, .int .i64 er]) ∧ Hid (Val w' (resV er Q) v1) ∧ Hid (Val w' (resV er R) v2) ∧ Hid (Below w.heap.size w w')
theorem RDiv.bad {w w' : World} {er : Int} {Q R : Nat} (h : er ≠ 0) (hb : Below w.heap.size w w') : RDiv w er Q R (.returned (.tuple #[.slice none 0 0, .slice none 0 0, .int .i64 er])) w' :=
  ⟨_, _, rfl, by rw [resV_bad h]; exact Val.nil _, by rw [resV_bad h]; exact Val.nil _, hb⟩

section
variable {A D : Option Addr} {n c m d : Nat} {f h : Nat → Nat} {w : World}
set_option maxHeartbeats 1600000 in
theorem rDiv_any (ha : Rd w w.heap.size A n c f) (hb : Rd w w.heap.size D m d h) (hn42 : n ≤ 42) (hm42 : m ≤ 42) :
    Calls Try.prog 9 #[.slice A n c, .slice D m d] w (RDiv w (divErr n f m h) (vl f n / vl h m) (vl f n % vl h m)) := by
  have Cm := hid (May_any ha)
  have Cn := hid (May_any hb)
  by_cases hf : Fit n f
  · rw [decide_eq_true hf] at Cm
    by_cases hh : Fit m h
    · rw [decide_eq_true hh] at Cn
      rcases Nat.eq_zero_or_pos m with h0 | h0
      · have hE : divErr n f m h = 2 := by unfold divErr; rw [if_pos ⟨hf, hh⟩, if_pos h0]
        subst h0
        rw [hE]
        clear ha hb hf hh hE
        go_enter Try.func9, Try.ntmps9
        go_wp2_with fail
        refine Cm.out.mono ?_
        rintro e w' ⟨rfl, rfl⟩
        go_wp2_with fail
        refine Cn.out.mono ?_
        rintro e w' ⟨rfl, rfl⟩
        go_wp2
        go_ret3
        exact RDiv.bad (by decide) (Below.refl _ _)
      · have hE : divErr n f m h = 0 := by unfold divErr; rw [if_pos ⟨hf, hh⟩, if_neg (by omega)]
        have hnz : (((m : Nat) : Int) == 0) = false := by simp; omega
        have HV1 := hid (vl_pw40 ha hf)
        have HV2 := hid (vl_pw40 hb hh)
        have hp : 0 < vl h m := by
          have a := vl_ge (f := h) (k := m) h0 (hh.2 h0)
          have b := pw_pos (m - 1)
          omega
        have Hp := hid hp
        rw [hE]
        have Cd := hid (Digits_any ha hn42)
        have Hb := hid hb
        clear ha hb hf hh hE hp
        go_enter Try.func9, Try.ntmps9
        go_wp2_with fail
        refine Cm.out.mono ?_
        rintro e w' ⟨rfl, rfl⟩
        go_wp2_with fail
        refine Cn.out.mono ?_
        rintro e w' ⟨rfl, rfl⟩
        go_wp2_with fail
        refine Cd.out.mono ?_
        rintro e w1 ⟨v1, rfl, hbel1, hx1⟩
        have Ce := hid (Digits_any ((Hb.out.below hbel1).mono hbel1.size) hm42)
        have Hbel1 := hid hbel1
        have Hx1 := hid hx1
        clear hbel1 hx1 Cd Cm Cn
        go_wp2_with fail
        refine Ce.out.mono ?_
        rintro e w2 ⟨v2, rfl, hbel2, hx2⟩
        have Co := hid (Into_any ((Hx1.out.below hbel2).mono hbel2.size) hx2 HV1.out HV2.out Hp.out)
        have Hbel2 := hid (Hbel1.out.trans (hbel2.mono Hbel1.out.size))
        clear hbel2 hx2 Ce
        go_wp2_with fail
        refine Co.out.mono ?_
        rintro e w3 ⟨q, r, rfl, Hbel3, Hq, Hr⟩
        have HQ := hid (show vl f n / vl h m < pw 40 from Nat.lt_of_le_of_lt (Nat.div_le_self _ _) HV1.out)
        have HR := hid (show vl f n % vl h m < pw 40 from Nat.lt_trans (Nat.mod_lt _ Hp.out) HV2.out)
        have h40 : pw 40 ≤ tw 4000 := by rw [tw_pw]; exact tw_mono (by omega)
        have Cq := hid (Limbs_any Hq.out (Nat.le_refl _) (Nat.lt_of_lt_of_le HQ.out h40))
        have B3 := hid (Hbel2.out.trans (Hbel3.out.mono Hbel2.out.size))
        have H40 := hid h40
        clear Co h40
        go_wp2_with fail
        refine Cq.out.mono ?_
        rintro e w4 ⟨v4, rfl, hb4, hl4⟩
        have Cr := hid (Limbs_any ((Hr.out.below hb4).mono hb4.size) (Nat.le_refl _) (Nat.lt_of_lt_of_le HR.out H40.out))
        have B4 := hid (B3.out.trans (hb4.mono B3.out.size))
        have V4 := hid (lm_val hl4 HQ.out)
        clear Cq hb4 hl4
        go_wp2_with fail
        refine Cr.out.mono ?_
        rintro e w5 ⟨v5, rfl, hb5, hl5⟩
        have B5 := hid (B4.out.trans (hb5.mono B4.out.size))
        have V5 := hid (lm_val hl5 HR.out)
        have V4 := hid (V4.out.below hb5)
        clear Cr hb5 hl5
        go_wp2
        go_ret3
        exact ⟨_, _, rfl, V4, V5, B5⟩
    · rw [decide_eq_false hh] at Cn
      have hE : divErr n f m h = 8 := if_neg (fun x => hh x.2)
      rw [hE]
      clear ha hb hf hh hE
      go_enter Try.func9, Try.ntmps9
      go_wp2_with fail
      refine Cm.out.mono ?_
      rintro e w' ⟨rfl, rfl⟩
      go_wp2_with fail
      refine Cn.out.mono ?_
      rintro e w' ⟨rfl, rfl⟩
      go_wp2
      go_ret3
      exact RDiv.bad (by decide) (Below.refl _ _)
  · rw [decide_eq_false hf] at Cm
    have hE : divErr n f m h = 8 := if_neg (fun x => hf x.1)
    rw [hE]
    clear ha hb hf hE
    go_enter Try.func9, Try.ntmps9
    go_wp2_with fail
    refine Cm.out.mono ?_
    rintro e w' ⟨rfl, rfl⟩
    go_wp2
    go_ret3
    exact RDiv.bad (by decide) (Below.refl _ _)
end

end Go.Proofs.Ytflegkefgbifcaa
