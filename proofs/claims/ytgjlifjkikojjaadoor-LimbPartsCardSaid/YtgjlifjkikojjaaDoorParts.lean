/- The law LimbParts, walked: for any two slices it returns true, and turns no memory that was there. -/
import Derived.Test.YtgjlifjkikojjaaDoorAlive
namespace Go.Proofs.YtgjlifjkikojjaaDoor
open Go.RowKit

set_option maxHeartbeats 3200000 in
theorem parts_walk {A D : Option Addr} {n c m d : Nat} {f h : Nat → Nat} {w : World} (ha : Rd w w.heap.size A n c f) (hb : Rd w w.heap.size D m d h) (hT : Tab w) :
    Calls Tryd.prog 6 #[.slice A n c, .slice D m d] w (Alive w) := by
  have Cl := hid (alive_any hT)
  have hac := ha.cap
  have ham := ha.max
  have hbc := hb.cap
  have hbm := hb.max
  have Ha := hid ha
  have Hb := hid hb
  clear ha hb hT
  go_enter Tryd.func6, Tryd.ntmps6
  go_wp2_with fail
  refine Cl.out.mono ?_
  rintro e w1 ⟨rfl, hb1⟩
  have B1 := hid hb1
  have Ha := hid (Ha.out.below hb1)
  have Hb := hid (Hb.out.below hb1)
  have Hs := hid hb1.size
  clear hb1
  by_cases hn : (42 : Int) < (n : Int)
  · have hd : decide ((42 : Int) < (n : Int)) = true := by simpa using hn
    have Cg := hid (great_any A n c w1 (by omega))
    rw [hd] at Cg
    clear hd
    go_wp2_with fail
    refine Cg.out.mono ?_
    rintro e w' ⟨rfl, rfl⟩
    go_wp2_with fail
    go_ret
    exact ⟨rfl, B1.out⟩
  have hd : decide ((42 : Int) < (n : Int)) = false := by simpa using hn
  have Cg := hid (great_any A n c w1 (by omega))
  rw [hd] at Cg
  clear hd
  go_wp2_with fail
  refine Cg.out.mono ?_
  rintro e w' ⟨rfl, rfl⟩
  by_cases hm : (42 : Int) < (m : Int)
  · have hd : decide ((42 : Int) < (m : Int)) = true := by simpa using hm
    have Cg := hid (great_any D m d w1 (by omega))
    rw [hd] at Cg
    clear hd
    go_wp2_with fail
    refine Cg.out.mono ?_
    rintro e w' ⟨rfl, rfl⟩
    go_wp2_with fail
    go_ret
    exact ⟨rfl, B1.out⟩
  have hd : decide ((42 : Int) < (m : Int)) = false := by simpa using hm
  have Cg := hid (great_any D m d w1 (by omega))
  rw [hd] at Cg
  clear hd
  go_wp2_with fail
  refine Cg.out.mono ?_
  rintro e w' ⟨rfl, rfl⟩
  have Cd := hid (div_any (w := w1) (Ha.out.mono Hs.out) (Hb.out.mono Hs.out))
  go_wp2_with fail
  refine Cd.out.mono ?_
  rintro e w2 ⟨hb2, q, r, rfl, hgood, hbad⟩
  have B2 := hid (B1.out.trans (hb2.mono Hs.out))
  by_cases he : divErr n f m h = 0
  · obtain ⟨hq, hr⟩ := hgood he
    rw [he]
    have hfit : Fit n f ∧ Fit m h := by
      unfold divErr at he
      by_cases h1 : Fit n f ∧ Fit m h
      · exact h1
      · rw [if_neg h1] at he; cases he
    have hm0 : 0 < m := by
      rcases Nat.eq_zero_or_pos m with h0 | h0
      · unfold divErr at he
        rw [if_pos hfit, if_pos h0] at he
        cases he
      · exact h0
    have hW : 0 < vl h m := by
      have a := vl_ge hm0 (hfit.2.2 hm0)
      have b := pw_pos (m - 1)
      omega
    have hVe : vl f n / vl h m * vl h m + vl f n % vl h m = vl f n := by rw [Nat.mul_comm]; exact Nat.div_add_mod _ _
    have hV40 := vl_pw40 Ha.out hfit.1
    have Va := hid ((Ha.out.val Hs.out hfit.1).below hb2)
    have Vb := hid ((Hb.out.val Hs.out hfit.2).below hb2)
    have Vq := hid hq.val
    have Vr := hid hr.val
    have hcmp : cmpN (vl f n % vl h m) (vl h m) = -1 := cmpN_lt (Nat.mod_lt _ hW)
    have Hcmp := hid hcmp
    have HVe := hid hVe
    have HV40 := hid hV40
    clear hgood hbad hb2 hq hr he hW hVe hV40 hcmp
    generalize vl f n / vl h m = Q at *
    generalize vl f n % vl h m = R at *
    generalize hV : vl f n = V at *
    generalize vl h m = W at *
    clear hV
    go_wp2_with fail
    refine (cmp_val Vr.out Vb.out).mono ?_
    rintro e w3 ⟨rfl, hb3⟩
    rw [Hcmp.out]
    have Va := hid (Va.out.below hb3)
    have Vb := hid (Vb.out.below hb3)
    have Vq := hid (Vq.out.below hb3)
    have Vr := hid (Vr.out.below hb3)
    have B3 := hid (B2.out.trans (hb3.mono B2.out.size))
    clear hb3
    go_wp2_with fail
    refine (mul_ok Vq.out Vb.out (by have a := HVe.out; have b := HV40.out; omega)).mono ?_
    rintro e w4 ⟨p, rfl, hn4, hb4⟩
    have Va := hid (Va.out.below hb4)
    have Vr := hid (Vr.out.below hb4)
    have Vp := hid hn4.val
    have B4 := hid (B3.out.trans (hb4.mono B3.out.size))
    clear hb4 hn4
    go_wp2_with fail
    refine (add_ok Vp.out Vr.out (by have a := HVe.out; have b := HV40.out; omega)).mono ?_
    rintro e w5 ⟨s, rfl, hn5, hb5⟩
    have Va := hid (Va.out.below hb5)
    have Vs := hid hn5.val
    have B5 := hid (B4.out.trans (hb5.mono B4.out.size))
    clear hb5 hn5
    go_wp2_with fail
    refine (same_val Vs.out Va.out).mono ?_
    rintro e w6 ⟨rfl, hb6⟩
    rw [show decide (Q * W + R = V) = true by simpa using HVe.out]
    have B6 := hid (B5.out.trans (hb6.mono B5.out.size))
    clear hb6
    go_wp2
    go_ret
    exact ⟨rfl, B6.out⟩
  · have hz := hbad he
    obtain ⟨rfl, rfl⟩ := hz
    have hne : (divErr n f m h != 0) = true := by simpa using he
    clear hgood hbad hb2
    generalize divErr n f m h = er at *
    go_wp2_with fail
    go_ret
    exact ⟨rfl, B2.out⟩

end Go.Proofs.YtgjlifjkikojjaaDoor
