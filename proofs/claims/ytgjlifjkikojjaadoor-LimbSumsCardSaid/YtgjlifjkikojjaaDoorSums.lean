/- The law LimbSums, walked: for any three slices it returns true, and turns no memory that was there. -/
import Derived.Test.YtgjlifjkikojjaaDoorArg
namespace Go.Proofs.YtgjlifjkikojjaaDoor
open Go.RowKit

set_option maxHeartbeats 6400000 in
set_option maxRecDepth 1000000 in
theorem sums_walk {A D G : Option Addr} {n c m d l o : Nat} {f h g : Nat → Nat} {w : World} (ha : Rd w w.heap.size A n c f) (hb : Rd w w.heap.size D m d h) (hg : Rd w w.heap.size G l o g) (hT : Tab w) :
    Calls Tryd.prog 5 #[.slice A n c, .slice D m d, .slice G l o] w (Alive w) := by
  have Cl := hid (alive_any hT)
  have hac := ha.cap
  have ham := ha.max
  have hbc := hb.cap
  have hbm := hb.max
  have hgc := hg.cap
  have hgm := hg.max
  have hU0 : m = 0 → vl h m = 0 := fun h0 => by subst h0; rfl
  have hU1 : 0 < m → Fit m h → 0 < vl h m := fun h0 hf => by
    have a := vl_ge h0 (hf.2 h0)
    have b := pw_pos (m - 1)
    omega
  have HU0 := hid hU0
  have HU1 := hid hU1
  have Aa := hid (ha.arg (Nat.le_refl _))
  have Ab := hid (hb.arg (Nat.le_refl _))
  have Ag := hid (hg.arg (Nat.le_refl _))
  clear ha hb hg hT hU0 hU1
  generalize hp : Fit n f = p at *
  generalize hq : Fit m h = q at *
  generalize hr : Fit l g = r at *
  generalize vl f n = V at *
  generalize vl h m = U at *
  generalize vl g l = W at *
  clear hp hq hr
  go_enter Tryd.func5, Tryd.ntmps5
  go_wp2_with fail
  refine Cl.out.mono ?_
  rintro e w1 ⟨rfl, hb1⟩
  have B1 := hid hb1
  have Aa := hid (Aa.out.below hb1)
  have Ab := hid (Ab.out.below hb1)
  have Ag := hid (Ag.out.below hb1)
  clear hb1
  by_cases hn : (42 : Int) < (n : Int)
  · have Cg := hid (great_any A n c w1 (by omega))
    rw [decide_eq_true hn] at Cg
    go_wp2_with fail
    refine Cg.out.mono ?_
    rintro e w' ⟨rfl, rfl⟩
    go_wp2_with fail
    go_ret
    exact ⟨rfl, B1.out⟩
  have Cg := hid (great_any A n c w1 (by omega))
  rw [decide_eq_false hn] at Cg
  go_wp2_with fail
  refine Cg.out.mono ?_
  rintro e w' ⟨rfl, rfl⟩
  by_cases hm : (42 : Int) < (m : Int)
  · have Cg := hid (great_any D m d w1 (by omega))
    rw [decide_eq_true hm] at Cg
    go_wp2_with fail
    refine Cg.out.mono ?_
    rintro e w' ⟨rfl, rfl⟩
    go_wp2_with fail
    go_ret
    exact ⟨rfl, B1.out⟩
  have Cg := hid (great_any D m d w1 (by omega))
  rw [decide_eq_false hm] at Cg
  go_wp2_with fail
  refine Cg.out.mono ?_
  rintro e w' ⟨rfl, rfl⟩
  by_cases hl : (42 : Int) < (l : Int)
  · have Cg := hid (great_any G l o w1 (by omega))
    rw [decide_eq_true hl] at Cg
    go_wp2_with fail
    refine Cg.out.mono ?_
    rintro e w' ⟨rfl, rfl⟩
    go_wp2_with fail
    go_ret
    exact ⟨rfl, B1.out⟩
  have Cg := hid (great_any G l o w1 (by omega))
  rw [decide_eq_false hl] at Cg
  go_wp2_with fail
  refine Cg.out.mono ?_
  rintro e w' ⟨rfl, rfl⟩
  clear Cg
  go_wp2_with fail
  refine (add_arg Aa.out Ab.out).mono ?_
  rintro e w2 ⟨vx, ex, rfl, Ex, Vx, hb2⟩
  have Aa := hid (Aa.out.below hb2.out)
  have Ab := hid (Ab.out.below hb2.out)
  have Ag := hid (Ag.out.below hb2.out)
  have B2 := hid (B1.out.trans (hb2.out.mono B1.out.size))
  clear hb2
  go_wp2_with fail
  refine (add_arg Ab.out Aa.out).mono ?_
  rintro e w3 ⟨vy, ey, rfl, Ey, Vy, hb3⟩
  obtain rfl := Errs.uniq Ex.out Ey.out ⟨fun h => ⟨h.2, h.1⟩, fun h => ⟨h.2, h.1⟩⟩ (Nat.add_comm _ _)
  have Aa := hid (Aa.out.below hb3.out)
  have Ab := hid (Ab.out.below hb3.out)
  have Ag := hid (Ag.out.below hb3.out)
  have Vx := hid (Vx.out.below hb3.out)
  have B3 := hid (B2.out.trans (hb3.out.mono B2.out.size))
  clear hb3
  rw [Nat.add_comm U V] at Vy
  go_wp2_with fail
  refine (mul_arg Aa.out Ab.out).mono ?_
  rintro e w4 ⟨vp, ep, rfl, Ep, Vp, hb4⟩
  have Aa := hid (Aa.out.below hb4.out)
  have Ab := hid (Ab.out.below hb4.out)
  have Ag := hid (Ag.out.below hb4.out)
  have Vx := hid (Vx.out.below hb4.out)
  have Vy := hid (Vy.out.below hb4.out)
  have B4 := hid (B3.out.trans (hb4.out.mono B3.out.size))
  clear hb4
  go_wp2_with fail
  refine (mul_arg Ab.out Aa.out).mono ?_
  rintro e w5 ⟨vq, eq', rfl, Eq', Vq, hb5⟩
  obtain rfl := Errs.uniq Ep.out Eq'.out ⟨fun h => ⟨h.2, h.1⟩, fun h => ⟨h.2, h.1⟩⟩ (Nat.mul_comm _ _)
  have Aa := hid (Aa.out.below hb5.out)
  have Ab := hid (Ab.out.below hb5.out)
  have Ag := hid (Ag.out.below hb5.out)
  have Vx := hid (Vx.out.below hb5.out)
  have Vy := hid (Vy.out.below hb5.out)
  have Vp := hid (Vp.out.below hb5.out)
  have B5 := hid (B4.out.trans (hb5.out.mono B4.out.size))
  clear hb5
  rw [Nat.mul_comm U V] at Vq
  go_wp2_with fail
  refine (same_val Vx.out Vy.out).mono ?_
  rintro e w6 ⟨rfl, hb6⟩
  rw [decide_eq_true rfl]
  have Aa := hid (Aa.out.below hb6)
  have Ab := hid (Ab.out.below hb6)
  have Ag := hid (Ag.out.below hb6)
  have Vx := hid (Vx.out.below hb6)
  have Vp := hid (Vp.out.below hb6)
  have Vq := hid (Vq.out.below hb6)
  have B6 := hid (B5.out.trans (hb6.mono B5.out.size))
  clear hb6 Vy
  go_wp2_with fail
  refine (same_val Vp.out Vq.out).mono ?_
  rintro e w7 ⟨rfl, hb7⟩
  rw [decide_eq_true rfl]
  have Aa := hid (Aa.out.below hb7)
  have Ab := hid (Ab.out.below hb7)
  have Ag := hid (Ag.out.below hb7)
  have Vx := hid (Vx.out.below hb7)
  have B7 := hid (B6.out.trans (hb7.mono B6.out.size))
  clear hb7 Vp Vq B1 B2 B3 B4 B5 B6 Cl Ey Ep Eq'
  by_cases hx : ex = 0
  · subst hx
    obtain ⟨⟨hpp, hqq⟩, hlt⟩ := Errs.ok Ex.out
    rw [resV_ok rfl] at Vx
    have Va := hid (Aa.out.val hpp)
    have Vb := hid (Ab.out.val hqq)
    have hcmp : cmpN (V + U) V = if m = 0 then 0 else 1 := by
      by_cases h0 : m = 0
      · rw [if_pos h0, cmpN_eq (by have := HU0.out h0; omega)]
      · rw [if_neg h0, cmpN_gt (by have := HU1.out (by omega) hqq; omega)]
    have Hcmp := hid hcmp
    clear hcmp
    go_wp2_with fail
    refine (sub_ok Vx.out Vb.out (Nat.le_add_left _ _)).mono ?_
    rintro e w8 ⟨vz, rfl, hn8, hb8⟩
    have Vz := hid hn8.val
    have Va := hid (Va.out.below hb8)
    have Aa := hid (Aa.out.below hb8)
    have Ab := hid (Ab.out.below hb8)
    have Ag := hid (Ag.out.below hb8)
    have Vx := hid (Vx.out.below hb8)
    have B8 := hid (B7.out.trans (hb8.mono B7.out.size))
    clear hn8 hb8
    go_wp2_with fail
    refine (cmp_val Vx.out Va.out).mono ?_
    rintro e w9 ⟨rfl, hb9⟩
    rw [Hcmp.out]
    have Vz := hid (Vz.out.below hb9)
    have Va2 := hid (Va.out.below hb9)
    by_cases hm0 : m = 0
    · subst hm0
      rw [if_pos rfl]
      have Ab := hid (Ab.out.below hb9)
      have Ag := hid (Ag.out.below hb9)
      have Aa := hid (Aa.out.below hb9)
      have Vx := hid (Vx.out.below hb9)
      have B9 := hid (B8.out.trans (hb9.mono B8.out.size))
      clear hb9 Va Vb
      go_wp2_with fail
      refine (same_val Vz.out Va2.out).mono ?_
      rintro e w10 ⟨rfl, hb10⟩
      rw [show decide (V + U - U = V) = true by simp]
      have Ab := hid (Ab.out.below hb10)
      have Ag := hid (Ag.out.below hb10)
      have Aa := hid (Aa.out.below hb10)
      have Vx := hid (Vx.out.below hb10)
      have B10 := hid (B9.out.trans (hb10.mono B9.out.size))
      clear hb10 Vz Va2 B7 B8 B9
      go_wp2_with fail
      refine (mul_arg Vx.out.arg Ag.out).mono ?_
      rintro e w11 ⟨vs, es, rfl, Es, Vs, hb11⟩
      have Aa := hid (Aa.out.below hb11.out)
      have Ab := hid (Ab.out.below hb11.out)
      have Ag := hid (Ag.out.below hb11.out)
      have B11 := hid (B10.out.trans (hb11.out.mono B10.out.size))
      clear Es Vx
      go_wp2_with fail
      refine (mul_arg Aa.out Ag.out).mono ?_
      rintro e w12 ⟨vt, et, rfl, Et, Vt, hb12⟩
      have Ab := hid (Ab.out.below hb12.out)
      have Ag := hid (Ag.out.below hb12.out)
      have Vs := hid (Vs.out.below hb12.out)
      have B12 := hid (B11.out.trans (hb12.out.mono B11.out.size))
      clear hb11 hb12 Et
      go_wp2_with fail
      refine (mul_arg Ab.out Ag.out).mono ?_
      rintro e w13 ⟨vu, eu, rfl, Eu, Vu, hb13⟩
      have Vt := hid (Vt.out.below hb13.out)
      have Vs := hid (Vs.out.below hb13.out)
      have B13 := hid (B12.out.trans (hb13.out.mono B12.out.size))
      clear hb13 Eu
      go_wp2_with fail
      refine (add_arg Vt.out.arg Vu.out.arg).mono ?_
      rintro e w14 ⟨vv, ev, rfl, Ev, Vv, hb14⟩
      have Vs := hid (Vs.out.below hb14.out)
      have B14 := hid (B13.out.trans (hb14.out.mono B13.out.size))
      clear hb14 Ev Vt Vu B10 B11 B12 B13
      by_cases h1 : es = 0
      · by_cases h2 : et = 0
        · by_cases h3 : eu = 0
          · by_cases h4 : ev = 0
            · subst h1 h2 h3 h4
              rw [resV_ok rfl] at Vs
              rw [resV_ok rfl, resV_ok rfl, resV_ok rfl] at Vv
              go_wp2_with fail
              refine (same_val Vs.out Vv.out).mono ?_
              rintro e w15 ⟨rfl, hb15⟩
              rw [decide_eq_true (Nat.add_mul V U W)]
              have B15 := hid (B14.out.trans (hb15.mono B14.out.size))
              clear hb15
              go_wp2
              go_ret
              exact ⟨rfl, B15.out⟩
            · have hne : (ev != 0) = true := by simpa using h4
              have Hx := hid h4
              subst h1 h2 h3
              clear h4 Vs Vv
              go_wp2
              go_ret
              exact ⟨rfl, B14.out⟩
          · have hne : (eu != 0) = true := by simpa using h3
            subst h1 h2
            clear h3 Vs Vv
            go_wp2
            go_ret
            exact ⟨rfl, B14.out⟩
        · have hne : (et != 0) = true := by simpa using h2
          subst h1
          clear h2 Vs Vv
          go_wp2
          go_ret
          exact ⟨rfl, B14.out⟩
      · have hne : (es != 0) = true := by simpa using h1
        clear h1 Vs Vv
        go_wp2
        go_ret
        exact ⟨rfl, B14.out⟩
    · rw [if_neg hm0]
      have hmz : (((m : Nat) : Int) == 0) = false := by simp; omega
      have Ab := hid (Ab.out.below hb9)
      have Ag := hid (Ag.out.below hb9)
      have Aa := hid (Aa.out.below hb9)
      have Vx := hid (Vx.out.below hb9)
      have B9 := hid (B8.out.trans (hb9.mono B8.out.size))
      clear hb9 Va Vb
      go_wp2_with fail
      refine (same_val Vz.out Va2.out).mono ?_
      rintro e w10 ⟨rfl, hb10⟩
      rw [show decide (V + U - U = V) = true by simp]
      have Ab := hid (Ab.out.below hb10)
      have Ag := hid (Ag.out.below hb10)
      have Aa := hid (Aa.out.below hb10)
      have Vx := hid (Vx.out.below hb10)
      have B10 := hid (B9.out.trans (hb10.mono B9.out.size))
      clear hb10 Vz Va2 B7 B8 B9
      go_wp2_with fail
      refine (mul_arg Vx.out.arg Ag.out).mono ?_
      rintro e w11 ⟨vs, es, rfl, Es, Vs, hb11⟩
      have Aa := hid (Aa.out.below hb11.out)
      have Ab := hid (Ab.out.below hb11.out)
      have Ag := hid (Ag.out.below hb11.out)
      have B11 := hid (B10.out.trans (hb11.out.mono B10.out.size))
      clear Es Vx
      go_wp2_with fail
      refine (mul_arg Aa.out Ag.out).mono ?_
      rintro e w12 ⟨vt, et, rfl, Et, Vt, hb12⟩
      have Ab := hid (Ab.out.below hb12.out)
      have Ag := hid (Ag.out.below hb12.out)
      have Vs := hid (Vs.out.below hb12.out)
      have B12 := hid (B11.out.trans (hb12.out.mono B11.out.size))
      clear hb11 hb12 Et
      go_wp2_with fail
      refine (mul_arg Ab.out Ag.out).mono ?_
      rintro e w13 ⟨vu, eu, rfl, Eu, Vu, hb13⟩
      have Vt := hid (Vt.out.below hb13.out)
      have Vs := hid (Vs.out.below hb13.out)
      have B13 := hid (B12.out.trans (hb13.out.mono B12.out.size))
      clear hb13 Eu
      go_wp2_with fail
      refine (add_arg Vt.out.arg Vu.out.arg).mono ?_
      rintro e w14 ⟨vv, ev, rfl, Ev, Vv, hb14⟩
      have Vs := hid (Vs.out.below hb14.out)
      have B14 := hid (B13.out.trans (hb14.out.mono B13.out.size))
      clear hb14 Ev Vt Vu B10 B11 B12 B13
      by_cases h1 : es = 0
      · by_cases h2 : et = 0
        · by_cases h3 : eu = 0
          · by_cases h4 : ev = 0
            · subst h1 h2 h3 h4
              rw [resV_ok rfl] at Vs
              rw [resV_ok rfl, resV_ok rfl, resV_ok rfl] at Vv
              go_wp2_with fail
              refine (same_val Vs.out Vv.out).mono ?_
              rintro e w15 ⟨rfl, hb15⟩
              rw [decide_eq_true (Nat.add_mul V U W)]
              have B15 := hid (B14.out.trans (hb15.mono B14.out.size))
              clear hb15
              go_wp2
              go_ret
              exact ⟨rfl, B15.out⟩
            · have hne : (ev != 0) = true := by simpa using h4
              have Hx := hid h4
              subst h1 h2 h3
              clear h4 Vs Vv
              go_wp2
              go_ret
              exact ⟨rfl, B14.out⟩
          · have hne : (eu != 0) = true := by simpa using h3
            subst h1 h2
            clear h3 Vs Vv
            go_wp2
            go_ret
            exact ⟨rfl, B14.out⟩
        · have hne : (et != 0) = true := by simpa using h2
          subst h1
          clear h2 Vs Vv
          go_wp2
          go_ret
          exact ⟨rfl, B14.out⟩
      · have hne : (es != 0) = true := by simpa using h1
        clear h1 Vs Vv
        go_wp2
        go_ret
        exact ⟨rfl, B14.out⟩
  · have hne : (ex != 0) = true := by simpa using hx
    have hne2 : (ex == 0) = false := by simpa using hx
    rw [resV_bad hx] at Vx
    have Hx := hid hx
    clear hx
    go_wp2_with fail
    refine (mul_arg Vx.out.arg Ag.out).mono ?_
    rintro e w8 ⟨vs, es, rfl, Es, Vs, hb8⟩
    have Aa := hid (Aa.out.below hb8.out)
    have Ab := hid (Ab.out.below hb8.out)
    have Ag := hid (Ag.out.below hb8.out)
    have B8 := hid (B7.out.trans (hb8.out.mono B7.out.size))
    clear hb8 Es Vs Vx
    go_wp2_with fail
    refine (mul_arg Aa.out Ag.out).mono ?_
    rintro e w9 ⟨vt, et, rfl, Et, Vt, hb9⟩
    have Ab := hid (Ab.out.below hb9.out)
    have Ag := hid (Ag.out.below hb9.out)
    have B9 := hid (B8.out.trans (hb9.out.mono B8.out.size))
    clear hb9 Et
    go_wp2_with fail
    refine (mul_arg Ab.out Ag.out).mono ?_
    rintro e w10 ⟨vu, eu, rfl, Eu, Vu, hb10⟩
    have Vt := hid (Vt.out.below hb10.out)
    have B10 := hid (B9.out.trans (hb10.out.mono B9.out.size))
    clear hb10 Eu
    go_wp2_with fail
    refine (add_arg Vt.out.arg Vu.out.arg).mono ?_
    rintro e w11 ⟨vv, ev, rfl, Ev, Vv, hb11⟩
    have B11 := hid (B10.out.trans (hb11.out.mono B10.out.size))
    clear hb11 Ev Vv
    go_wp2
    go_ret
    exact ⟨rfl, B11.out⟩

end Go.Proofs.YtgjlifjkikojjaaDoor
