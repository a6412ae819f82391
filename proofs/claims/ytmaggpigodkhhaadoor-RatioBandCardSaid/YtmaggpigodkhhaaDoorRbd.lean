/- RatioBand, walked. -/
import Derived.Test.YtmaggpigodkhhaaDoorRsc
import Derived.Deep.RegionHeld3
namespace Go.Proofs.YtmaggpigodkhhaaDoor
open Go.RowKit

/-- Quotients down and up, and with one more digit. -/
theorem band_math (X N : Int) (hN : 0 < N) : (-(-X / N) = X / N ∨ -(-X / N) = X / N + 1) ∧ 2 * (X / N) ≤ 2 * X / N ∧ -(-(2 * X) / N) ≤ 2 * -(-X / N) ∧ (X / N = -(-X / N) → 2 * X / N = 2 * (X / N) ∧ -(-(2 * X) / N) = 2 * (X / N)) := by
  obtain ⟨F, hF⟩ : ∃ F, F = X / N := ⟨_, rfl⟩
  obtain ⟨r, hr⟩ : ∃ r, r = X % N := ⟨_, rfl⟩
  have h1 : r + N * F = X := by rw [hF, hr]; exact Int.emod_add_mul_ediv X N
  have h2 : 0 ≤ r := by rw [hr]; exact Int.emod_nonneg _ (by omega)
  have h3 : r < N := by rw [hr]; exact Int.emod_lt_of_pos _ hN
  obtain ⟨P, hP⟩ : ∃ P, P = N * F := ⟨_, rfl⟩
  have e2 : N * (2 * F) = 2 * P := by rw [hP, Int.mul_left_comm]
  have e3 : N * (2 * F + 1) = 2 * P + N := by rw [Int.mul_add, e2, Int.mul_one]
  have e4 : N * (-F) = -P := by rw [hP, Int.mul_neg]
  have e5 : N * (-F - 1) = -P - N := by rw [Int.mul_sub, e4, Int.mul_one]
  have e6 : N * (-(2 * F)) = -(2 * P) := by rw [Int.mul_neg, e2]
  have e7 : N * (-(2 * F) - 1) = -(2 * P) - N := by rw [Int.mul_sub, e6, Int.mul_one]
  have e8 : N * (-(2 * F) - 2) = -(2 * P) - 2 * N := by rw [Int.mul_sub, e6, Int.mul_comm N 2]
  rw [← hP] at h1
  have a1 : 2 * X / N = if 2 * r < N then 2 * F else 2 * F + 1 :=
    ((Int.ediv_emod_unique (r := if 2 * r < N then 2 * r else 2 * r - N) hN).2 ⟨by split <;> omega, by split <;> omega, by split <;> omega⟩).1
  have a2 : -X / N = if r = 0 then -F else -F - 1 :=
    ((Int.ediv_emod_unique (r := if r = 0 then 0 else N - r) hN).2 ⟨by split <;> omega, by split <;> omega, by split <;> omega⟩).1
  have a3 : -(2 * X) / N = if r = 0 then -(2 * F) else if 2 * r ≤ N then -(2 * F) - 1 else -(2 * F) - 2 :=
    ((Int.ediv_emod_unique (r := if r = 0 then 0 else if 2 * r ≤ N then N - 2 * r else 2 * N - 2 * r) hN).2 ⟨by split <;> (try split) <;> omega, by split <;> (try split) <;> omega, by split <;> (try split) <;> omega⟩).1
  rw [← hF, a1, a2, a3]
  by_cases hz : r = 0
  · rw [if_pos hz, if_pos hz, if_pos (by omega)]
    omega
  · rw [if_neg hz, if_neg hz]
    split <;> split <;> omega
theorem qzerou {p q : Prop} {N k R er : Int} (h : Qerrs p q N k R er) : (¬ (p ∧ q) ∧ er = 8) ∨ ((p ∧ q) ∧ ¬ (0 < N ∧ 0 ≤ k ∧ k ≤ 64) ∧ er = 2) ∨ ((p ∧ q) ∧ (0 < N ∧ 0 ≤ k ∧ k ≤ 64) ∧ (er = 0 ∨ er = 10)) := by
  by_cases hpq : p ∧ q
  · by_cases ha : 0 < N ∧ 0 ≤ k ∧ k ≤ 64
    · exact .inr (.inr ⟨hpq, ha, (h.2.2 hpq ha).elim (fun h => .inl h.2) (fun h => .inr h.2)⟩)
    · exact .inr (.inl ⟨hpq, ha, h.2.1 hpq ha⟩)
  · exact .inl ⟨hpq, h.1 hpq⟩
theorem up_form (M : Int) (j : Nat) : -(M * 2 ^ (j + 1)) = -(2 * (M * 2 ^ j)) := by rw [Int.pow_succ, ← Int.mul_assoc, Int.mul_comm _ 2]
theorem down_form (M : Int) (j : Nat) : M * 2 ^ (j + 1) = 2 * (M * 2 ^ j) := by rw [Int.pow_succ, ← Int.mul_assoc, Int.mul_comm _ 2]
theorem okay_part {k : Nat} (hk : k ≤ 1024) : Okay (1 * (tp (4000 - k) : Int)) := okay_int hk (by omega)
theorem cmpI_le {a b : Int} (h : a ≤ b) : cmpI a b ≤ 0 := by
  unfold cmpI
  split
  · omega
  · rw [if_pos (by omega)]
    omega
theorem tp_cast_pos (k : Nat) : (0 : Int) < (tp k : Int) := by have := tp_pos k; omega

set_option maxRecDepth 100000 in
set_option maxHeartbeats 12800000 in
theorem rband_walk {w : World} {A D : Option Addr} {n c m d : Nat} {f h : Nat → Nat} {s t : Bool} {x y k : Int} (hr : Rd w w.heap.size A n c f) (hs : Rd w w.heap.size D m d h) (hk : -9223372036854775808 ≤ k ∧ k ≤ 9223372036854775807) (hT : Tab w) (hT64 : Tab64 w) :
    Calls Tryd.prog 4 #[.agg #[.bool s, .slice A n c, .int .i64 x], .agg #[.bool t, .slice D m d, .int .i64 y], .int .i64 k] w fun e w' => e = .returned (.bool true) ∧ Below w.heap.size w w' := by
  have hn := hr.max
  have hm := hs.max
  obtain ⟨p, M, hDA⟩ := arg_of (s := s) (x := x) hr
  obtain ⟨q, N, hDB⟩ := arg_of (s := t) (x := y) hs
  obtain ⟨W, hW⟩ : ∃ W, W = (w.alloc (.cells #[.bool s, .slice A n c, .int .i64 x] 24)).alloc (.cells #[.bool t, .slice D m d, .int .i64 y] 24) := ⟨_, rfl⟩
  have K := hid (show Below w.heap.size w W from hW ▸ ((Below.refl w.heap.size w).alloc (Nat.le_refl _) _).alloc (by simp) _)
  have PA : Hid (Dbox W w.heap.size s (.slice A n c) x) := hid (hW ▸ (Below.heap_alloc _ _ _ (by simp)).trans (heap_alloc_new w _))
  have PB : Hid (Dbox W (w.heap.size + 1) t (.slice D m d) y) := hid (hW ▸ heap_alloc2_new w _ _)
  have DA := hid (hDA.below K.out)
  have DB := hid (hDB.below K.out)
  have HT := hid hT
  have HU := hid hT64
  have HW := hid hW
  clear hW hr hs hDA hDB hT hT64
  go_enter Tryd.func4, Tryd.ntmps4
  go_upto_region 1 with fail
  rw [← HW.out]
  clear HW
  go_wp2_with fail
  refine (ralive_any _ (HT.out.below K.out HT.out.lt) (HU.out.below K.out HU.out.lt)).mono ?_
  rintro e w1 ⟨rfl, hb⟩
  replace K := hid (K.out.trans (hb.out.mono K.out.size))
  replace PA := hid (PA.out.below hb.out PA.out.lt)
  replace PB := hid (PB.out.below hb.out PB.out.lt)
  replace DA := hid (DA.out.below hb.out)
  replace DB := hid (DB.out.below hb.out)
  have PAc0 := PA.out.c0
  have PAc1 := PA.out.c1
  have PAc2 := PA.out.c2
  have PBc0 := PB.out.c0
  have PBc1 := PB.out.c1
  have PBc2 := PB.out.c2
  clear hb
  go_wp2_with fail
  refine (dgreat_any s A n c x _ hn).mono ?_
  rintro e w2 ⟨rfl, hb⟩
  clear PAc0 PAc1 PAc2 PBc0 PBc1 PBc2
  replace K := hid (K.out.trans (hb.out.mono K.out.size))
  replace PA := hid (PA.out.below hb.out PA.out.lt)
  replace PB := hid (PB.out.below hb.out PB.out.lt)
  replace DA := hid (DA.out.below hb.out)
  replace DB := hid (DB.out.below hb.out)
  have PAc0 := PA.out.c0
  have PAc1 := PA.out.c1
  have PAc2 := PA.out.c2
  have PBc0 := PB.out.c0
  have PBc1 := PB.out.c1
  have PBc2 := PB.out.c2
  clear hb
  by_cases hg : 42 < n ∨ 1100 < x
  · rw [bool_of_dec hg]
    clear hg
    go_wp2
    go_ret
    exact ⟨rfl, K.out⟩
  rw [bool_of_not hg]
  go_wp2_with fail
  refine (dgreat_any t D m d y _ hm).mono ?_
  rintro e w3 ⟨rfl, hb⟩
  clear PAc0 PAc1 PAc2 PBc0 PBc1 PBc2
  replace K := hid (K.out.trans (hb.out.mono K.out.size))
  replace PA := hid (PA.out.below hb.out PA.out.lt)
  replace PB := hid (PB.out.below hb.out PB.out.lt)
  replace DA := hid (DA.out.below hb.out)
  replace DB := hid (DB.out.below hb.out)
  have PAc0 := PA.out.c0
  have PAc1 := PA.out.c1
  have PAc2 := PA.out.c2
  have PBc0 := PB.out.c0
  have PBc1 := PB.out.c1
  have PBc2 := PB.out.c2
  clear hb
  by_cases hg2 : 42 < m ∨ 1100 < y
  · rw [bool_of_dec hg2]
    clear hg hg2
    go_wp2
    go_ret
    exact ⟨rfl, K.out⟩
  rw [bool_of_not hg2]
  clear hg hg2
  go_wp2_with fail
  refine (rfloor_any (k := k) DA.out DB.out (HT.out.below K.out HT.out.lt) (HU.out.below K.out HU.out.lt)).mono ?_
  intro e wx hh
  obtain ⟨sx, Ax, nx, cx, xx, ex, rfl, HEx, Gx, hb⟩ := hh.open_
  clear hh
  clear PAc0 PAc1 PAc2 PBc0 PBc1 PBc2
  replace K := hid (K.out.trans (hb.out.mono K.out.size))
  replace PA := hid (PA.out.below hb.out PA.out.lt)
  replace PB := hid (PB.out.below hb.out PB.out.lt)
  replace DA := hid (DA.out.below hb.out)
  replace DB := hid (DB.out.below hb.out)
  have PAc0 := PA.out.c0
  have PAc1 := PA.out.c1
  have PAc2 := PA.out.c2
  have PBc0 := PB.out.c0
  have PBc1 := PB.out.c1
  have PBc2 := PB.out.c2
  clear hb
  go_upto_region 5 with fail
  obtain ⟨Ux, hU⟩ : ∃ U, U = wx.alloc (.cells #[.bool sx, .slice Ax nx cx, .int .i64 xx] 24) := ⟨_, rfl⟩
  rw [← hU]
  have Px : Hid (Dbox Ux wx.heap.size sx (.slice Ax nx cx) xx) := hid (hU ▸ heap_alloc_new _ _)
  have ha : Hid (Below wx.heap.size wx Ux) := hid (hU ▸ (Below.refl _ wx).alloc (Nat.le_refl _) _)
  clear hU
  clear PAc0 PAc1 PAc2 PBc0 PBc1 PBc2
  replace K := hid (K.out.trans (ha.out.mono K.out.size))
  replace PA := hid (PA.out.below ha.out PA.out.lt)
  replace PB := hid (PB.out.below ha.out PB.out.lt)
  replace DA := hid (DA.out.below ha.out)
  replace DB := hid (DB.out.below ha.out)
  replace Gx := hid (Gx.out.below ha.out)
  have PAc0 := PA.out.c0
  have PAc1 := PA.out.c1
  have PAc2 := PA.out.c2
  have PBc0 := PB.out.c0
  have PBc1 := PB.out.c1
  have PBc2 := PB.out.c2
  have Pxc0 := Px.out.c0
  have Pxc1 := Px.out.c1
  have Pxc2 := Px.out.c2
  clear ha
  go_wp2_with fail
  refine (rceil_any (k := k) DA.out DB.out (HT.out.below K.out HT.out.lt) (HU.out.below K.out HU.out.lt)).mono ?_
  intro e wy hh
  obtain ⟨sy, Ay, ny, cy, xy, ey, rfl, HEy, Gy, hb⟩ := hh.open_
  clear hh
  clear PAc0 PAc1 PAc2 PBc0 PBc1 PBc2 Pxc0 Pxc1 Pxc2
  replace K := hid (K.out.trans (hb.out.mono K.out.size))
  replace PA := hid (PA.out.below hb.out PA.out.lt)
  replace PB := hid (PB.out.below hb.out PB.out.lt)
  replace DA := hid (DA.out.below hb.out)
  replace DB := hid (DB.out.below hb.out)
  replace Gx := hid (Gx.out.below hb.out)
  replace Px := hid (Px.out.below hb.out Px.out.lt)
  have PAc0 := PA.out.c0
  have PAc1 := PA.out.c1
  have PAc2 := PA.out.c2
  have PBc0 := PB.out.c0
  have PBc1 := PB.out.c1
  have PBc2 := PB.out.c2
  have Pxc0 := Px.out.c0
  have Pxc1 := Px.out.c1
  have Pxc2 := Px.out.c2
  clear hb
  go_upto_region 6 with fail
  obtain ⟨Uy, hU⟩ : ∃ U, U = wy.alloc (.cells #[.bool sy, .slice Ay ny cy, .int .i64 xy] 24) := ⟨_, rfl⟩
  rw [← hU]
  have Py : Hid (Dbox Uy wy.heap.size sy (.slice Ay ny cy) xy) := hid (hU ▸ heap_alloc_new _ _)
  have ha : Hid (Below wy.heap.size wy Uy) := hid (hU ▸ (Below.refl _ wy).alloc (Nat.le_refl _) _)
  clear hU
  clear PAc0 PAc1 PAc2 PBc0 PBc1 PBc2 Pxc0 Pxc1 Pxc2
  replace K := hid (K.out.trans (ha.out.mono K.out.size))
  replace PA := hid (PA.out.below ha.out PA.out.lt)
  replace PB := hid (PB.out.below ha.out PB.out.lt)
  replace DA := hid (DA.out.below ha.out)
  replace DB := hid (DB.out.below ha.out)
  replace Gx := hid (Gx.out.below ha.out)
  replace Px := hid (Px.out.below ha.out Px.out.lt)
  replace Gy := hid (Gy.out.below ha.out)
  have PAc0 := PA.out.c0
  have PAc1 := PA.out.c1
  have PAc2 := PA.out.c2
  have PBc0 := PB.out.c0
  have PBc1 := PB.out.c1
  have PBc2 := PB.out.c2
  have Pxc0 := Px.out.c0
  have Pxc1 := Px.out.c1
  have Pxc2 := Px.out.c2
  have Pyc0 := Py.out.c0
  have Pyc1 := Py.out.c1
  have Pyc2 := Py.out.c2
  clear ha
  have hxe := qzerou HEx.out
  have hye := qzerou HEy.out
  by_cases hx0 : ex = 0
  case neg =>
    have hne : (ex != 0) = true := by simpa using hx0
    have hor : ex = ey ∨ ex = 10 := by
      rcases hxe with ⟨h1, h2⟩ | ⟨h1, h3, h2⟩ | ⟨h1, h3, h2⟩ <;> rcases hye with ⟨h4, h5⟩ | ⟨h4, h6, h5⟩ | ⟨h4, h6, h5⟩ <;> first | omega | exact absurd h1 h4 | exact absurd h4 h1 | exact absurd h3 h6 | exact absurd h6 h3
    clear hxe hye HEx HEy hx0
    rcases hor with rfl | rfl
    · go_wp2
      go_ret
      exact ⟨rfl, K.out⟩
    · by_cases h10 : (10 : Int) = ey
      · have hb1 : ((10 : Int) == ey) = true := by simpa using h10
        clear h10
        go_wp2
        go_ret
        exact ⟨rfl, K.out⟩
      · have hb1 : ((10 : Int) == ey) = false := by simpa using h10
        clear h10
        go_wp2
        go_ret
        exact ⟨rfl, K.out⟩
  subst hx0
  by_cases hy0 : ey = 0
  case neg =>
    have hne : (ey != 0) = true := by simpa using hy0
    have hne2 : ((0 : Int) == ey) = false := by simp; omega
    have hy10 : ey = 10 := by
      rcases hxe with ⟨h1, h2⟩ | ⟨h1, h3, h2⟩ | ⟨h1, h3, h2⟩ <;> rcases hye with ⟨h4, h5⟩ | ⟨h4, h6, h5⟩ | ⟨h4, h6, h5⟩ <;> first | omega | exact absurd h1 h4 | exact absurd h4 h1 | exact absurd h3 h6 | exact absurd h6 h3
    subst hy10
    clear hxe hye HEx HEy hy0
    go_wp2
    go_ret
    exact ⟨rfl, K.out⟩
  subst hy0
  clear hxe hye
  rw [resD_ok rfl] at Gx Gy
  obtain ⟨⟨hp, hq⟩, ⟨hN, hk0, hk1⟩, hRx⟩ := qzero HEx.out
  have hRy := (qzero HEy.out).2.2
  obtain ⟨j, rfl⟩ : ∃ j : Nat, k = j := ⟨k.toNat, by omega⟩
  rw [Int.toNat_natCast] at hRx hRy Gx Gy
  have BM := hid (band_math (M * 2 ^ j) N hN)
  obtain ⟨F, hF⟩ : ∃ F : Int, F = M * 2 ^ j / N := ⟨_, rfl⟩
  obtain ⟨C, hC⟩ : ∃ C : Int, C = -(-(M * 2 ^ j) / N) := ⟨_, rfl⟩
  rw [← hF] at hRx Gx
  rw [← hC] at hRy Gy
  rw [← hF, ← hC] at BM
  have HRx := hid hRx
  have HRy := hid hRy
  have HN := hid hN
  have Hp := hid hp
  have Hq := hid hq
  have hj : j ≤ 64 := by omega
  clear HEx HEy hF hC hRx hRy hN hp hq hk
  go_wp2_with fail
  refine (dof_dn 1 (by omega) _).mono ?_
  rintro e wp ⟨dp, rfl, hDp, hb⟩
  obtain ⟨sp, Ap, np, cp, xp, rfl⟩ := hDp.out.parts
  clear PAc0 PAc1 PAc2 PBc0 PBc1 PBc2 Pxc0 Pxc1 Pxc2 Pyc0 Pyc1 Pyc2
  replace K := hid (K.out.trans (hb.out.mono K.out.size))
  replace PA := hid (PA.out.below hb.out PA.out.lt)
  replace PB := hid (PB.out.below hb.out PB.out.lt)
  replace DA := hid (DA.out.below hb.out)
  replace DB := hid (DB.out.below hb.out)
  replace Gx := hid (Gx.out.below hb.out)
  replace Px := hid (Px.out.below hb.out Px.out.lt)
  replace Gy := hid (Gy.out.below hb.out)
  replace Py := hid (Py.out.below hb.out Py.out.lt)
  have PAc0 := PA.out.c0
  have PAc1 := PA.out.c1
  have PAc2 := PA.out.c2
  have PBc0 := PB.out.c0
  have PBc1 := PB.out.c1
  have PBc2 := PB.out.c2
  have Pxc0 := Px.out.c0
  have Pxc1 := Px.out.c1
  have Pxc2 := Px.out.c2
  have Pyc0 := Py.out.c0
  have Pyc1 := Py.out.c1
  have Pyc2 := Py.out.c2
  clear hb
  go_upto_region 9 with fail
  obtain ⟨Up, hU⟩ : ∃ U, U = wp.alloc (.cells #[.bool sp, .slice Ap np cp, .int .i64 xp] 24) := ⟨_, rfl⟩
  rw [← hU]
  have PP : Hid (Dbox Up wp.heap.size sp (.slice Ap np cp) xp) := hid (hU ▸ heap_alloc_new _ _)
  have HP0 : Hid (DArg Up True (1 * (tp (4000 - 0) : Int)) (.agg #[.bool sp, .slice Ap np cp, .int .i64 xp])) := hid (hU ▸ (by rw [Nat.sub_zero]; exact hDp.out.arg.below ((Below.refl _ wp).alloc (Nat.le_refl _) _)))
  have hb0 : Hid (Below wp.heap.size wp Up) := hid (hU ▸ (Below.refl _ wp).alloc (Nat.le_refl _) _)
  have hUs : wp.heap.size < Up.heap.size := PP.out.lt
  clear hU hDp
  go_wp2_with fail
  go_loopw [13, 14, 15] (fun i _ _ wr => ∃ (i' : Nat) (sr : Bool) (Ar : Option Addr) (nr cr : Nat) (xr : Int), i' ≤ j ∧ i = .int .i64 i' ∧ Hid (Dbox wr wp.heap.size sr (.slice Ar nr cr) xr) ∧ Hid (DArg wr True (1 * (tp (4000 - i') : Int)) (.agg #[.bool sr, .slice Ar nr cr, .int .i64 xr])) ∧ Hid (Below wp.heap.size wp wr)) (fun i _ _ _ => j - (intOf i).toNat)
  case atStart => exact ⟨0, sp, Ap, np, cp, xp, by omega, rfl, PP, HP0, hb0⟩
  case round =>
    obtain ⟨i', sr, Ar, nr, cr, xr, hi, rfl, hB, hD, hb⟩ := hrel
    have c0 := hB.out.c0
    have c1 := hB.out.c1
    have c2 := hB.out.c2
    by_cases hcon : i' < j
    · clear PAc0 PAc1 PAc2 PBc0 PBc1 PBc2 Pxc0 Pxc1 Pxc2 Pyc0 Pyc1 Pyc2
      go_wp2_with fail
      have hK := K.out.trans (hb.out.mono K.out.size)
      refine (dhalf_any hD.out (HT.out.below hK HT.out.lt)).mono ?_
      rintro e wh ⟨Hh, hHh, d', er, rfl, HE, HDn, hb2⟩
      have eH : Hh = 1 * (tp (4000 - (i' + 1)) : Int) := by
        have e3 := hHh trivial
        have e4 := half_tp 1 (k := i') (by omega)
        omega
      subst eH
      obtain rfl : er = 0 := (HE.out.1 trivial).uniq (.inl ⟨okay_part (by omega), rfl⟩)
      rw [resD_ok rfl] at HDn
      obtain ⟨sh, Ah, nh, ch, xh, rfl⟩ := HDn.out.parts
      have hsz := hB.out.lt
      have hB2 := hid (hB.out.below hb2.out hB.out.lt)
      clear c0 c1 c2 hHh HE
      have HDm := hid (HDn.out.mono (B' := wp.heap.size + 1) (by omega))
      go_upto_region 13 with fail
      obtain ⟨Uh, hU⟩ : ∃ U, U = wh.alloc (.cells #[.bool sh, .slice Ah nh ch, .int .i64 xh] 24) := ⟨_, rfl⟩
      rw [← hU]
      have PH : Hid (Dbox Uh wh.heap.size sh (.slice Ah nh ch) xh) := hid (hU ▸ heap_alloc_new _ _)
      have ha : Hid (Below wh.heap.size wh Uh) := hid (hU ▸ (Below.refl _ wh).alloc (Nat.le_refl _) _)
      clear hU
      have hB3 := hid (hB2.out.below ha.out hB2.out.lt)
      have HD3 := hid (HDm.out.on ha.out)
      have K3 := hid ((hb.out.trans (hb2.out.mono (by omega))).trans (ha.out.mono (by have := hB2.out.lt; omega)))
      have g0 := PH.out.c0
      have g1 := PH.out.c1
      have g2 := PH.out.c2
      have f0 := hB3.out.frozen 0
      have f1 := hB3.out.frozen 1
      have f2 := hB3.out.frozen 2
      have c0 := hB3.out.c0
      have c1 := hB3.out.c1
      have c2 := hB3.out.c2
      go_wp2
      go_roundw
      case rel => exact ⟨i' + 1, sh, Ah, nh, ch, xh, by omega, by go_num, hid hB3.out.store, hid (HD3.out.put3 (by omega)).arg, hid (below_put3 K3.out (Nat.le_refl _))⟩
      case measure => simp [intOf]; omega
    · obtain rfl : i' = j := by omega
      have PQ := hB
      have DQ := hD
      replace K := hid (K.out.trans (hb.out.mono K.out.size))
      replace PA := hid (PA.out.below hb.out PA.out.lt)
      replace PB := hid (PB.out.below hb.out PB.out.lt)
      replace DA := hid (DA.out.below hb.out)
      replace DB := hid (DB.out.below hb.out)
      replace Gx := hid (Gx.out.below hb.out)
      replace Px := hid (Px.out.below hb.out Px.out.lt)
      replace Gy := hid (Gy.out.below hb.out)
      replace Py := hid (Py.out.below hb.out Py.out.lt)
      have PAc0 := PA.out.c0
      have PAc1 := PA.out.c1
      have PAc2 := PA.out.c2
      have PBc0 := PB.out.c0
      have PBc1 := PB.out.c1
      have PBc2 := PB.out.c2
      have Pxc0 := Px.out.c0
      have Pxc1 := Px.out.c1
      have Pxc2 := Px.out.c2
      have Pyc0 := Py.out.c0
      have Pyc1 := Py.out.c1
      have Pyc2 := Py.out.c2
      have PQc0 := PQ.out.c0
      have PQc1 := PQ.out.c1
      have PQc2 := PQ.out.c2
      clear hb c0 c1 c2 PP HP0 hb0
      go_wp2_with fail
      refine (dsub_any Gy.out Gx.out (HT.out.below K.out HT.out.lt)).mono ?_
      intro e wd hh
      obtain ⟨sd, Ad, nd, cd, xd, ed, rfl, HEd, Gd, hb⟩ := hh.open_
      clear hh
      clear PAc0 PAc1 PAc2 PBc0 PBc1 PBc2 Pxc0 Pxc1 Pxc2 Pyc0 Pyc1 Pyc2 PQc0 PQc1 PQc2
      replace K := hid (K.out.trans (hb.out.mono K.out.size))
      replace PA := hid (PA.out.below hb.out PA.out.lt)
      replace PB := hid (PB.out.below hb.out PB.out.lt)
      replace DA := hid (DA.out.below hb.out)
      replace DB := hid (DB.out.below hb.out)
      replace Gx := hid (Gx.out.below hb.out)
      replace Px := hid (Px.out.below hb.out Px.out.lt)
      replace Gy := hid (Gy.out.below hb.out)
      replace Py := hid (Py.out.below hb.out Py.out.lt)
      replace PQ := hid (PQ.out.below hb.out PQ.out.lt)
      replace DQ := hid (DQ.out.below hb.out)
      have PAc0 := PA.out.c0
      have PAc1 := PA.out.c1
      have PAc2 := PA.out.c2
      have PBc0 := PB.out.c0
      have PBc1 := PB.out.c1
      have PBc2 := PB.out.c2
      have Pxc0 := Px.out.c0
      have Pxc1 := Px.out.c1
      have Pxc2 := Px.out.c2
      have Pyc0 := Py.out.c0
      have Pyc1 := Py.out.c1
      have Pyc2 := Py.out.c2
      have PQc0 := PQ.out.c0
      have PQc1 := PQ.out.c1
      have PQc2 := PQ.out.c2
      clear hb
      have hsub : C * (tp (4000 - i') : Int) - F * (tp (4000 - i') : Int) = (C - F) * (tp (4000 - i') : Int) := by rw [Int.sub_mul]
      obtain rfl : ed = 0 := (HEd.out.1 ⟨trivial, trivial⟩).uniq (.inl ⟨by rw [hsub]; exact okay_int (by omega) (by have := BM.out.1; omega), rfl⟩)
      rw [resD_ok rfl, hsub] at Gd
      clear HEd
      go_upto_region 17 with fail
      obtain ⟨Ud, hU⟩ : ∃ U, U = wd.alloc (.cells #[.bool sd, .slice Ad nd cd, .int .i64 xd] 24) := ⟨_, rfl⟩
      rw [← hU]
      have Pd : Hid (Dbox Ud wd.heap.size sd (.slice Ad nd cd) xd) := hid (hU ▸ heap_alloc_new _ _)
      have ha : Hid (Below wd.heap.size wd Ud) := hid (hU ▸ (Below.refl _ wd).alloc (Nat.le_refl _) _)
      clear hU
      clear PAc0 PAc1 PAc2 PBc0 PBc1 PBc2 Pxc0 Pxc1 Pxc2 Pyc0 Pyc1 Pyc2 PQc0 PQc1 PQc2
      replace K := hid (K.out.trans (ha.out.mono K.out.size))
      replace PA := hid (PA.out.below ha.out PA.out.lt)
      replace PB := hid (PB.out.below ha.out PB.out.lt)
      replace DA := hid (DA.out.below ha.out)
      replace DB := hid (DB.out.below ha.out)
      replace Gx := hid (Gx.out.below ha.out)
      replace Px := hid (Px.out.below ha.out Px.out.lt)
      replace Gy := hid (Gy.out.below ha.out)
      replace Py := hid (Py.out.below ha.out Py.out.lt)
      replace PQ := hid (PQ.out.below ha.out PQ.out.lt)
      replace DQ := hid (DQ.out.below ha.out)
      replace Gd := hid (Gd.out.below ha.out)
      have PAc0 := PA.out.c0
      have PAc1 := PA.out.c1
      have PAc2 := PA.out.c2
      have PBc0 := PB.out.c0
      have PBc1 := PB.out.c1
      have PBc2 := PB.out.c2
      have Pxc0 := Px.out.c0
      have Pxc1 := Px.out.c1
      have Pxc2 := Px.out.c2
      have Pyc0 := Py.out.c0
      have Pyc1 := Py.out.c1
      have Pyc2 := Py.out.c2
      have PQc0 := PQ.out.c0
      have PQc1 := PQ.out.c1
      have PQc2 := PQ.out.c2
      have Pdc0 := Pd.out.c0
      have Pdc1 := Pd.out.c1
      have Pdc2 := Pd.out.c2
      clear ha
      go_cut [105] (fun v wx => v = .bool false ∧ Hid (Below Ud.heap.size Ud wx))
      case first =>
        have CF : Hid (∀ w', Below Ud.heap.size Ud w' → w'.cell? ⟨wd.heap.size, 0, none⟩ = some (.bool sd) ∧ w'.cell? ⟨wd.heap.size, 1, none⟩ = some (.slice Ad nd cd) ∧ w'.cell? ⟨wd.heap.size, 2, none⟩ = some (.int .i64 xd) ∧ w'.cell? ⟨wp.heap.size, 0, none⟩ = some (.bool sr) ∧ w'.cell? ⟨wp.heap.size, 1, none⟩ = some (.slice Ar nr cr) ∧ w'.cell? ⟨wp.heap.size, 2, none⟩ = some (.int .i64 xr)) :=
          fun w' hb => ⟨(Pd.out.below hb Pd.out.lt).c0, (Pd.out.below hb Pd.out.lt).c1, (Pd.out.below hb Pd.out.lt).c2, (PQ.out.below hb PQ.out.lt).c0, (PQ.out.below hb PQ.out.lt).c1, (PQ.out.below hb PQ.out.lt).c2⟩
        have HBz := hid ((Below.refl Ud.heap.size Ud).drew)
        have hcf := BM.out.1
        clear PAc0 PAc1 PAc2 PBc0 PBc1 PBc2 Pxc0 Pxc1 Pxc2 Pyc0 Pyc1 Pyc2
        rcases hcf with hCF | hCF
        · have e0 : (C - F) * (tp (4000 - i') : Int) = 0 * (tp 4000 : Int) := by rw [hCF, Int.sub_self, Int.zero_mul, Int.zero_mul]
          clear hCF
          go_region_with (first
            | (go_at_call 20
               refine (dof_dn 0 (by omega) _).mono ?_
               rintro e wa ⟨dz, rfl, DO, Ba⟩
               obtain ⟨sz, Az, nz, cz, xz, rfl⟩ := DO.out.parts
               have HBz := hid (HBz.out.trans (Ba.out.mono HBz.out.size))
               have hcells := CF.out _ HBz.out
               obtain ⟨y0, y1, y2, -, -, -⟩ := hcells)
            | (go_at_call_of 23 (Value.agg #[Value.bool sz, Value.slice Az nz cz, Value.int IntKind.i64 xz])
               refine (same_true (Gd.out.below HBz.out) DO.out.arg trivial trivial e0).mono ?_
               rintro e wa ⟨rfl, Ba⟩
               have HBz := hid (HBz.out.trans (Ba.out.mono HBz.out.size))))
          all_goals
            go_wp2_with fail
            go_meet
            exact ⟨rfl, HBz⟩
        · have e0 : ¬ (C - F) * (tp (4000 - i') : Int) = 0 * (tp 4000 : Int) := by
            have := tp_cast_pos (4000 - i')
            rw [show C - F = 1 by omega, Int.one_mul, Int.zero_mul]
            omega
          have e1 : (C - F) * (tp (4000 - i') : Int) = 1 * (tp (4000 - i') : Int) := by rw [show C - F = 1 by omega]
          clear hCF
          first
          | go_region_held3 (fun w' => w'.cell? ⟨wd.heap.size, 0, none⟩ = some (.bool sd) ∧ w'.cell? ⟨wd.heap.size, 1, none⟩ = some (.slice Ad nd cd) ∧ w'.cell? ⟨wd.heap.size, 2, none⟩ = some (.int .i64 xd) ∧ w'.cell? ⟨wp.heap.size, 0, none⟩ = some (.bool sr) ∧ w'.cell? ⟨wp.heap.size, 1, none⟩ = some (.slice Ar nr cr) ∧ w'.cell? ⟨wp.heap.size, 2, none⟩ = some (.int .i64 xr))
              (exact CF.out _ HBz.out)
              (first
              | (go_at_call 20
                 refine (dof_dn 0 (by omega) _).mono ?_
                 rintro e wa ⟨dz, rfl, DO, Ba⟩
                 obtain ⟨sz, Az, nz, cz, xz, rfl⟩ := DO.out.parts
                 have HBz := hid (HBz.out.trans (Ba.out.mono HBz.out.size)))
              | (go_at_call_of 23 (Value.agg #[Value.bool sz, Value.slice Az nz cz, Value.int IntKind.i64 xz])
                 refine (same_false (Gd.out.below HBz.out) DO.out.arg trivial trivial e0).mono ?_
                 rintro e wa ⟨rfl, Ba⟩
                 have HBz := hid (HBz.out.trans (Ba.out.mono HBz.out.size)))
              | (go_at_call_of 23 (Value.agg #[Value.bool sr, Value.slice Ar nr cr, Value.int IntKind.i64 xr])
                 refine (same_true (Gd.out.below HBz.out) (DQ.out.below HBz.out) trivial trivial e1).mono ?_
                 rintro e wa ⟨rfl, Ba⟩
                 have HBz := hid (HBz.out.trans (Ba.out.mono HBz.out.size))))
          | fail
          all_goals
            go_wp2_with fail
            go_meet
            exact ⟨rfl, HBz⟩
      case rest =>
        obtain ⟨rfl, hb⟩ := hcut
        clear PAc0 PAc1 PAc2 PBc0 PBc1 PBc2 Pxc0 Pxc1 Pxc2 Pyc0 Pyc1 Pyc2 PQc0 PQc1 PQc2 Pdc0 Pdc1 Pdc2
        clear Pd PQ DQ Gd
        replace K := hid (K.out.trans (hb.out.mono K.out.size))
        replace PA := hid (PA.out.below hb.out PA.out.lt)
        replace PB := hid (PB.out.below hb.out PB.out.lt)
        replace DA := hid (DA.out.below hb.out)
        replace DB := hid (DB.out.below hb.out)
        replace Gx := hid (Gx.out.below hb.out)
        replace Px := hid (Px.out.below hb.out Px.out.lt)
        replace Gy := hid (Gy.out.below hb.out)
        replace Py := hid (Py.out.below hb.out Py.out.lt)
        have PAc0 := PA.out.c0
        have PAc1 := PA.out.c1
        have PAc2 := PA.out.c2
        have PBc0 := PB.out.c0
        have PBc1 := PB.out.c1
        have PBc2 := PB.out.c2
        have Pxc0 := Px.out.c0
        have Pxc1 := Px.out.c1
        have Pxc2 := Px.out.c2
        have Pyc0 := Py.out.c0
        have Pyc1 := Py.out.c1
        have Pyc2 := Py.out.c2
        clear hb
        have hw1 : IntKind.i64.wrap ((i' : Int) + 1) = ((i' + 1 : Nat) : Int) := by rw [IntWalk.i64_in _ (by omega)]; omega
        go_wp2_with fail
        refine (rfloor_any (k := ((i' + 1 : Nat) : Int)) DA.out DB.out (HT.out.below K.out HT.out.lt) (HU.out.below K.out HU.out.lt)).mono ?_
        intro e wu hh
        obtain ⟨su, Au, nu, cu, xu, eu, rfl, HEu, Gu, hb⟩ := hh.open_
        clear hh
        clear PAc0 PAc1 PAc2 PBc0 PBc1 PBc2 Pxc0 Pxc1 Pxc2 Pyc0 Pyc1 Pyc2
        replace K := hid (K.out.trans (hb.out.mono K.out.size))
        replace PA := hid (PA.out.below hb.out PA.out.lt)
        replace PB := hid (PB.out.below hb.out PB.out.lt)
        replace DA := hid (DA.out.below hb.out)
        replace DB := hid (DB.out.below hb.out)
        replace Gx := hid (Gx.out.below hb.out)
        replace Px := hid (Px.out.below hb.out Px.out.lt)
        replace Gy := hid (Gy.out.below hb.out)
        replace Py := hid (Py.out.below hb.out Py.out.lt)
        have PAc0 := PA.out.c0
        have PAc1 := PA.out.c1
        have PAc2 := PA.out.c2
        have PBc0 := PB.out.c0
        have PBc1 := PB.out.c1
        have PBc2 := PB.out.c2
        have Pxc0 := Px.out.c0
        have Pxc1 := Px.out.c1
        have Pxc2 := Px.out.c2
        have Pyc0 := Py.out.c0
        have Pyc1 := Py.out.c1
        have Pyc2 := Py.out.c2
        clear hb
        go_upto_region 20 with fail
        obtain ⟨Uu, hU⟩ : ∃ U, U = wu.alloc (.cells #[.bool su, .slice Au nu cu, .int .i64 xu] 24) := ⟨_, rfl⟩
        rw [← hU]
        have Pu : Hid (Dbox Uu wu.heap.size su (.slice Au nu cu) xu) := hid (hU ▸ heap_alloc_new _ _)
        have ha : Hid (Below wu.heap.size wu Uu) := hid (hU ▸ (Below.refl _ wu).alloc (Nat.le_refl _) _)
        clear hU
        clear PAc0 PAc1 PAc2 PBc0 PBc1 PBc2 Pxc0 Pxc1 Pxc2 Pyc0 Pyc1 Pyc2
        replace K := hid (K.out.trans (ha.out.mono K.out.size))
        replace PA := hid (PA.out.below ha.out PA.out.lt)
        replace PB := hid (PB.out.below ha.out PB.out.lt)
        replace DA := hid (DA.out.below ha.out)
        replace DB := hid (DB.out.below ha.out)
        replace Gx := hid (Gx.out.below ha.out)
        replace Px := hid (Px.out.below ha.out Px.out.lt)
        replace Gy := hid (Gy.out.below ha.out)
        replace Py := hid (Py.out.below ha.out Py.out.lt)
        replace Gu := hid (Gu.out.below ha.out)
        have PAc0 := PA.out.c0
        have PAc1 := PA.out.c1
        have PAc2 := PA.out.c2
        have PBc0 := PB.out.c0
        have PBc1 := PB.out.c1
        have PBc2 := PB.out.c2
        have Pxc0 := Px.out.c0
        have Pxc1 := Px.out.c1
        have Pxc2 := Px.out.c2
        have Pyc0 := Py.out.c0
        have Pyc1 := Py.out.c1
        have Pyc2 := Py.out.c2
        have Puc0 := Pu.out.c0
        have Puc1 := Pu.out.c1
        have Puc2 := Pu.out.c2
        clear ha
        go_wp2_with fail
        refine (rceil_any (k := ((i' + 1 : Nat) : Int)) DA.out DB.out (HT.out.below K.out HT.out.lt) (HU.out.below K.out HU.out.lt)).mono ?_
        intro e wv hh
        obtain ⟨sv, Av, nv, cv, xv, ev, rfl, HEv, Gv, hb⟩ := hh.open_
        clear hh
        clear PAc0 PAc1 PAc2 PBc0 PBc1 PBc2 Pxc0 Pxc1 Pxc2 Pyc0 Pyc1 Pyc2 Puc0 Puc1 Puc2
        replace K := hid (K.out.trans (hb.out.mono K.out.size))
        replace PA := hid (PA.out.below hb.out PA.out.lt)
        replace PB := hid (PB.out.below hb.out PB.out.lt)
        replace DA := hid (DA.out.below hb.out)
        replace DB := hid (DB.out.below hb.out)
        replace Gx := hid (Gx.out.below hb.out)
        replace Px := hid (Px.out.below hb.out Px.out.lt)
        replace Gy := hid (Gy.out.below hb.out)
        replace Py := hid (Py.out.below hb.out Py.out.lt)
        replace Gu := hid (Gu.out.below hb.out)
        replace Pu := hid (Pu.out.below hb.out Pu.out.lt)
        have PAc0 := PA.out.c0
        have PAc1 := PA.out.c1
        have PAc2 := PA.out.c2
        have PBc0 := PB.out.c0
        have PBc1 := PB.out.c1
        have PBc2 := PB.out.c2
        have Pxc0 := Px.out.c0
        have Pxc1 := Px.out.c1
        have Pxc2 := Px.out.c2
        have Pyc0 := Py.out.c0
        have Pyc1 := Py.out.c1
        have Pyc2 := Py.out.c2
        have Puc0 := Pu.out.c0
        have Puc1 := Pu.out.c1
        have Puc2 := Pu.out.c2
        clear hb
        go_upto_region 21 with fail
        obtain ⟨Uv, hU⟩ : ∃ U, U = wv.alloc (.cells #[.bool sv, .slice Av nv cv, .int .i64 xv] 24) := ⟨_, rfl⟩
        rw [← hU]
        have Pv : Hid (Dbox Uv wv.heap.size sv (.slice Av nv cv) xv) := hid (hU ▸ heap_alloc_new _ _)
        have ha : Hid (Below wv.heap.size wv Uv) := hid (hU ▸ (Below.refl _ wv).alloc (Nat.le_refl _) _)
        clear hU
        clear PAc0 PAc1 PAc2 PBc0 PBc1 PBc2 Pxc0 Pxc1 Pxc2 Pyc0 Pyc1 Pyc2 Puc0 Puc1 Puc2
        replace K := hid (K.out.trans (ha.out.mono K.out.size))
        replace PA := hid (PA.out.below ha.out PA.out.lt)
        replace PB := hid (PB.out.below ha.out PB.out.lt)
        replace DA := hid (DA.out.below ha.out)
        replace DB := hid (DB.out.below ha.out)
        replace Gx := hid (Gx.out.below ha.out)
        replace Px := hid (Px.out.below ha.out Px.out.lt)
        replace Gy := hid (Gy.out.below ha.out)
        replace Py := hid (Py.out.below ha.out Py.out.lt)
        replace Gu := hid (Gu.out.below ha.out)
        replace Pu := hid (Pu.out.below ha.out Pu.out.lt)
        replace Gv := hid (Gv.out.below ha.out)
        have PAc0 := PA.out.c0
        have PAc1 := PA.out.c1
        have PAc2 := PA.out.c2
        have PBc0 := PB.out.c0
        have PBc1 := PB.out.c1
        have PBc2 := PB.out.c2
        have Pxc0 := Px.out.c0
        have Pxc1 := Px.out.c1
        have Pxc2 := Px.out.c2
        have Pyc0 := Py.out.c0
        have Pyc1 := Py.out.c1
        have Pyc2 := Py.out.c2
        have Puc0 := Pu.out.c0
        have Puc1 := Pu.out.c1
        have Puc2 := Pu.out.c2
        have Pvc0 := Pv.out.c0
        have Pvc1 := Pv.out.c1
        have Pvc2 := Pv.out.c2
        clear ha
        have hue := qzerou HEu.out
        have hve := qzerou HEv.out
        have hp1 := Hp.out
        have hq1 := Hq.out
        have hn1 := HN.out
        have hu2 : (eu = 2 ∧ i' = 64) ∨ eu = 0 ∨ eu = 10 := by
          rcases hue with ⟨h1, h2⟩ | ⟨h1, h3, h2⟩ | ⟨h1, h3, h2⟩
          · exact absurd ⟨hp1, hq1⟩ h1
          · exact .inl ⟨h2, by omega⟩
          · exact .inr h2
        have hv2 : (ev = 2 ∧ i' = 64) ∨ ev = 0 ∨ ev = 10 := by
          rcases hve with ⟨h1, h2⟩ | ⟨h1, h3, h2⟩ | ⟨h1, h3, h2⟩
          · exact absurd ⟨hp1, hq1⟩ h1
          · exact .inl ⟨h2, by omega⟩
          · exact .inr h2
        clear hue hve hp1 hq1 hn1
        by_cases h64 : i' = 64
        case pos =>
          have h64b : ((i' : Int) == 64) = true := by simp; omega
          clear hu2 hv2 h64
          cases hu0 : (eu != 0)
          · cases hv0 : (ev != 0)
            · exfalso
              have a1 : eu = 0 := by simpa using hu0
              subst a1
              have := (qzero HEu.out).2.1.2.2
              have : (i' : Int) = 64 := by simpa using h64b
              omega
            · clear HEu HEv
              go_wp2
              go_ret
              exact ⟨rfl, K.out⟩
          · clear HEu HEv
            go_wp2
            go_ret
            exact ⟨rfl, K.out⟩
        have h64b : ((i' : Int) == 64) = false := by simp; omega
        have hu3 : eu = 0 ∨ eu = 10 := by omega
        have hv3 : ev = 0 ∨ ev = 10 := by omega
        clear hu2 hv2 h64
        rcases hu3 with rfl | rfl
        case inr =>
          clear HEu HEv hv3
          go_wp2
          go_ret
          exact ⟨rfl, K.out⟩
        rcases hv3 with rfl | rfl
        case inr =>
          clear HEu HEv
          go_wp2
          go_ret
          exact ⟨rfl, K.out⟩
        clear HEu HEv h64b hw1
        rw [resD_ok rfl, Int.toNat_natCast] at Gu Gv
        have e5 : (tp (4000 - i') : Int) = 2 * (tp (4000 - (i' + 1)) : Int) := by have := half_tp 1 (k := i') (by omega); omega
        have hT0 := tp_cast_pos (4000 - (i' + 1))
        obtain ⟨F', hF'⟩ : ∃ F' : Int, F' = M * 2 ^ (i' + 1) / N := ⟨_, rfl⟩
        obtain ⟨C', hC'⟩ : ∃ C' : Int, C' = -(-(M * 2 ^ (i' + 1)) / N) := ⟨_, rfl⟩
        rw [← hF'] at Gu
        rw [← hC'] at Gv
        rw [down_form] at hF'
        rw [up_form] at hC'
        have BM3 := BM.out
        rw [← hF', ← hC'] at BM3
        obtain ⟨b1, b2, b3, b4⟩ := BM3
        rw [e5] at Gx Gy
        obtain ⟨T, hT⟩ : ∃ T : Int, T = (tp (4000 - (i' + 1)) : Int) := ⟨_, rfl⟩
        rw [← hT] at Gx Gy Gu Gv hT0
        have s1 : F * (2 * T) = 2 * F * T := by rw [← Int.mul_assoc, Int.mul_comm F 2]
        have s2 : C * (2 * T) = 2 * C * T := by rw [← Int.mul_assoc, Int.mul_comm C 2]
        rw [s1] at Gx
        rw [s2] at Gy
        have m1 := hid (cmpI_le (Int.mul_le_mul_of_nonneg_right b2 (Int.le_of_lt hT0)))
        have m2 := hid (cmpI_le (Int.mul_le_mul_of_nonneg_right b3 (Int.le_of_lt hT0)))
        have m3 : Hid ((2 * F * T = 2 * C * T ∧ F' * T = C' * T ∧ F' * T = 2 * F * T) ∨ ¬ 2 * F * T = 2 * C * T) := by
          by_cases hc : F = C
          · have b5 := b4 hc
            rw [b5.1, b5.2, ← hc]
            exact .inl ⟨rfl, rfl, rfl⟩
          · refine .inr fun h => hc ?_
            have := Int.eq_of_mul_eq_mul_right (by omega) h
            omega
        clear hF' hC' b1 b2 b3 b4 e5 hT0 hT s1 s2 BM HRx HRy HN Hp Hq
        go_wp2_with fail
        refine (dcmp_any Gx.out Gu.out).mono ?_
        rintro e wm ⟨r1, er1, rfl, H1, hb⟩
        obtain ⟨rfl, e1⟩ := H1.out.1 ⟨trivial, trivial⟩
        rw [← e1] at m1
        clear e1 H1
        have hr1 := m1.out
        clear m1
        clear PAc0 PAc1 PAc2 PBc0 PBc1 PBc2 Pxc0 Pxc1 Pxc2 Pyc0 Pyc1 Pyc2 Puc0 Puc1 Puc2 Pvc0 Pvc1 Pvc2
        replace K := hid (K.out.trans (hb.out.mono K.out.size))
        replace PA := hid (PA.out.below hb.out PA.out.lt)
        replace PB := hid (PB.out.below hb.out PB.out.lt)
        replace DA := hid (DA.out.below hb.out)
        replace DB := hid (DB.out.below hb.out)
        replace Gx := hid (Gx.out.below hb.out)
        replace Px := hid (Px.out.below hb.out Px.out.lt)
        replace Gy := hid (Gy.out.below hb.out)
        replace Py := hid (Py.out.below hb.out Py.out.lt)
        replace Gu := hid (Gu.out.below hb.out)
        replace Pu := hid (Pu.out.below hb.out Pu.out.lt)
        replace Gv := hid (Gv.out.below hb.out)
        replace Pv := hid (Pv.out.below hb.out Pv.out.lt)
        have PAc0 := PA.out.c0
        have PAc1 := PA.out.c1
        have PAc2 := PA.out.c2
        have PBc0 := PB.out.c0
        have PBc1 := PB.out.c1
        have PBc2 := PB.out.c2
        have Pxc0 := Px.out.c0
        have Pxc1 := Px.out.c1
        have Pxc2 := Px.out.c2
        have Pyc0 := Py.out.c0
        have Pyc1 := Py.out.c1
        have Pyc2 := Py.out.c2
        have Puc0 := Pu.out.c0
        have Puc1 := Pu.out.c1
        have Puc2 := Pu.out.c2
        have Pvc0 := Pv.out.c0
        have Pvc1 := Pv.out.c1
        have Pvc2 := Pv.out.c2
        clear hb
        go_wp2_with fail
        refine (dcmp_any Gv.out Gy.out).mono ?_
        rintro e wn ⟨r2, er2, rfl, H2, hb⟩
        obtain ⟨rfl, e2⟩ := H2.out.1 ⟨trivial, trivial⟩
        rw [← e2] at m2
        clear e2 H2
        have hr2 := m2.out
        clear m2
        clear PAc0 PAc1 PAc2 PBc0 PBc1 PBc2 Pxc0 Pxc1 Pxc2 Pyc0 Pyc1 Pyc2 Puc0 Puc1 Puc2 Pvc0 Pvc1 Pvc2
        replace K := hid (K.out.trans (hb.out.mono K.out.size))
        replace PA := hid (PA.out.below hb.out PA.out.lt)
        replace PB := hid (PB.out.below hb.out PB.out.lt)
        replace DA := hid (DA.out.below hb.out)
        replace DB := hid (DB.out.below hb.out)
        replace Gx := hid (Gx.out.below hb.out)
        replace Px := hid (Px.out.below hb.out Px.out.lt)
        replace Gy := hid (Gy.out.below hb.out)
        replace Py := hid (Py.out.below hb.out Py.out.lt)
        replace Gu := hid (Gu.out.below hb.out)
        replace Pu := hid (Pu.out.below hb.out Pu.out.lt)
        replace Gv := hid (Gv.out.below hb.out)
        replace Pv := hid (Pv.out.below hb.out Pv.out.lt)
        have PAc0 := PA.out.c0
        have PAc1 := PA.out.c1
        have PAc2 := PA.out.c2
        have PBc0 := PB.out.c0
        have PBc1 := PB.out.c1
        have PBc2 := PB.out.c2
        have Pxc0 := Px.out.c0
        have Pxc1 := Px.out.c1
        have Pxc2 := Px.out.c2
        have Pyc0 := Py.out.c0
        have Pyc1 := Py.out.c1
        have Pyc2 := Py.out.c2
        have Puc0 := Pu.out.c0
        have Puc1 := Pu.out.c1
        have Puc2 := Pu.out.c2
        have Pvc0 := Pv.out.c0
        have Pvc1 := Pv.out.c1
        have Pvc2 := Pv.out.c2
        clear hb
        rcases m3.out with m4 | m4
        case inr =>
          go_wp2_with fail
          refine (same_false Gx.out Gy.out trivial trivial m4).mono ?_
          rintro e wo ⟨rfl, hb⟩
          clear m3 m4
          clear PAc0 PAc1 PAc2 PBc0 PBc1 PBc2 Pxc0 Pxc1 Pxc2 Pyc0 Pyc1 Pyc2 Puc0 Puc1 Puc2 Pvc0 Pvc1 Pvc2
          replace K := hid (K.out.trans (hb.out.mono K.out.size))
          replace PA := hid (PA.out.below hb.out PA.out.lt)
          replace PB := hid (PB.out.below hb.out PB.out.lt)
          replace DA := hid (DA.out.below hb.out)
          replace DB := hid (DB.out.below hb.out)
          replace Gx := hid (Gx.out.below hb.out)
          replace Px := hid (Px.out.below hb.out Px.out.lt)
          replace Gy := hid (Gy.out.below hb.out)
          replace Py := hid (Py.out.below hb.out Py.out.lt)
          replace Gu := hid (Gu.out.below hb.out)
          replace Pu := hid (Pu.out.below hb.out Pu.out.lt)
          replace Gv := hid (Gv.out.below hb.out)
          replace Pv := hid (Pv.out.below hb.out Pv.out.lt)
          have PAc0 := PA.out.c0
          have PAc1 := PA.out.c1
          have PAc2 := PA.out.c2
          have PBc0 := PB.out.c0
          have PBc1 := PB.out.c1
          have PBc2 := PB.out.c2
          have Pxc0 := Px.out.c0
          have Pxc1 := Px.out.c1
          have Pxc2 := Px.out.c2
          have Pyc0 := Py.out.c0
          have Pyc1 := Py.out.c1
          have Pyc2 := Py.out.c2
          have Puc0 := Pu.out.c0
          have Puc1 := Pu.out.c1
          have Puc2 := Pu.out.c2
          have Pvc0 := Pv.out.c0
          have Pvc1 := Pv.out.c1
          have Pvc2 := Pv.out.c2
          clear hb
          go_wp2
          go_ret
          exact ⟨rfl, K.out⟩
        obtain ⟨m5, m6, m7⟩ := m4
        have M6 := hid m6
        have M7 := hid m7
        clear m6 m7 m3
        go_wp2_with fail
        refine (same_true Gx.out Gy.out trivial trivial m5).mono ?_
        rintro e wo ⟨rfl, hb⟩
        clear m5
        clear PAc0 PAc1 PAc2 PBc0 PBc1 PBc2 Pxc0 Pxc1 Pxc2 Pyc0 Pyc1 Pyc2 Puc0 Puc1 Puc2 Pvc0 Pvc1 Pvc2
        replace K := hid (K.out.trans (hb.out.mono K.out.size))
        replace PA := hid (PA.out.below hb.out PA.out.lt)
        replace PB := hid (PB.out.below hb.out PB.out.lt)
        replace DA := hid (DA.out.below hb.out)
        replace DB := hid (DB.out.below hb.out)
        replace Gx := hid (Gx.out.below hb.out)
        replace Px := hid (Px.out.below hb.out Px.out.lt)
        replace Gy := hid (Gy.out.below hb.out)
        replace Py := hid (Py.out.below hb.out Py.out.lt)
        replace Gu := hid (Gu.out.below hb.out)
        replace Pu := hid (Pu.out.below hb.out Pu.out.lt)
        replace Gv := hid (Gv.out.below hb.out)
        replace Pv := hid (Pv.out.below hb.out Pv.out.lt)
        have PAc0 := PA.out.c0
        have PAc1 := PA.out.c1
        have PAc2 := PA.out.c2
        have PBc0 := PB.out.c0
        have PBc1 := PB.out.c1
        have PBc2 := PB.out.c2
        have Pxc0 := Px.out.c0
        have Pxc1 := Px.out.c1
        have Pxc2 := Px.out.c2
        have Pyc0 := Py.out.c0
        have Pyc1 := Py.out.c1
        have Pyc2 := Py.out.c2
        have Puc0 := Pu.out.c0
        have Puc1 := Pu.out.c1
        have Puc2 := Pu.out.c2
        have Pvc0 := Pv.out.c0
        have Pvc1 := Pv.out.c1
        have Pvc2 := Pv.out.c2
        clear hb
        go_wp2_with fail
        refine (same_true Gu.out Gv.out trivial trivial M6.out).mono ?_
        rintro e wq ⟨rfl, hb⟩
        clear PAc0 PAc1 PAc2 PBc0 PBc1 PBc2 Pxc0 Pxc1 Pxc2 Pyc0 Pyc1 Pyc2 Puc0 Puc1 Puc2 Pvc0 Pvc1 Pvc2
        replace K := hid (K.out.trans (hb.out.mono K.out.size))
        replace PA := hid (PA.out.below hb.out PA.out.lt)
        replace PB := hid (PB.out.below hb.out PB.out.lt)
        replace DA := hid (DA.out.below hb.out)
        replace DB := hid (DB.out.below hb.out)
        replace Gx := hid (Gx.out.below hb.out)
        replace Px := hid (Px.out.below hb.out Px.out.lt)
        replace Gy := hid (Gy.out.below hb.out)
        replace Py := hid (Py.out.below hb.out Py.out.lt)
        replace Gu := hid (Gu.out.below hb.out)
        replace Pu := hid (Pu.out.below hb.out Pu.out.lt)
        replace Gv := hid (Gv.out.below hb.out)
        replace Pv := hid (Pv.out.below hb.out Pv.out.lt)
        have PAc0 := PA.out.c0
        have PAc1 := PA.out.c1
        have PAc2 := PA.out.c2
        have PBc0 := PB.out.c0
        have PBc1 := PB.out.c1
        have PBc2 := PB.out.c2
        have Pxc0 := Px.out.c0
        have Pxc1 := Px.out.c1
        have Pxc2 := Px.out.c2
        have Pyc0 := Py.out.c0
        have Pyc1 := Py.out.c1
        have Pyc2 := Py.out.c2
        have Puc0 := Pu.out.c0
        have Puc1 := Pu.out.c1
        have Puc2 := Pu.out.c2
        have Pvc0 := Pv.out.c0
        have Pvc1 := Pv.out.c1
        have Pvc2 := Pv.out.c2
        clear hb
        go_wp2_with fail
        refine (same_true Gu.out Gx.out trivial trivial M7.out).mono ?_
        rintro e wr2 ⟨rfl, hb⟩
        clear PAc0 PAc1 PAc2 PBc0 PBc1 PBc2 Pxc0 Pxc1 Pxc2 Pyc0 Pyc1 Pyc2 Puc0 Puc1 Puc2 Pvc0 Pvc1 Pvc2
        replace K := hid (K.out.trans (hb.out.mono K.out.size))
        replace PA := hid (PA.out.below hb.out PA.out.lt)
        replace PB := hid (PB.out.below hb.out PB.out.lt)
        replace DA := hid (DA.out.below hb.out)
        replace DB := hid (DB.out.below hb.out)
        replace Gx := hid (Gx.out.below hb.out)
        replace Px := hid (Px.out.below hb.out Px.out.lt)
        replace Gy := hid (Gy.out.below hb.out)
        replace Py := hid (Py.out.below hb.out Py.out.lt)
        replace Gu := hid (Gu.out.below hb.out)
        replace Pu := hid (Pu.out.below hb.out Pu.out.lt)
        replace Gv := hid (Gv.out.below hb.out)
        replace Pv := hid (Pv.out.below hb.out Pv.out.lt)
        have PAc0 := PA.out.c0
        have PAc1 := PA.out.c1
        have PAc2 := PA.out.c2
        have PBc0 := PB.out.c0
        have PBc1 := PB.out.c1
        have PBc2 := PB.out.c2
        have Pxc0 := Px.out.c0
        have Pxc1 := Px.out.c1
        have Pxc2 := Px.out.c2
        have Pyc0 := Py.out.c0
        have Pyc1 := Py.out.c1
        have Pyc2 := Py.out.c2
        have Puc0 := Pu.out.c0
        have Puc1 := Pu.out.c1
        have Puc2 := Pu.out.c2
        have Pvc0 := Pv.out.c0
        have Pvc1 := Pv.out.c1
        have Pvc2 := Pv.out.c2
        clear hb
        go_wp2
        go_ret
        exact ⟨rfl, K.out⟩

end Go.Proofs.YtmaggpigodkhhaaDoor
