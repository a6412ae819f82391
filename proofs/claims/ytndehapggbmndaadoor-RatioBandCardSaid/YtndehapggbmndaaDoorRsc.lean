/- RatioScales, walked. -/
import Derived.Test.YtndehapggbmndaaDoorRnm
namespace Go.Proofs.YtndehapggbmndaaDoor
open Go.RowKit

theorem canon_low {s : Bool} {V X k : Nat} {Q : Int} (hc : Canon s V X) (hX : X ≤ 1024) (hk : k ≤ 1024) (h : dv s V X = Q * (tp (4000 - k) : Int)) : X ≤ k := by
  rcases Nat.lt_or_ge k X with hlt | hge
  · have hodd := hc.2 (by omega)
    have e : tp (4000 - k) = tp (4000 - X) * tp (X - k) := by rw [← tp_add]; congr 1; omega
    have hev : tp (X - k) = 2 * tp (X - k - 1) := by
      obtain ⟨m, hm⟩ : ∃ m, X - k = m + 1 := ⟨X - k - 1, by omega⟩
      rw [hm, tp_succ, Nat.add_sub_cancel, Nat.mul_comm]
    have hp := tp_pos (4000 - X)
    have h1 : (V * tp (4000 - X) : Nat) = Q.natAbs * tp (4000 - k) := by
      have h2 := congrArg Int.natAbs h
      rw [Int.natAbs_mul] at h2
      cases s with
      | false =>
        have h3 : ((V * tp (4000 - X) : Nat) : Int).natAbs = Q.natAbs * (tp (4000 - k) : Int).natAbs := h2
        rwa [Int.natAbs_natCast, Int.natAbs_natCast] at h3
      | true =>
        have h3 : (-((V * tp (4000 - X) : Nat) : Int)).natAbs = Q.natAbs * (tp (4000 - k) : Int).natAbs := h2
        rwa [Int.natAbs_neg, Int.natAbs_natCast, Int.natAbs_natCast] at h3
    rw [e, hev] at h1
    have h3 : V * tp (4000 - X) = (2 * (Q.natAbs * tp (X - k - 1))) * tp (4000 - X) := by
      rw [h1]
      rw [Nat.mul_comm (tp (4000 - X)), ← Nat.mul_assoc, ← Nat.mul_assoc, Nat.mul_comm Q.natAbs 2, Nat.mul_assoc 2]
    have h4 := Nat.eq_of_mul_eq_mul_right hp h3
    omega
  · exact hge
theorem okay_half {Q : Int} {k : Nat} (h : Okay (Q * (tp (4000 - k) : Int))) (hk : k < 1024) : Okay (Q * (tp (4000 - (k + 1)) : Int)) := by
  obtain ⟨s, V, X, hc, hV, hX, hd⟩ := h
  have hXk := canon_low hc hX (by omega) hd
  refine half_okay hc hV (by omega) ?_
  rw [hd, show 4000 - k = (4000 - (k + 1)) + 1 by omega, tp_succ]
  generalize tp (4000 - (k + 1)) = T
  rw [Int.natCast_mul]
  exact (Int.mul_comm 2 (Q * (T : Int))).trans (Int.mul_assoc Q (T : Int) 2)
theorem half_tp (Q : Int) {k : Nat} (hk : k < 4000) : 2 * (Q * (tp (4000 - (k + 1)) : Int)) = Q * (tp (4000 - k) : Int) := by
  rw [show 4000 - k = (4000 - (k + 1)) + 1 by omega, tp_succ]
  generalize tp (4000 - (k + 1)) = T
  rw [Int.natCast_mul]
  exact (Int.mul_comm 2 (Q * (T : Int))).trans (Int.mul_assoc Q (T : Int) 2)
theorem quot_halves {H J M N P : Int} (h1 : 2 * H = M) (h2 : 2 * J = N) : H * P / J = M * P / N := by
  rw [← h1, ← h2, Int.mul_assoc, Int.mul_ediv_mul_of_pos _ _ (by omega)]
theorem quot_more {H M N : Int} {k : Nat} (h1 : 2 * H = M) : H * 2 ^ (k + 1) / N = M * 2 ^ k / N := by
  rw [← h1, Int.pow_succ, Int.mul_comm (2 ^ k) 2, ← Int.mul_assoc, Int.mul_comm H 2]
theorem qzero {p q : Prop} {N k R : Int} (h : Qerrs p q N k R 0) : (p ∧ q) ∧ (0 < N ∧ 0 ≤ k ∧ k ≤ 64) ∧ Okay R := by
  by_cases hpq : p ∧ q
  · by_cases ha : 0 < N ∧ 0 ≤ k ∧ k ≤ 64
    · refine ⟨hpq, ha, ?_⟩
      rcases h.2.2 hpq ha with ⟨ho, _⟩ | ⟨_, h0⟩
      · exact ho
      · cases h0
    · have := h.2.1 hpq ha
      cases this
  · have := h.1 hpq
    cases this
theorem DRes.open_ {w w' : World} {E : Int → Prop} {R : Int} {e : Ending} (h : DRes w E R e w') : ∃ s A n c x er, e = .returned (.tuple #[.agg #[.bool s, .slice A n c, .int .i64 x], .int .i64 er]) ∧ Hid (E er) ∧ Hid (DArg w' True (resD er R) (.agg #[.bool s, .slice A n c, .int .i64 x])) ∧ Hid (Below w.heap.size w w') := by
  obtain ⟨d, er, rfl, HE, HD, HB⟩ := h
  obtain ⟨s, A, n, c, x, rfl⟩ := HD.out.parts
  exact ⟨s, A, n, c, x, er, rfl, HE, HD.out.arg, HB⟩

set_option maxRecDepth 100000 in
set_option maxHeartbeats 12800000 in
theorem rscales_walk {w : World} {A D : Option Addr} {n c m d : Nat} {f h : Nat → Nat} {s t : Bool} {x y k : Int} (hr : Rd w w.heap.size A n c f) (hs : Rd w w.heap.size D m d h) (hk : -9223372036854775808 ≤ k ∧ k ≤ 9223372036854775807) (hT : Tab w) (hT64 : Tab64 w) :
    Calls Tryd.prog 7 #[.agg #[.bool s, .slice A n c, .int .i64 x], .agg #[.bool t, .slice D m d, .int .i64 y], .int .i64 k] w fun e w' => e = .returned (.bool true) ∧ Below w.heap.size w w' := by
  have hn := hr.max
  have hm := hs.max
  obtain ⟨p, M, hDA⟩ := arg_of (s := s) (x := x) hr
  obtain ⟨q, N, hDB⟩ := arg_of (s := t) (x := y) hs
  obtain ⟨W, hW⟩ : ∃ W, W = (w.alloc (.cells #[.bool s, .slice A n c, .int .i64 x] 24)).alloc (.cells #[.bool t, .slice D m d, .int .i64 y] 24) := ⟨_, rfl⟩
  have K := hid (show Below w.heap.size w W from hW ▸ ((Below.refl w.heap.size w).alloc (Nat.le_refl _) _).alloc (by simp) _)
  have PA : Hid (Dbox W w.heap.size s (.slice A n c) x) := hid (hW ▸ (Below.heap_alloc _ _ _ (by simp)).trans (heap_alloc_new w _))
  have PB : Hid (Dbox W (w.heap.size + 1) t (.slice D m d) y) := hid (hW ▸ heap_alloc2_new w _ _)
  have DA := hid (hDA.below K.out)
  have DB := hid (hDB.below K.out)
  have HT := hid hT
  have HU := hid hT64
  have HW := hid hW
  clear hW hr hs hDA hDB hT hT64
  go_enter Tryd.func7, Tryd.ntmps7
  go_upto_region 1 with fail
  rw [← HW.out]
  clear HW
  go_wp2_with fail
  refine (ralive_any _ (HT.out.below K.out HT.out.lt) (HU.out.below K.out HU.out.lt)).mono ?_
  rintro e w1 ⟨rfl, hb⟩
  replace K := hid (K.out.trans (hb.out.mono K.out.size))
  replace PA := hid (PA.out.below hb.out PA.out.lt)
  replace PB := hid (PB.out.below hb.out PB.out.lt)
  replace DA := hid (DA.out.below hb.out)
  replace DB := hid (DB.out.below hb.out)
  have PAc0 := PA.out.c0
  have PAc1 := PA.out.c1
  have PAc2 := PA.out.c2
  have PBc0 := PB.out.c0
  have PBc1 := PB.out.c1
  have PBc2 := PB.out.c2
  clear hb
  go_wp2_with fail
  refine (dgreat_any s A n c x _ hn).mono ?_
  rintro e w2 ⟨rfl, hb⟩
  clear PAc0 PAc1 PAc2 PBc0 PBc1 PBc2
  replace K := hid (K.out.trans (hb.out.mono K.out.size))
  replace PA := hid (PA.out.below hb.out PA.out.lt)
  replace PB := hid (PB.out.below hb.out PB.out.lt)
  replace DA := hid (DA.out.below hb.out)
  replace DB := hid (DB.out.below hb.out)
  have PAc0 := PA.out.c0
  have PAc1 := PA.out.c1
  have PAc2 := PA.out.c2
  have PBc0 := PB.out.c0
  have PBc1 := PB.out.c1
  have PBc2 := PB.out.c2
  clear hb
  by_cases hg : 42 < n ∨ 1100 < x
  · rw [bool_of_dec hg]
    clear hg
    go_wp2
    go_ret
    exact ⟨rfl, K.out⟩
  rw [bool_of_not hg]
  go_wp2_with fail
  refine (dgreat_any t D m d y _ hm).mono ?_
  rintro e w3 ⟨rfl, hb⟩
  clear PAc0 PAc1 PAc2 PBc0 PBc1 PBc2
  replace K := hid (K.out.trans (hb.out.mono K.out.size))
  replace PA := hid (PA.out.below hb.out PA.out.lt)
  replace PB := hid (PB.out.below hb.out PB.out.lt)
  replace DA := hid (DA.out.below hb.out)
  replace DB := hid (DB.out.below hb.out)
  have PAc0 := PA.out.c0
  have PAc1 := PA.out.c1
  have PAc2 := PA.out.c2
  have PBc0 := PB.out.c0
  have PBc1 := PB.out.c1
  have PBc2 := PB.out.c2
  clear hb
  by_cases hg2 : 42 < m ∨ 1100 < y
  · rw [bool_of_dec hg2]
    clear hg hg2
    go_wp2
    go_ret
    exact ⟨rfl, K.out⟩
  rw [bool_of_not hg2]
  clear hg hg2
  go_wp2_with fail
  refine (dhalf_any DA.out (HT.out.below K.out HT.out.lt)).mono ?_
  rintro e wc ⟨Hc, hHc, hh⟩
  obtain ⟨sc, Ac, nc, cc, xc, ec, rfl, HEc, Gc, hb⟩ := hh.open_
  clear hh
  clear PAc0 PAc1 PAc2 PBc0 PBc1 PBc2
  replace K := hid (K.out.trans (hb.out.mono K.out.size))
  replace PA := hid (PA.out.below hb.out PA.out.lt)
  replace PB := hid (PB.out.below hb.out PB.out.lt)
  replace DA := hid (DA.out.below hb.out)
  replace DB := hid (DB.out.below hb.out)
  have PAc0 := PA.out.c0
  have PAc1 := PA.out.c1
  have PAc2 := PA.out.c2
  have PBc0 := PB.out.c0
  have PBc1 := PB.out.c1
  have PBc2 := PB.out.c2
  clear hb
  replace hHc := hid hHc
  go_upto_region 5 with fail
  obtain ⟨Uc, hU⟩ : ∃ U, U = wc.alloc (.cells #[.bool sc, .slice Ac nc cc, .int .i64 xc] 24) := ⟨_, rfl⟩
  rw [← hU]
  have Pc : Hid (Dbox Uc wc.heap.size sc (.slice Ac nc cc) xc) := hid (hU ▸ heap_alloc_new _ _)
  have ha : Hid (Below wc.heap.size wc Uc) := hid (hU ▸ (Below.refl _ wc).alloc (Nat.le_refl _) _)
  clear hU
  clear PAc0 PAc1 PAc2 PBc0 PBc1 PBc2
  replace K := hid (K.out.trans (ha.out.mono K.out.size))
  replace PA := hid (PA.out.below ha.out PA.out.lt)
  replace PB := hid (PB.out.below ha.out PB.out.lt)
  replace DA := hid (DA.out.below ha.out)
  replace DB := hid (DB.out.below ha.out)
  replace Gc := hid (Gc.out.below ha.out)
  have PAc0 := PA.out.c0
  have PAc1 := PA.out.c1
  have PAc2 := PA.out.c2
  have PBc0 := PB.out.c0
  have PBc1 := PB.out.c1
  have PBc2 := PB.out.c2
  have Pcc0 := Pc.out.c0
  have Pcc1 := Pc.out.c1
  have Pcc2 := Pc.out.c2
  clear ha
  go_wp2_with fail
  refine (dhalf_any DB.out (HT.out.below K.out HT.out.lt)).mono ?_
  rintro e wd ⟨Hd, hHd, hh⟩
  obtain ⟨sd, Ad, nd, cd, xd, ed, rfl, HEd, Gd, hb⟩ := hh.open_
  clear hh
  clear PAc0 PAc1 PAc2 PBc0 PBc1 PBc2 Pcc0 Pcc1 Pcc2
  replace K := hid (K.out.trans (hb.out.mono K.out.size))
  replace PA := hid (PA.out.below hb.out PA.out.lt)
  replace PB := hid (PB.out.below hb.out PB.out.lt)
  replace DA := hid (DA.out.below hb.out)
  replace DB := hid (DB.out.below hb.out)
  replace Gc := hid (Gc.out.below hb.out)
  replace Pc := hid (Pc.out.below hb.out Pc.out.lt)
  have PAc0 := PA.out.c0
  have PAc1 := PA.out.c1
  have PAc2 := PA.out.c2
  have PBc0 := PB.out.c0
  have PBc1 := PB.out.c1
  have PBc2 := PB.out.c2
  have Pcc0 := Pc.out.c0
  have Pcc1 := Pc.out.c1
  have Pcc2 := Pc.out.c2
  clear hb
  replace hHd := hid hHd
  go_upto_region 6 with fail
  obtain ⟨Ud, hU⟩ : ∃ U, U = wd.alloc (.cells #[.bool sd, .slice Ad nd cd, .int .i64 xd] 24) := ⟨_, rfl⟩
  rw [← hU]
  have Pd : Hid (Dbox Ud wd.heap.size sd (.slice Ad nd cd) xd) := hid (hU ▸ heap_alloc_new _ _)
  have ha : Hid (Below wd.heap.size wd Ud) := hid (hU ▸ (Below.refl _ wd).alloc (Nat.le_refl _) _)
  clear hU
  clear PAc0 PAc1 PAc2 PBc0 PBc1 PBc2 Pcc0 Pcc1 Pcc2
  replace K := hid (K.out.trans (ha.out.mono K.out.size))
  replace PA := hid (PA.out.below ha.out PA.out.lt)
  replace PB := hid (PB.out.below ha.out PB.out.lt)
  replace DA := hid (DA.out.below ha.out)
  replace DB := hid (DB.out.below ha.out)
  replace Gc := hid (Gc.out.below ha.out)
  replace Pc := hid (Pc.out.below ha.out Pc.out.lt)
  replace Gd := hid (Gd.out.below ha.out)
  have PAc0 := PA.out.c0
  have PAc1 := PA.out.c1
  have PAc2 := PA.out.c2
  have PBc0 := PB.out.c0
  have PBc1 := PB.out.c1
  have PBc2 := PB.out.c2
  have Pcc0 := Pc.out.c0
  have Pcc1 := Pc.out.c1
  have Pcc2 := Pc.out.c2
  have Pdc0 := Pd.out.c0
  have Pdc1 := Pd.out.c1
  have Pdc2 := Pd.out.c2
  clear ha
  go_wp2_with fail
  refine (rfloor_any (k := k) DA.out DB.out (HT.out.below K.out HT.out.lt) (HU.out.below K.out HU.out.lt)).mono ?_
  intro e wx hh
  obtain ⟨sx, Ax, nx, cx, xx, ex, rfl, HEx, Gx, hb⟩ := hh.open_
  clear hh
  clear PAc0 PAc1 PAc2 PBc0 PBc1 PBc2 Pcc0 Pcc1 Pcc2 Pdc0 Pdc1 Pdc2
  replace K := hid (K.out.trans (hb.out.mono K.out.size))
  replace PA := hid (PA.out.below hb.out PA.out.lt)
  replace PB := hid (PB.out.below hb.out PB.out.lt)
  replace DA := hid (DA.out.below hb.out)
  replace DB := hid (DB.out.below hb.out)
  replace Gc := hid (Gc.out.below hb.out)
  replace Pc := hid (Pc.out.below hb.out Pc.out.lt)
  replace Gd := hid (Gd.out.below hb.out)
  replace Pd := hid (Pd.out.below hb.out Pd.out.lt)
  have PAc0 := PA.out.c0
  have PAc1 := PA.out.c1
  have PAc2 := PA.out.c2
  have PBc0 := PB.out.c0
  have PBc1 := PB.out.c1
  have PBc2 := PB.out.c2
  have Pcc0 := Pc.out.c0
  have Pcc1 := Pc.out.c1
  have Pcc2 := Pc.out.c2
  have Pdc0 := Pd.out.c0
  have Pdc1 := Pd.out.c1
  have Pdc2 := Pd.out.c2
  clear hb
  go_upto_region 7 with fail
  obtain ⟨Ux, hU⟩ : ∃ U, U = wx.alloc (.cells #[.bool sx, .slice Ax nx cx, .int .i64 xx] 24) := ⟨_, rfl⟩
  rw [← hU]
  have Px : Hid (Dbox Ux wx.heap.size sx (.slice Ax nx cx) xx) := hid (hU ▸ heap_alloc_new _ _)
  have ha : Hid (Below wx.heap.size wx Ux) := hid (hU ▸ (Below.refl _ wx).alloc (Nat.le_refl _) _)
  clear hU
  clear PAc0 PAc1 PAc2 PBc0 PBc1 PBc2 Pcc0 Pcc1 Pcc2 Pdc0 Pdc1 Pdc2
  replace K := hid (K.out.trans (ha.out.mono K.out.size))
  replace PA := hid (PA.out.below ha.out PA.out.lt)
  replace PB := hid (PB.out.below ha.out PB.out.lt)
  replace DA := hid (DA.out.below ha.out)
  replace DB := hid (DB.out.below ha.out)
  replace Gc := hid (Gc.out.below ha.out)
  replace Pc := hid (Pc.out.below ha.out Pc.out.lt)
  replace Gd := hid (Gd.out.below ha.out)
  replace Pd := hid (Pd.out.below ha.out Pd.out.lt)
  replace Gx := hid (Gx.out.below ha.out)
  have PAc0 := PA.out.c0
  have PAc1 := PA.out.c1
  have PAc2 := PA.out.c2
  have PBc0 := PB.out.c0
  have PBc1 := PB.out.c1
  have PBc2 := PB.out.c2
  have Pcc0 := Pc.out.c0
  have Pcc1 := Pc.out.c1
  have Pcc2 := Pc.out.c2
  have Pdc0 := Pd.out.c0
  have Pdc1 := Pd.out.c1
  have Pdc2 := Pd.out.c2
  have Pxc0 := Px.out.c0
  have Pxc1 := Px.out.c1
  have Pxc2 := Px.out.c2
  clear ha
  by_cases hc : ec = 0
  case neg =>
    have hne : (ec != 0) = true := by simpa using hc
    clear hc
    go_wp2
    go_ret
    exact ⟨rfl, K.out⟩
  subst hc
  rw [resD_ok rfl] at Gc
  by_cases hd : ed = 0
  case neg =>
    have hne : (ed != 0) = true := by simpa using hd
    clear hd
    go_wp2
    go_ret
    exact ⟨rfl, K.out⟩
  subst hd
  rw [resD_ok rfl] at Gd
  by_cases hx : ex = 0
  case neg =>
    have hne : (ex != 0) = true := by simpa using hx
    clear hx
    go_wp2
    go_ret
    exact ⟨rfl, K.out⟩
  subst hx
  rw [resD_ok rfl] at Gx
  obtain ⟨⟨hp, hq⟩, ⟨hN, hk0, hk1⟩, hR⟩ := qzero HEx.out
  obtain ⟨hp', hHo⟩ := HEc.out.zero
  obtain ⟨hq', hJo⟩ := HEd.out.zero
  have e1 : 2 * Hc = M := hHc.out hp
  have e2 : 2 * Hd = N := hHd.out hq
  obtain ⟨j, rfl⟩ : ∃ j : Nat, k = j := ⟨k.toNat, by omega⟩
  rw [Int.toNat_natCast] at hR Gx
  obtain ⟨Q, hQ⟩ : ∃ Q : Int, Q = M * 2 ^ j / N := ⟨_, rfl⟩
  rw [← hQ] at hR Gx
  have HQ := hid hQ
  have HR := hid hR
  have E1 := hid e1
  have E2 := hid e2
  have HN := hid hN
  have Hp := hid hp
  have Hq := hid hq
  clear HEc HEd HEx hHc hHd hHo hJo hp' hq' hQ hR e1 e2 hN hp hq hk
  go_wp2_with fail
  refine (rfloor_any (k := (j : Int)) Gc.out Gd.out (HT.out.below K.out HT.out.lt) (HU.out.below K.out HU.out.lt)).mono ?_
  intro e wy hh
  obtain ⟨sy, Ay, ny, cy, xy, rfl, Gy, hb⟩ := qgood (R2 := Q * (tp (4000 - j) : Int)) hh (by have := HN.out; have := E2.out; omega) (by omega) (by rw [Int.toNat_natCast, quot_halves E1.out E2.out, ← HQ.out]) HR.out
  clear hh
  clear PAc0 PAc1 PAc2 PBc0 PBc1 PBc2 Pcc0 Pcc1 Pcc2 Pdc0 Pdc1 Pdc2 Pxc0 Pxc1 Pxc2
  replace K := hid (K.out.trans (hb.out.mono K.out.size))
  replace PA := hid (PA.out.below hb.out PA.out.lt)
  replace PB := hid (PB.out.below hb.out PB.out.lt)
  replace DA := hid (DA.out.below hb.out)
  replace DB := hid (DB.out.below hb.out)
  replace Gc := hid (Gc.out.below hb.out)
  replace Pc := hid (Pc.out.below hb.out Pc.out.lt)
  replace Gd := hid (Gd.out.below hb.out)
  replace Pd := hid (Pd.out.below hb.out Pd.out.lt)
  replace Gx := hid (Gx.out.below hb.out)
  replace Px := hid (Px.out.below hb.out Px.out.lt)
  have PAc0 := PA.out.c0
  have PAc1 := PA.out.c1
  have PAc2 := PA.out.c2
  have PBc0 := PB.out.c0
  have PBc1 := PB.out.c1
  have PBc2 := PB.out.c2
  have Pcc0 := Pc.out.c0
  have Pcc1 := Pc.out.c1
  have Pcc2 := Pc.out.c2
  have Pdc0 := Pd.out.c0
  have Pdc1 := Pd.out.c1
  have Pdc2 := Pd.out.c2
  have Pxc0 := Px.out.c0
  have Pxc1 := Px.out.c1
  have Pxc2 := Px.out.c2
  clear hb
  go_upto_region 10 with fail
  obtain ⟨Uy, hU⟩ : ∃ U, U = wy.alloc (.cells #[.bool sy, .slice Ay ny cy, .int .i64 xy] 24) := ⟨_, rfl⟩
  rw [← hU]
  have Py : Hid (Dbox Uy wy.heap.size sy (.slice Ay ny cy) xy) := hid (hU ▸ heap_alloc_new _ _)
  have ha : Hid (Below wy.heap.size wy Uy) := hid (hU ▸ (Below.refl _ wy).alloc (Nat.le_refl _) _)
  clear hU
  clear PAc0 PAc1 PAc2 PBc0 PBc1 PBc2 Pcc0 Pcc1 Pcc2 Pdc0 Pdc1 Pdc2 Pxc0 Pxc1 Pxc2
  replace K := hid (K.out.trans (ha.out.mono K.out.size))
  replace PA := hid (PA.out.below ha.out PA.out.lt)
  replace PB := hid (PB.out.below ha.out PB.out.lt)
  replace DA := hid (DA.out.below ha.out)
  replace DB := hid (DB.out.below ha.out)
  replace Gc := hid (Gc.out.below ha.out)
  replace Pc := hid (Pc.out.below ha.out Pc.out.lt)
  replace Gd := hid (Gd.out.below ha.out)
  replace Pd := hid (Pd.out.below ha.out Pd.out.lt)
  replace Gx := hid (Gx.out.below ha.out)
  replace Px := hid (Px.out.below ha.out Px.out.lt)
  replace Gy := hid (Gy.out.below ha.out)
  have PAc0 := PA.out.c0
  have PAc1 := PA.out.c1
  have PAc2 := PA.out.c2
  have PBc0 := PB.out.c0
  have PBc1 := PB.out.c1
  have PBc2 := PB.out.c2
  have Pcc0 := Pc.out.c0
  have Pcc1 := Pc.out.c1
  have Pcc2 := Pc.out.c2
  have Pdc0 := Pd.out.c0
  have Pdc1 := Pd.out.c1
  have Pdc2 := Pd.out.c2
  have Pxc0 := Px.out.c0
  have Pxc1 := Px.out.c1
  have Pxc2 := Px.out.c2
  have Pyc0 := Py.out.c0
  have Pyc1 := Py.out.c1
  have Pyc2 := Py.out.c2
  clear ha
  go_wp2_with fail
  refine (same_true Gx.out Gy.out trivial trivial rfl).mono ?_
  rintro e ws1 ⟨rfl, hb⟩
  clear PAc0 PAc1 PAc2 PBc0 PBc1 PBc2 Pcc0 Pcc1 Pcc2 Pdc0 Pdc1 Pdc2 Pxc0 Pxc1 Pxc2 Pyc0 Pyc1 Pyc2
  replace K := hid (K.out.trans (hb.out.mono K.out.size))
  replace PA := hid (PA.out.below hb.out PA.out.lt)
  replace PB := hid (PB.out.below hb.out PB.out.lt)
  replace DA := hid (DA.out.below hb.out)
  replace DB := hid (DB.out.below hb.out)
  replace Gc := hid (Gc.out.below hb.out)
  replace Pc := hid (Pc.out.below hb.out Pc.out.lt)
  replace Gd := hid (Gd.out.below hb.out)
  replace Pd := hid (Pd.out.below hb.out Pd.out.lt)
  replace Gx := hid (Gx.out.below hb.out)
  replace Px := hid (Px.out.below hb.out Px.out.lt)
  replace Gy := hid (Gy.out.below hb.out)
  replace Py := hid (Py.out.below hb.out Py.out.lt)
  have PAc0 := PA.out.c0
  have PAc1 := PA.out.c1
  have PAc2 := PA.out.c2
  have PBc0 := PB.out.c0
  have PBc1 := PB.out.c1
  have PBc2 := PB.out.c2
  have Pcc0 := Pc.out.c0
  have Pcc1 := Pc.out.c1
  have Pcc2 := Pc.out.c2
  have Pdc0 := Pd.out.c0
  have Pdc1 := Pd.out.c1
  have Pdc2 := Pd.out.c2
  have Pxc0 := Px.out.c0
  have Pxc1 := Px.out.c1
  have Pxc2 := Px.out.c2
  have Pyc0 := Py.out.c0
  have Pyc1 := Py.out.c1
  have Pyc2 := Py.out.c2
  clear hb
  by_cases h63 : (63 : Int) < (j : Int)
  · go_wp2
    go_ret
    exact ⟨rfl, K.out⟩
  have hj1 : IntKind.i64.wrap ((j : Int) + 1) = (j : Int) + 1 := IntWalk.i64_in _ (by omega)
  go_wp2_with fail
  refine (rfloor_any (k := (j : Int) + 1) Gc.out DB.out (HT.out.below K.out HT.out.lt) (HU.out.below K.out HU.out.lt)).mono ?_
  intro e wz hh
  obtain ⟨sz, Az, nz, cz, xz, rfl, Gz, hb⟩ := (⟨hh, Hq.out⟩ : DRes _ (Qerrs True q N ((j : Int) + 1) _) _ _ _ ∧ q) |> fun hh => hh.1.goodq (M := _) (fun er he => he.zero_ trivial hh.2 HN.out (by omega) (by rw [show ((j : Int) + 1).toNat = j + 1 by omega, quot_more E1.out, ← HQ.out]; exact okay_half HR.out (by omega)))
  clear hh
  clear PAc0 PAc1 PAc2 PBc0 PBc1 PBc2 Pcc0 Pcc1 Pcc2 Pdc0 Pdc1 Pdc2 Pxc0 Pxc1 Pxc2 Pyc0 Pyc1 Pyc2
  replace K := hid (K.out.trans (hb.out.mono K.out.size))
  replace PA := hid (PA.out.below hb.out PA.out.lt)
  replace PB := hid (PB.out.below hb.out PB.out.lt)
  replace DA := hid (DA.out.below hb.out)
  replace DB := hid (DB.out.below hb.out)
  replace Gc := hid (Gc.out.below hb.out)
  replace Pc := hid (Pc.out.below hb.out Pc.out.lt)
  replace Gd := hid (Gd.out.below hb.out)
  replace Pd := hid (Pd.out.below hb.out Pd.out.lt)
  replace Gx := hid (Gx.out.below hb.out)
  replace Px := hid (Px.out.below hb.out Px.out.lt)
  replace Gy := hid (Gy.out.below hb.out)
  replace Py := hid (Py.out.below hb.out Py.out.lt)
  have PAc0 := PA.out.c0
  have PAc1 := PA.out.c1
  have PAc2 := PA.out.c2
  have PBc0 := PB.out.c0
  have PBc1 := PB.out.c1
  have PBc2 := PB.out.c2
  have Pcc0 := Pc.out.c0
  have Pcc1 := Pc.out.c1
  have Pcc2 := Pc.out.c2
  have Pdc0 := Pd.out.c0
  have Pdc1 := Pd.out.c1
  have Pdc2 := Pd.out.c2
  have Pxc0 := Px.out.c0
  have Pxc1 := Px.out.c1
  have Pxc2 := Px.out.c2
  have Pyc0 := Py.out.c0
  have Pyc1 := Py.out.c1
  have Pyc2 := Py.out.c2
  clear hb
  rw [show ((j : Int) + 1).toNat = j + 1 by omega, quot_more E1.out, ← HQ.out] at Gz
  go_upto_region 15 with fail
  obtain ⟨Uz, hU⟩ : ∃ U, U = wz.alloc (.cells #[.bool sz, .slice Az nz cz, .int .i64 xz] 24) := ⟨_, rfl⟩
  rw [← hU]
  have Pz : Hid (Dbox Uz wz.heap.size sz (.slice Az nz cz) xz) := hid (hU ▸ heap_alloc_new _ _)
  have ha : Hid (Below wz.heap.size wz Uz) := hid (hU ▸ (Below.refl _ wz).alloc (Nat.le_refl _) _)
  clear hU
  clear PAc0 PAc1 PAc2 PBc0 PBc1 PBc2 Pcc0 Pcc1 Pcc2 Pdc0 Pdc1 Pdc2 Pxc0 Pxc1 Pxc2 Pyc0 Pyc1 Pyc2
  replace K := hid (K.out.trans (ha.out.mono K.out.size))
  replace PA := hid (PA.out.below ha.out PA.out.lt)
  replace PB := hid (PB.out.below ha.out PB.out.lt)
  replace DA := hid (DA.out.below ha.out)
  replace DB := hid (DB.out.below ha.out)
  replace Gc := hid (Gc.out.below ha.out)
  replace Pc := hid (Pc.out.below ha.out Pc.out.lt)
  replace Gd := hid (Gd.out.below ha.out)
  replace Pd := hid (Pd.out.below ha.out Pd.out.lt)
  replace Gx := hid (Gx.out.below ha.out)
  replace Px := hid (Px.out.below ha.out Px.out.lt)
  replace Gy := hid (Gy.out.below ha.out)
  replace Py := hid (Py.out.below ha.out Py.out.lt)
  replace Gz := hid (Gz.out.below ha.out)
  have PAc0 := PA.out.c0
  have PAc1 := PA.out.c1
  have PAc2 := PA.out.c2
  have PBc0 := PB.out.c0
  have PBc1 := PB.out.c1
  have PBc2 := PB.out.c2
  have Pcc0 := Pc.out.c0
  have Pcc1 := Pc.out.c1
  have Pcc2 := Pc.out.c2
  have Pdc0 := Pd.out.c0
  have Pdc1 := Pd.out.c1
  have Pdc2 := Pd.out.c2
  have Pxc0 := Px.out.c0
  have Pxc1 := Px.out.c1
  have Pxc2 := Px.out.c2
  have Pyc0 := Py.out.c0
  have Pyc1 := Py.out.c1
  have Pyc2 := Py.out.c2
  have Pzc0 := Pz.out.c0
  have Pzc1 := Pz.out.c1
  have Pzc2 := Pz.out.c2
  clear ha
  go_wp2_with fail
  refine (dhalf_any Gx.out (HT.out.below K.out HT.out.lt)).mono ?_
  rintro e wh ⟨Hh, hHh, hh⟩
  have eH : Hh = Q * (tp (4000 - (j + 1)) : Int) := by
    have e3 := hHh trivial
    have e4 := half_tp Q (k := j) (by omega)
    omega
  subst eH
  obtain ⟨sh, Ah, nh, ch, xh, rfl, Gh, hb⟩ := hh.good trivial (okay_half HR.out (by omega))
  clear hh hHh
  clear PAc0 PAc1 PAc2 PBc0 PBc1 PBc2 Pcc0 Pcc1 Pcc2 Pdc0 Pdc1 Pdc2 Pxc0 Pxc1 Pxc2 Pyc0 Pyc1 Pyc2 Pzc0 Pzc1 Pzc2
  replace K := hid (K.out.trans (hb.out.mono K.out.size))
  replace PA := hid (PA.out.below hb.out PA.out.lt)
  replace PB := hid (PB.out.below hb.out PB.out.lt)
  replace DA := hid (DA.out.below hb.out)
  replace DB := hid (DB.out.below hb.out)
  replace Gc := hid (Gc.out.below hb.out)
  replace Pc := hid (Pc.out.below hb.out Pc.out.lt)
  replace Gd := hid (Gd.out.below hb.out)
  replace Pd := hid (Pd.out.below hb.out Pd.out.lt)
  replace Gx := hid (Gx.out.below hb.out)
  replace Px := hid (Px.out.below hb.out Px.out.lt)
  replace Gy := hid (Gy.out.below hb.out)
  replace Py := hid (Py.out.below hb.out Py.out.lt)
  replace Gz := hid (Gz.out.below hb.out)
  replace Pz := hid (Pz.out.below hb.out Pz.out.lt)
  have PAc0 := PA.out.c0
  have PAc1 := PA.out.c1
  have PAc2 := PA.out.c2
  have PBc0 := PB.out.c0
  have PBc1 := PB.out.c1
  have PBc2 := PB.out.c2
  have Pcc0 := Pc.out.c0
  have Pcc1 := Pc.out.c1
  have Pcc2 := Pc.out.c2
  have Pdc0 := Pd.out.c0
  have Pdc1 := Pd.out.c1
  have Pdc2 := Pd.out.c2
  have Pxc0 := Px.out.c0
  have Pxc1 := Px.out.c1
  have Pxc2 := Px.out.c2
  have Pyc0 := Py.out.c0
  have Pyc1 := Py.out.c1
  have Pyc2 := Py.out.c2
  have Pzc0 := Pz.out.c0
  have Pzc1 := Pz.out.c1
  have Pzc2 := Pz.out.c2
  clear hb
  go_upto_region 16 with fail
  obtain ⟨Uh, hU⟩ : ∃ U, U = wh.alloc (.cells #[.bool sh, .slice Ah nh ch, .int .i64 xh] 24) := ⟨_, rfl⟩
  rw [← hU]
  have Ph : Hid (Dbox Uh wh.heap.size sh (.slice Ah nh ch) xh) := hid (hU ▸ heap_alloc_new _ _)
  have ha : Hid (Below wh.heap.size wh Uh) := hid (hU ▸ (Below.refl _ wh).alloc (Nat.le_refl _) _)
  clear hU
  clear PAc0 PAc1 PAc2 PBc0 PBc1 PBc2 Pcc0 Pcc1 Pcc2 Pdc0 Pdc1 Pdc2 Pxc0 Pxc1 Pxc2 Pyc0 Pyc1 Pyc2 Pzc0 Pzc1 Pzc2
  replace K := hid (K.out.trans (ha.out.mono K.out.size))
  replace PA := hid (PA.out.below ha.out PA.out.lt)
  replace PB := hid (PB.out.below ha.out PB.out.lt)
  replace DA := hid (DA.out.below ha.out)
  replace DB := hid (DB.out.below ha.out)
  replace Gc := hid (Gc.out.below ha.out)
  replace Pc := hid (Pc.out.below ha.out Pc.out.lt)
  replace Gd := hid (Gd.out.below ha.out)
  replace Pd := hid (Pd.out.below ha.out Pd.out.lt)
  replace Gx := hid (Gx.out.below ha.out)
  replace Px := hid (Px.out.below ha.out Px.out.lt)
  replace Gy := hid (Gy.out.below ha.out)
  replace Py := hid (Py.out.below ha.out Py.out.lt)
  replace Gz := hid (Gz.out.below ha.out)
  replace Pz := hid (Pz.out.below ha.out Pz.out.lt)
  replace Gh := hid (Gh.out.below ha.out)
  have PAc0 := PA.out.c0
  have PAc1 := PA.out.c1
  have PAc2 := PA.out.c2
  have PBc0 := PB.out.c0
  have PBc1 := PB.out.c1
  have PBc2 := PB.out.c2
  have Pcc0 := Pc.out.c0
  have Pcc1 := Pc.out.c1
  have Pcc2 := Pc.out.c2
  have Pdc0 := Pd.out.c0
  have Pdc1 := Pd.out.c1
  have Pdc2 := Pd.out.c2
  have Pxc0 := Px.out.c0
  have Pxc1 := Px.out.c1
  have Pxc2 := Px.out.c2
  have Pyc0 := Py.out.c0
  have Pyc1 := Py.out.c1
  have Pyc2 := Py.out.c2
  have Pzc0 := Pz.out.c0
  have Pzc1 := Pz.out.c1
  have Pzc2 := Pz.out.c2
  have Phc0 := Ph.out.c0
  have Phc1 := Ph.out.c1
  have Phc2 := Ph.out.c2
  clear ha
  go_wp2_with fail
  refine (same_true Gz.out Gh.out trivial trivial rfl).mono ?_
  rintro e ws2 ⟨rfl, hb⟩
  clear PAc0 PAc1 PAc2 PBc0 PBc1 PBc2 Pcc0 Pcc1 Pcc2 Pdc0 Pdc1 Pdc2 Pxc0 Pxc1 Pxc2 Pyc0 Pyc1 Pyc2 Pzc0 Pzc1 Pzc2 Phc0 Phc1 Phc2
  replace K := hid (K.out.trans (hb.out.mono K.out.size))
  replace PA := hid (PA.out.below hb.out PA.out.lt)
  replace PB := hid (PB.out.below hb.out PB.out.lt)
  replace DA := hid (DA.out.below hb.out)
  replace DB := hid (DB.out.below hb.out)
  replace Gc := hid (Gc.out.below hb.out)
  replace Pc := hid (Pc.out.below hb.out Pc.out.lt)
  replace Gd := hid (Gd.out.below hb.out)
  replace Pd := hid (Pd.out.below hb.out Pd.out.lt)
  replace Gx := hid (Gx.out.below hb.out)
  replace Px := hid (Px.out.below hb.out Px.out.lt)
  replace Gy := hid (Gy.out.below hb.out)
  replace Py := hid (Py.out.below hb.out Py.out.lt)
  replace Gz := hid (Gz.out.below hb.out)
  replace Pz := hid (Pz.out.below hb.out Pz.out.lt)
  replace Gh := hid (Gh.out.below hb.out)
  replace Ph := hid (Ph.out.below hb.out Ph.out.lt)
  have PAc0 := PA.out.c0
  have PAc1 := PA.out.c1
  have PAc2 := PA.out.c2
  have PBc0 := PB.out.c0
  have PBc1 := PB.out.c1
  have PBc2 := PB.out.c2
  have Pcc0 := Pc.out.c0
  have Pcc1 := Pc.out.c1
  have Pcc2 := Pc.out.c2
  have Pdc0 := Pd.out.c0
  have Pdc1 := Pd.out.c1
  have Pdc2 := Pd.out.c2
  have Pxc0 := Px.out.c0
  have Pxc1 := Px.out.c1
  have Pxc2 := Px.out.c2
  have Pyc0 := Py.out.c0
  have Pyc1 := Py.out.c1
  have Pyc2 := Py.out.c2
  have Pzc0 := Pz.out.c0
  have Pzc1 := Pz.out.c1
  have Pzc2 := Pz.out.c2
  have Phc0 := Ph.out.c0
  have Phc1 := Ph.out.c1
  have Phc2 := Ph.out.c2
  clear hb
  go_wp2
  go_ret
  exact ⟨rfl, K.out⟩

end Go.Proofs.YtndehapggbmndaaDoor
