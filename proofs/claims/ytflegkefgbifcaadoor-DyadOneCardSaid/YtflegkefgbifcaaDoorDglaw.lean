/- DyadGroup's walk. -/
import Derived.Test.YtflegkefgbifcaaDoorDhlaw
namespace Go.Proofs.YtflegkefgbifcaaDoor
open Go.RowKit

theorem arg_of {w : World} {A : Option Addr} {n c : Nat} {f : Nat → Nat} {s : Bool} {x : Int} (hr : Rd w w.heap.size A n c f) : ∃ (p : Prop) (M : Int), DArg w p M (.agg #[.bool s, .slice A n c, .int .i64 x]) := by
  by_cases hm : DMay s n f x
  · obtain ⟨X, rfl, c1, l1⟩ := may_canon hm hr.out
    exact ⟨True, dv s (vl f n) X, s, A, n, c, f, _, rfl, hr, ⟨fun _ => hm, fun _ => trivial⟩, fun _ => ⟨X, rfl, rfl⟩⟩
  · exact ⟨False, 0, s, A, n, c, f, _, rfl, hr, ⟨fun h => h.elim, fun h => hm h⟩, fun h => h.elim⟩
theorem Derrs.uniq {p q : Prop} {M N a b : Int} (h : Derrs p M a) (k : Derrs q N b) (hpq : p ↔ q) (hMN : M = N) : a = b := by
  subst hMN
  by_cases hp : p
  · exact (h.1 hp).uniq (k.1 (hpq.1 hp))
  · rw [h.2 hp, k.2 (fun hq => hp (hpq.2 hq))]
theorem Derrs.zero {p : Prop} {M : Int} (h : Derrs p M 0) : p ∧ Okay M := by
  by_cases hp : p
  · rcases h.1 hp with ⟨ho, _⟩ | ⟨_, h0⟩
    · exact ⟨hp, ho⟩
    · cases h0
  · have := h.2 hp
    cases this
theorem Derrs.good {p : Prop} {M er : Int} (h : Derrs p M er) (hp : p) (ho : Okay M) : er = 0 := (h.1 hp).uniq (.inl ⟨ho, rfl⟩)

theorem ret_bool {fn : Func} {R : Ending → World → Prop} {a : Act} {w : World} {p : Tmp} {v : Value} (h : fn.results = #[.tmp p]) (hp : a.tmps[p]?.getD undef = v) (hd : a.defers = []) (hR : R (.returned v) w) : bodyPost Tryd.prog fn R .ret a w := by
  refine bodyPost_ret (v := v) ?_ hd hR
  rw [results_tmp h]
  simpa using hp

set_option maxHeartbeats 12800000 in
set_option maxRecDepth 1000000 in
theorem group_walk {w : World} {Aa Ab Ac : Option Addr} {na ca nb cb nc cc : Nat} {fa fb fc : Nat → Nat} {sa sb sc : Bool} {xa xb xc : Int} (ha : Rd w w.heap.size Aa na ca fa) (hb : Rd w w.heap.size Ab nb cb fb) (hc : Rd w w.heap.size Ac nc cc fc) (hT : Tab w) :
    Calls Tryd.prog 7 #[.agg #[.bool sa, .slice Aa na ca, .int .i64 xa], .agg #[.bool sb, .slice Ab nb cb, .int .i64 xb], .agg #[.bool sc, .slice Ac nc cc, .int .i64 xc]] w fun e w' => e = .returned (.bool true) ∧ Below w.heap.size w w' := by
  obtain ⟨pa, Ma, hDa⟩ := arg_of (s := sa) (x := xa) ha
  obtain ⟨pb, Mb, hDb⟩ := arg_of (s := sb) (x := xb) hb
  obtain ⟨pc, Mc, hDc⟩ := arg_of (s := sc) (x := xc) hc
  have ham := ha.max
  have hbm := hb.max
  have hcm := hc.max
  have HT := hid hT
  have K := hid ((((Below.refl w.heap.size w).alloc (Nat.le_refl _) (.cells #[.bool sa, .slice Aa na ca, .int .i64 xa] 24)).alloc (by simp) (.cells #[.bool sb, .slice Ab nb cb, .int .i64 xb] 24)).alloc (by simp <;> omega) (.cells #[.bool sc, .slice Ac nc cc, .int .i64 xc] 24))
  have Pa : Hid (Dbox _ w.heap.size sa (.slice Aa na ca) xa) := heap3_0 w (.cells #[.bool sa, .slice Aa na ca, .int .i64 xa] 24) (.cells #[.bool sb, .slice Ab nb cb, .int .i64 xb] 24) (.cells #[.bool sc, .slice Ac nc cc, .int .i64 xc] 24)
  have Pb : Hid (Dbox _ (w.heap.size + 1) sb (.slice Ab nb cb) xb) := heap3_1 w (.cells #[.bool sa, .slice Aa na ca, .int .i64 xa] 24) (.cells #[.bool sb, .slice Ab nb cb, .int .i64 xb] 24) (.cells #[.bool sc, .slice Ac nc cc, .int .i64 xc] 24)
  have Pc : Hid (Dbox _ (w.heap.size + 1 + 1) sc (.slice Ac nc cc) xc) := heap3_2 w (.cells #[.bool sa, .slice Aa na ca, .int .i64 xa] 24) (.cells #[.bool sb, .slice Ab nb cb, .int .i64 xb] 24) (.cells #[.bool sc, .slice Ac nc cc, .int .i64 xc] 24)
  have Da := hid (hDa.below K.out)
  have Db := hid (hDb.below K.out)
  have Dc := hid (hDc.below K.out)
  clear ha hb hc hDa hDb hDc hT
  go_enter Tryd.func7, Tryd.ntmps7
  go_wp2_with fail
  refine (dalive_any _ (HT.out.below K.out HT.out.lt)).mono ?_
  rintro e w0 ⟨rfl, J⟩
  have Pa := hid (Pa.out.below J.out Pa.out.lt)
  have Pb := hid (Pb.out.below J.out Pb.out.lt)
  have Pc := hid (Pc.out.below J.out Pc.out.lt)
  have Da := hid (Da.out.below J.out)
  have Db := hid (Db.out.below J.out)
  have Dc := hid (Dc.out.below J.out)
  have K := hid (K.out.trans (J.out.mono K.out.size))
  clear J
  have ca0 := Pa.out.c0
  have ca1 := Pa.out.c1
  have ca2 := Pa.out.c2
  go_wp2_with fail
  refine (dgreat_any _ _ _ _ _ _ ham).mono ?_
  rintro e w1 ⟨rfl, J⟩
  clear ca0 ca1 ca2
  have Pa := hid (Pa.out.below J.out Pa.out.lt)
  have Pb := hid (Pb.out.below J.out Pb.out.lt)
  have Pc := hid (Pc.out.below J.out Pc.out.lt)
  have Da := hid (Da.out.below J.out)
  have Db := hid (Db.out.below J.out)
  have Dc := hid (Dc.out.below J.out)
  have K := hid (K.out.trans (J.out.mono K.out.size))
  clear J
  by_cases hg : 42 < na ∨ 1100 < xa
  · rw [bool_of_dec hg]
    clear hg
    go_wp2
    exact ret_bool rfl rfl rfl ⟨rfl, K.out⟩
  rw [bool_of_not hg]
  clear hg
  have cb0 := Pb.out.c0
  have cb1 := Pb.out.c1
  have cb2 := Pb.out.c2
  go_wp2_with fail
  refine (dgreat_any _ _ _ _ _ _ hbm).mono ?_
  rintro e w2 ⟨rfl, J⟩
  clear cb0 cb1 cb2
  have Pa := hid (Pa.out.below J.out Pa.out.lt)
  have Pb := hid (Pb.out.below J.out Pb.out.lt)
  have Pc := hid (Pc.out.below J.out Pc.out.lt)
  have Da := hid (Da.out.below J.out)
  have Db := hid (Db.out.below J.out)
  have Dc := hid (Dc.out.below J.out)
  have K := hid (K.out.trans (J.out.mono K.out.size))
  clear J
  by_cases hg : 42 < nb ∨ 1100 < xb
  · rw [bool_of_dec hg]
    clear hg
    go_wp2
    exact ret_bool rfl rfl rfl ⟨rfl, K.out⟩
  rw [bool_of_not hg]
  clear hg
  have cc0 := Pc.out.c0
  have cc1 := Pc.out.c1
  have cc2 := Pc.out.c2
  go_wp2_with fail
  refine (dgreat_any _ _ _ _ _ _ hcm).mono ?_
  rintro e w3 ⟨rfl, J⟩
  clear cc0 cc1 cc2
  have Pa := hid (Pa.out.below J.out Pa.out.lt)
  have Pb := hid (Pb.out.below J.out Pb.out.lt)
  have Pc := hid (Pc.out.below J.out Pc.out.lt)
  have Da := hid (Da.out.below J.out)
  have Db := hid (Db.out.below J.out)
  have Dc := hid (Dc.out.below J.out)
  have K := hid (K.out.trans (J.out.mono K.out.size))
  clear J
  by_cases hg : 42 < nc ∨ 1100 < xc
  · rw [bool_of_dec hg]
    clear hg
    go_wp2
    exact ret_bool rfl rfl rfl ⟨rfl, K.out⟩
  rw [bool_of_not hg]
  clear hg
  have ca0 := Pa.out.c0
  have ca1 := Pa.out.c1
  have ca2 := Pa.out.c2
  have cb0 := Pb.out.c0
  have cb1 := Pb.out.c1
  have cb2 := Pb.out.c2
  go_wp2_with fail
  refine (dadd_any Da.out Db.out (HT.out.below K.out HT.out.lt)).mono ?_
  rintro e w4 ⟨d, erx, rfl, HEx, HD, HB⟩
  obtain ⟨sx, Ax, nx, cx, xx, rfl⟩ := HD.out.parts
  have J0 := hid ((Below.refl w4.heap.size w4).alloc (Nat.le_refl _) (.cells #[.bool sx, .slice Ax nx cx, .int .i64 xx] 24))
  have J := hid (HB.out.trans (J0.out.mono HB.out.size))
  clear ca0 ca1 ca2 cb0 cb1 cb2
  have Pa := hid (Pa.out.below J.out Pa.out.lt)
  have Pb := hid (Pb.out.below J.out Pb.out.lt)
  have Pc := hid (Pc.out.below J.out Pc.out.lt)
  have Da := hid (Da.out.below J.out)
  have Db := hid (Db.out.below J.out)
  have Dc := hid (Dc.out.below J.out)
  have K := hid (K.out.trans (J.out.mono K.out.size))
  have Px : Hid (Dbox (w4.alloc (.cells #[.bool sx, .slice Ax nx cx, .int .i64 xx] 24)) w4.heap.size sx (.slice Ax nx cx) xx) := heap_alloc_new _ _
  have Dx := hid (HD.out.arg.below J0.out)
  clear HD HB J0 J
  have ca0 := Pa.out.c0
  have ca1 := Pa.out.c1
  have ca2 := Pa.out.c2
  have cb0 := Pb.out.c0
  have cb1 := Pb.out.c1
  have cb2 := Pb.out.c2
  go_wp2_with fail
  refine (dadd_any Db.out Da.out (HT.out.below K.out HT.out.lt)).mono ?_
  rintro e w5 ⟨d, ery, rfl, HEy, HD, HB⟩
  obtain ⟨sy, Ay, ny, cy, xy, rfl⟩ := HD.out.parts
  have J0 := hid ((Below.refl w5.heap.size w5).alloc (Nat.le_refl _) (.cells #[.bool sy, .slice Ay ny cy, .int .i64 xy] 24))
  have J := hid (HB.out.trans (J0.out.mono HB.out.size))
  clear ca0 ca1 ca2 cb0 cb1 cb2
  have Pa := hid (Pa.out.below J.out Pa.out.lt)
  have Pb := hid (Pb.out.below J.out Pb.out.lt)
  have Pc := hid (Pc.out.below J.out Pc.out.lt)
  have Px := hid (Px.out.below J.out Px.out.lt)
  have Da := hid (Da.out.below J.out)
  have Db := hid (Db.out.below J.out)
  have Dc := hid (Dc.out.below J.out)
  have Dx := hid (Dx.out.below J.out)
  have K := hid (K.out.trans (J.out.mono K.out.size))
  have Py : Hid (Dbox (w5.alloc (.cells #[.bool sy, .slice Ay ny cy, .int .i64 xy] 24)) w5.heap.size sy (.slice Ay ny cy) xy) := heap_alloc_new _ _
  have Dy := hid (HD.out.arg.below J0.out)
  clear HD HB J0 J
  have hef : ery = erx := HEy.out.uniq HEx.out ⟨fun h => ⟨h.2, h.1⟩, fun h => ⟨h.2, h.1⟩⟩ (Int.add_comm _ _)
  subst hef
  have hxy : resD ery (Ma + Mb) = resD ery (Mb + Ma) := by rw [Int.add_comm]
  have Hxy := hid hxy
  clear hxy
  have hcase : ery = 0 ∨ ((ery == 0) = false ∧ (ery != 0) = true ∧ ¬ ery = 0) := by
    by_cases h : ery = 0
    · exact .inl h
    · exact .inr ⟨by simp [h], by simp [h], h⟩
  rcases hcase with rfl | ⟨he0, he1, he2⟩
  · have hz := HEx.out.zero
    have Hz := hid hz
    clear hz HEy
    have cx0 := Px.out.c0
    have cx1 := Px.out.c1
    have cx2 := Px.out.c2
    have cy0 := Py.out.c0
    have cy1 := Py.out.c1
    have cy2 := Py.out.c2
    go_wp2_with fail
    refine (same_true Dx.out Dy.out trivial trivial Hxy.out).mono ?_
    rintro e w6 ⟨rfl, J⟩
    clear cx0 cx1 cx2 cy0 cy1 cy2
    have Pa := hid (Pa.out.below J.out Pa.out.lt)
    have Pb := hid (Pb.out.below J.out Pb.out.lt)
    have Pc := hid (Pc.out.below J.out Pc.out.lt)
    have Px := hid (Px.out.below J.out Px.out.lt)
    have Py := hid (Py.out.below J.out Py.out.lt)
    have Da := hid (Da.out.below J.out)
    have Db := hid (Db.out.below J.out)
    have Dc := hid (Dc.out.below J.out)
    have Dx := hid (Dx.out.below J.out)
    have Dy := hid (Dy.out.below J.out)
    have K := hid (K.out.trans (J.out.mono K.out.size))
    clear J
    rw [resD_ok rfl] at Dx
    have cx0 := Px.out.c0
    have cx1 := Px.out.c1
    have cx2 := Px.out.c2
    have cb0 := Pb.out.c0
    have cb1 := Pb.out.c1
    have cb2 := Pb.out.c2
    go_wp2_with fail
    refine (dsub_any Dx.out Db.out (HT.out.below K.out HT.out.lt)).mono ?_
    rintro e w7 ⟨d, erk, rfl, HEk, HD, HB⟩
    obtain ⟨sk, Ak, nk, ck, xk, rfl⟩ := HD.out.parts
    have J0 := hid ((Below.refl w7.heap.size w7).alloc (Nat.le_refl _) (.cells #[.bool sk, .slice Ak nk ck, .int .i64 xk] 24))
    have J := hid (HB.out.trans (J0.out.mono HB.out.size))
    clear cx0 cx1 cx2 cb0 cb1 cb2
    have Pa := hid (Pa.out.below J.out Pa.out.lt)
    have Pb := hid (Pb.out.below J.out Pb.out.lt)
    have Pc := hid (Pc.out.below J.out Pc.out.lt)
    have Px := hid (Px.out.below J.out Px.out.lt)
    have Py := hid (Py.out.below J.out Py.out.lt)
    have Da := hid (Da.out.below J.out)
    have Db := hid (Db.out.below J.out)
    have Dc := hid (Dc.out.below J.out)
    have Dx := hid (Dx.out.below J.out)
    have Dy := hid (Dy.out.below J.out)
    have K := hid (K.out.trans (J.out.mono K.out.size))
    have Pk : Hid (Dbox (w7.alloc (.cells #[.bool sk, .slice Ak nk ck, .int .i64 xk] 24)) w7.heap.size sk (.slice Ak nk ck) xk) := heap_alloc_new _ _
    have Dk := hid (HD.out.arg.below J0.out)
    clear HD HB J0 J
    have hk : erk = 0 := HEk.out.good ⟨trivial, Hz.out.1.2⟩ (by rw [Int.add_sub_cancel]; exact Da.out.okay Hz.out.1.1)
    subst hk
    rw [resD_ok rfl, Int.add_sub_cancel] at Dk
    have ck0 := Pk.out.c0
    have ck1 := Pk.out.c1
    have ck2 := Pk.out.c2
    have ca0 := Pa.out.c0
    have ca1 := Pa.out.c1
    have ca2 := Pa.out.c2
    go_wp2_with fail
    refine (same_true Dk.out Da.out trivial Hz.out.1.1 rfl).mono ?_
    rintro e w8 ⟨rfl, J⟩
    clear ck0 ck1 ck2 ca0 ca1 ca2
    have Pa := hid (Pa.out.below J.out Pa.out.lt)
    have Pb := hid (Pb.out.below J.out Pb.out.lt)
    have Pc := hid (Pc.out.below J.out Pc.out.lt)
    have Px := hid (Px.out.below J.out Px.out.lt)
    have Py := hid (Py.out.below J.out Py.out.lt)
    have Pk := hid (Pk.out.below J.out Pk.out.lt)
    have Da := hid (Da.out.below J.out)
    have Db := hid (Db.out.below J.out)
    have Dc := hid (Dc.out.below J.out)
    have Dx := hid (Dx.out.below J.out)
    have Dy := hid (Dy.out.below J.out)
    have Dk := hid (Dk.out.below J.out)
    have K := hid (K.out.trans (J.out.mono K.out.size))
    clear J
    have cx0 := Px.out.c0
    have cx1 := Px.out.c1
    have cx2 := Px.out.c2
    have cc0 := Pc.out.c0
    have cc1 := Pc.out.c1
    have cc2 := Pc.out.c2
    go_wp2_with fail
    refine (dadd_any Dx.out Dc.out (HT.out.below K.out HT.out.lt)).mono ?_
    rintro e w9 ⟨d, erp, rfl, HEp, HD, HB⟩
    obtain ⟨sp, Ap, np, cp, xp, rfl⟩ := HD.out.parts
    have J0 := hid ((Below.refl w9.heap.size w9).alloc (Nat.le_refl _) (.cells #[.bool sp, .slice Ap np cp, .int .i64 xp] 24))
    have J := hid (HB.out.trans (J0.out.mono HB.out.size))
    clear cx0 cx1 cx2 cc0 cc1 cc2
    have Pa := hid (Pa.out.below J.out Pa.out.lt)
    have Pb := hid (Pb.out.below J.out Pb.out.lt)
    have Pc := hid (Pc.out.below J.out Pc.out.lt)
    have Px := hid (Px.out.below J.out Px.out.lt)
    have Py := hid (Py.out.below J.out Py.out.lt)
    have Pk := hid (Pk.out.below J.out Pk.out.lt)
    have Da := hid (Da.out.below J.out)
    have Db := hid (Db.out.below J.out)
    have Dc := hid (Dc.out.below J.out)
    have Dx := hid (Dx.out.below J.out)
    have Dy := hid (Dy.out.below J.out)
    have Dk := hid (Dk.out.below J.out)
    have K := hid (K.out.trans (J.out.mono K.out.size))
    have Pp : Hid (Dbox (w9.alloc (.cells #[.bool sp, .slice Ap np cp, .int .i64 xp] 24)) w9.heap.size sp (.slice Ap np cp) xp) := heap_alloc_new _ _
    have Dp := hid (HD.out.arg.below J0.out)
    clear HD HB J0 J
    have cb0 := Pb.out.c0
    have cb1 := Pb.out.c1
    have cb2 := Pb.out.c2
    have cc0 := Pc.out.c0
    have cc1 := Pc.out.c1
    have cc2 := Pc.out.c2
    go_wp2_with fail
    refine (dadd_any Db.out Dc.out (HT.out.below K.out HT.out.lt)).mono ?_
    rintro e w10 ⟨d, erq, rfl, HEq, HD, HB⟩
    obtain ⟨sq, Aq, nq, cq, xq, rfl⟩ := HD.out.parts
    have J0 := hid ((Below.refl w10.heap.size w10).alloc (Nat.le_refl _) (.cells #[.bool sq, .slice Aq nq cq, .int .i64 xq] 24))
    have J := hid (HB.out.trans (J0.out.mono HB.out.size))
    clear cb0 cb1 cb2 cc0 cc1 cc2
    have Pa := hid (Pa.out.below J.out Pa.out.lt)
    have Pb := hid (Pb.out.below J.out Pb.out.lt)
    have Pc := hid (Pc.out.below J.out Pc.out.lt)
    have Px := hid (Px.out.below J.out Px.out.lt)
    have Py := hid (Py.out.below J.out Py.out.lt)
    have Pk := hid (Pk.out.below J.out Pk.out.lt)
    have Pp := hid (Pp.out.below J.out Pp.out.lt)
    have Da := hid (Da.out.below J.out)
    have Db := hid (Db.out.below J.out)
    have Dc := hid (Dc.out.below J.out)
    have Dx := hid (Dx.out.below J.out)
    have Dy := hid (Dy.out.below J.out)
    have Dk := hid (Dk.out.below J.out)
    have Dp := hid (Dp.out.below J.out)
    have K := hid (K.out.trans (J.out.mono K.out.size))
    have Pq : Hid (Dbox (w10.alloc (.cells #[.bool sq, .slice Aq nq cq, .int .i64 xq] 24)) w10.heap.size sq (.slice Aq nq cq) xq) := heap_alloc_new _ _
    have Dq := hid (HD.out.arg.below J0.out)
    clear HD HB J0 J
    have ca0 := Pa.out.c0
    have ca1 := Pa.out.c1
    have ca2 := Pa.out.c2
    have cq0 := Pq.out.c0
    have cq1 := Pq.out.c1
    have cq2 := Pq.out.c2
    go_wp2_with fail
    refine (dadd_any Da.out Dq.out (HT.out.below K.out HT.out.lt)).mono ?_
    rintro e w11 ⟨d, err, rfl, HEr, HD, HB⟩
    obtain ⟨sr, Ar, nr, cr, xr, rfl⟩ := HD.out.parts
    have J0 := hid ((Below.refl w11.heap.size w11).alloc (Nat.le_refl _) (.cells #[.bool sr, .slice Ar nr cr, .int .i64 xr] 24))
    have J := hid (HB.out.trans (J0.out.mono HB.out.size))
    clear ca0 ca1 ca2 cq0 cq1 cq2
    have Pa := hid (Pa.out.below J.out Pa.out.lt)
    have Pb := hid (Pb.out.below J.out Pb.out.lt)
    have Pc := hid (Pc.out.below J.out Pc.out.lt)
    have Px := hid (Px.out.below J.out Px.out.lt)
    have Py := hid (Py.out.below J.out Py.out.lt)
    have Pk := hid (Pk.out.below J.out Pk.out.lt)
    have Pp := hid (Pp.out.below J.out Pp.out.lt)
    have Pq := hid (Pq.out.below J.out Pq.out.lt)
    have Da := hid (Da.out.below J.out)
    have Db := hid (Db.out.below J.out)
    have Dc := hid (Dc.out.below J.out)
    have Dx := hid (Dx.out.below J.out)
    have Dy := hid (Dy.out.below J.out)
    have Dk := hid (Dk.out.below J.out)
    have Dp := hid (Dp.out.below J.out)
    have Dq := hid (Dq.out.below J.out)
    have K := hid (K.out.trans (J.out.mono K.out.size))
    have Pr : Hid (Dbox (w11.alloc (.cells #[.bool sr, .slice Ar nr cr, .int .i64 xr] 24)) w11.heap.size sr (.slice Ar nr cr) xr) := heap_alloc_new _ _
    have Dr := hid (HD.out.arg.below J0.out)
    clear HD HB J0 J
    have hh : (erp = 0 ∧ erq = 0 ∧ err = 0) ∨ ((erp == 0) = false ∧ (erp != 0) = true ∧ ¬ erp = 0) ∨ (erp = 0 ∧ (erq == 0) = false ∧ (erq != 0) = true ∧ ¬ erq = 0) ∨ (erp = 0 ∧ erq = 0 ∧ (err == 0) = false ∧ (err != 0) = true ∧ ¬ err = 0) := by
      by_cases h1 : erp = 0
      · by_cases h2 : erq = 0
        · by_cases h3 : err = 0
          · exact .inl ⟨h1, h2, h3⟩
          · exact .inr (.inr (.inr ⟨h1, h2, by simp [h3], by simp [h3], h3⟩))
        · exact .inr (.inr (.inl ⟨h1, by simp [h2], by simp [h2], h2⟩))
      · exact .inr (.inl ⟨by simp [h1], by simp [h1], h1⟩)
    clear HEk HEp HEq HEr HEx
    rcases hh with ⟨rfl, rfl, rfl⟩ | ⟨h1, h2, h3⟩ | ⟨rfl, h1, h2, h3⟩ | ⟨rfl, rfl, h1, h2, h3⟩
    · rw [resD_ok rfl] at Dp Dr
      rw [resD_ok rfl] at Dr
      have cp0 := Pp.out.c0
      have cp1 := Pp.out.c1
      have cp2 := Pp.out.c2
      have cr0 := Pr.out.c0
      have cr1 := Pr.out.c1
      have cr2 := Pr.out.c2
      go_wp2_with fail
      refine (same_true Dp.out Dr.out trivial trivial (Int.add_assoc _ _ _)).mono ?_
      rintro e w12 ⟨rfl, J⟩
      clear cp0 cp1 cp2 cr0 cr1 cr2
      have Pa := hid (Pa.out.below J.out Pa.out.lt)
      have Pb := hid (Pb.out.below J.out Pb.out.lt)
      have Pc := hid (Pc.out.below J.out Pc.out.lt)
      have Px := hid (Px.out.below J.out Px.out.lt)
      have Py := hid (Py.out.below J.out Py.out.lt)
      have Pk := hid (Pk.out.below J.out Pk.out.lt)
      have Pp := hid (Pp.out.below J.out Pp.out.lt)
      have Pq := hid (Pq.out.below J.out Pq.out.lt)
      have Pr := hid (Pr.out.below J.out Pr.out.lt)
      have Da := hid (Da.out.below J.out)
      have Db := hid (Db.out.below J.out)
      have Dc := hid (Dc.out.below J.out)
      have Dx := hid (Dx.out.below J.out)
      have Dy := hid (Dy.out.below J.out)
      have Dk := hid (Dk.out.below J.out)
      have Dp := hid (Dp.out.below J.out)
      have Dq := hid (Dq.out.below J.out)
      have Dr := hid (Dr.out.below J.out)
      have K := hid (K.out.trans (J.out.mono K.out.size))
      clear J
      go_wp2
      exact ret_bool rfl rfl rfl ⟨rfl, K.out⟩
    all_goals
      go_wp2
      exact ret_bool rfl rfl rfl ⟨rfl, K.out⟩
  · have He0 := hid he0
    clear HEx HEy
    have cx0 := Px.out.c0
    have cx1 := Px.out.c1
    have cx2 := Px.out.c2
    have cy0 := Py.out.c0
    have cy1 := Py.out.c1
    have cy2 := Py.out.c2
    go_wp2_with fail
    refine (same_true Dx.out Dy.out trivial trivial Hxy.out).mono ?_
    rintro e w6 ⟨rfl, J⟩
    clear cx0 cx1 cx2 cy0 cy1 cy2
    have Pa := hid (Pa.out.below J.out Pa.out.lt)
    have Pb := hid (Pb.out.below J.out Pb.out.lt)
    have Pc := hid (Pc.out.below J.out Pc.out.lt)
    have Px := hid (Px.out.below J.out Px.out.lt)
    have Py := hid (Py.out.below J.out Py.out.lt)
    have Da := hid (Da.out.below J.out)
    have Db := hid (Db.out.below J.out)
    have Dc := hid (Dc.out.below J.out)
    have Dx := hid (Dx.out.below J.out)
    have Dy := hid (Dy.out.below J.out)
    have K := hid (K.out.trans (J.out.mono K.out.size))
    clear J
    have cx0 := Px.out.c0
    have cx1 := Px.out.c1
    have cx2 := Px.out.c2
    have cb0 := Pb.out.c0
    have cb1 := Pb.out.c1
    have cb2 := Pb.out.c2
    go_wp2_with fail
    refine (dsub_any Dx.out Db.out (HT.out.below K.out HT.out.lt)).mono ?_
    rintro e w7 ⟨d, erk, rfl, HEk, HD, HB⟩
    obtain ⟨sk, Ak, nk, ck, xk, rfl⟩ := HD.out.parts
    have J0 := hid ((Below.refl w7.heap.size w7).alloc (Nat.le_refl _) (.cells #[.bool sk, .slice Ak nk ck, .int .i64 xk] 24))
    have J := hid (HB.out.trans (J0.out.mono HB.out.size))
    clear cx0 cx1 cx2 cb0 cb1 cb2
    have Pa := hid (Pa.out.below J.out Pa.out.lt)
    have Pb := hid (Pb.out.below J.out Pb.out.lt)
    have Pc := hid (Pc.out.below J.out Pc.out.lt)
    have Px := hid (Px.out.below J.out Px.out.lt)
    have Py := hid (Py.out.below J.out Py.out.lt)
    have Da := hid (Da.out.below J.out)
    have Db := hid (Db.out.below J.out)
    have Dc := hid (Dc.out.below J.out)
    have Dx := hid (Dx.out.below J.out)
    have Dy := hid (Dy.out.below J.out)
    have K := hid (K.out.trans (J.out.mono K.out.size))
    have Pk : Hid (Dbox (w7.alloc (.cells #[.bool sk, .slice Ak nk ck, .int .i64 xk] 24)) w7.heap.size sk (.slice Ak nk ck) xk) := heap_alloc_new _ _
    have Dk := hid (HD.out.arg.below J0.out)
    clear HD HB J0 J
    have cx0 := Px.out.c0
    have cx1 := Px.out.c1
    have cx2 := Px.out.c2
    have cc0 := Pc.out.c0
    have cc1 := Pc.out.c1
    have cc2 := Pc.out.c2
    go_wp2_with fail
    refine (dadd_any Dx.out Dc.out (HT.out.below K.out HT.out.lt)).mono ?_
    rintro e w8 ⟨d, erp, rfl, HEp, HD, HB⟩
    obtain ⟨sp, Ap, np, cp, xp, rfl⟩ := HD.out.parts
    have J0 := hid ((Below.refl w8.heap.size w8).alloc (Nat.le_refl _) (.cells #[.bool sp, .slice Ap np cp, .int .i64 xp] 24))
    have J := hid (HB.out.trans (J0.out.mono HB.out.size))
    clear cx0 cx1 cx2 cc0 cc1 cc2
    have Pa := hid (Pa.out.below J.out Pa.out.lt)
    have Pb := hid (Pb.out.below J.out Pb.out.lt)
    have Pc := hid (Pc.out.below J.out Pc.out.lt)
    have Px := hid (Px.out.below J.out Px.out.lt)
    have Py := hid (Py.out.below J.out Py.out.lt)
    have Pk := hid (Pk.out.below J.out Pk.out.lt)
    have Da := hid (Da.out.below J.out)
    have Db := hid (Db.out.below J.out)
    have Dc := hid (Dc.out.below J.out)
    have Dx := hid (Dx.out.below J.out)
    have Dy := hid (Dy.out.below J.out)
    have Dk := hid (Dk.out.below J.out)
    have K := hid (K.out.trans (J.out.mono K.out.size))
    have Pp : Hid (Dbox (w8.alloc (.cells #[.bool sp, .slice Ap np cp, .int .i64 xp] 24)) w8.heap.size sp (.slice Ap np cp) xp) := heap_alloc_new _ _
    have Dp := hid (HD.out.arg.below J0.out)
    clear HD HB J0 J
    have cb0 := Pb.out.c0
    have cb1 := Pb.out.c1
    have cb2 := Pb.out.c2
    have cc0 := Pc.out.c0
    have cc1 := Pc.out.c1
    have cc2 := Pc.out.c2
    go_wp2_with fail
    refine (dadd_any Db.out Dc.out (HT.out.below K.out HT.out.lt)).mono ?_
    rintro e w9 ⟨d, erq, rfl, HEq, HD, HB⟩
    obtain ⟨sq, Aq, nq, cq, xq, rfl⟩ := HD.out.parts
    have J0 := hid ((Below.refl w9.heap.size w9).alloc (Nat.le_refl _) (.cells #[.bool sq, .slice Aq nq cq, .int .i64 xq] 24))
    have J := hid (HB.out.trans (J0.out.mono HB.out.size))
    clear cb0 cb1 cb2 cc0 cc1 cc2
    have Pa := hid (Pa.out.below J.out Pa.out.lt)
    have Pb := hid (Pb.out.below J.out Pb.out.lt)
    have Pc := hid (Pc.out.below J.out Pc.out.lt)
    have Px := hid (Px.out.below J.out Px.out.lt)
    have Py := hid (Py.out.below J.out Py.out.lt)
    have Pk := hid (Pk.out.below J.out Pk.out.lt)
    have Pp := hid (Pp.out.below J.out Pp.out.lt)
    have Da := hid (Da.out.below J.out)
    have Db := hid (Db.out.below J.out)
    have Dc := hid (Dc.out.below J.out)
    have Dx := hid (Dx.out.below J.out)
    have Dy := hid (Dy.out.below J.out)
    have Dk := hid (Dk.out.below J.out)
    have Dp := hid (Dp.out.below J.out)
    have K := hid (K.out.trans (J.out.mono K.out.size))
    have Pq : Hid (Dbox (w9.alloc (.cells #[.bool sq, .slice Aq nq cq, .int .i64 xq] 24)) w9.heap.size sq (.slice Aq nq cq) xq) := heap_alloc_new _ _
    have Dq := hid (HD.out.arg.below J0.out)
    clear HD HB J0 J
    have ca0 := Pa.out.c0
    have ca1 := Pa.out.c1
    have ca2 := Pa.out.c2
    have cq0 := Pq.out.c0
    have cq1 := Pq.out.c1
    have cq2 := Pq.out.c2
    go_wp2_with fail
    refine (dadd_any Da.out Dq.out (HT.out.below K.out HT.out.lt)).mono ?_
    rintro e w10 ⟨d, err, rfl, HEr, HD, HB⟩
    obtain ⟨sr, Ar, nr, cr, xr, rfl⟩ := HD.out.parts
    have J0 := hid ((Below.refl w10.heap.size w10).alloc (Nat.le_refl _) (.cells #[.bool sr, .slice Ar nr cr, .int .i64 xr] 24))
    have J := hid (HB.out.trans (J0.out.mono HB.out.size))
    clear ca0 ca1 ca2 cq0 cq1 cq2
    have Pa := hid (Pa.out.below J.out Pa.out.lt)
    have Pb := hid (Pb.out.below J.out Pb.out.lt)
    have Pc := hid (Pc.out.below J.out Pc.out.lt)
    have Px := hid (Px.out.below J.out Px.out.lt)
    have Py := hid (Py.out.below J.out Py.out.lt)
    have Pk := hid (Pk.out.below J.out Pk.out.lt)
    have Pp := hid (Pp.out.below J.out Pp.out.lt)
    have Pq := hid (Pq.out.below J.out Pq.out.lt)
    have Da := hid (Da.out.below J.out)
    have Db := hid (Db.out.below J.out)
    have Dc := hid (Dc.out.below J.out)
    have Dx := hid (Dx.out.below J.out)
    have Dy := hid (Dy.out.below J.out)
    have Dk := hid (Dk.out.below J.out)
    have Dp := hid (Dp.out.below J.out)
    have Dq := hid (Dq.out.below J.out)
    have K := hid (K.out.trans (J.out.mono K.out.size))
    have Pr : Hid (Dbox (w10.alloc (.cells #[.bool sr, .slice Ar nr cr, .int .i64 xr] 24)) w10.heap.size sr (.slice Ar nr cr) xr) := heap_alloc_new _ _
    have Dr := hid (HD.out.arg.below J0.out)
    clear HD HB J0 J
    clear HEk HEp HEq HEr
    go_wp2
    exact ret_bool rfl rfl rfl ⟨rfl, K.out⟩

end Go.Proofs.YtflegkefgbifcaaDoor
