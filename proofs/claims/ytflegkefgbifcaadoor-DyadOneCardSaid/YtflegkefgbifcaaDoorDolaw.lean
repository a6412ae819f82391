/- DyadOne's walk. -/
import Derived.Test.YtflegkefgbifcaaDoorDglaw
import Derived.Test.YtflegkefgbifcaaDoorDcmpa
namespace Go.Proofs.YtflegkefgbifcaaDoor
open Go.RowKit

theorem same_false {w : World} {p q : Prop} {M N : Int} {v u : Value} (h1 : DArg w p M v) (h2 : DArg w q N u) (hp : p) (hq : q) (he : ¬ M = N) :
    Calls Tryd.prog 16 #[v, u] w fun e w' => e = .returned (.bool false) ∧ Hid (Below w.heap.size w w') := by
  have h := dsame_any h1 h2 hp hq
  rwa [bool_of_not he] at h
theorem DArg.len {w : World} {p : Prop} {M : Int} {s : Bool} {A : Option Addr} {n c : Nat} {x : Int} (h : DArg w p M (.agg #[.bool s, .slice A n c, .int .i64 x])) : n ≤ c ∧ n ≤ 140737488355328 := by
  obtain ⟨s', A', n', c', f, x', hv, hr, _, _⟩ := h
  injection hv with hv
  simp at hv
  obtain ⟨_, ⟨_, rfl, rfl⟩, _⟩ := hv
  exact ⟨hr.cap, hr.max⟩
theorem Dn.sign {B : Nat} {w : World} {M : Int} {d : Value} (h : Dn B w M d) : ∃ s A n c x, d = .agg #[.bool s, .slice A n c, .int .i64 x] ∧ (M < 0 → s = true ∧ ((n : Int) == 0) = false) ∧ (M = 0 → s = false ∧ n = 0) ∧ (0 < M → s = false ∧ ((n : Int) == 0) = false) := by
  obtain ⟨s, u, X, V, rfl, hn, hc, hX, rfl⟩ := h
  obtain ⟨A, n, c, rfl⟩ := hn.shape
  have hl := hn.val.len0
  refine ⟨s, A, n, c, _, rfl, ?_⟩
  rcases Nat.eq_zero_or_pos V with h0 | h0
  · have hz : dv s V X = 0 := by rw [h0]; unfold dv; rw [Nat.zero_mul, num_zero]
    rw [hz]
    exact ⟨fun h => absurd h (by omega), fun _ => ⟨(hc.1 h0).1, hl.2 h0⟩, fun h => absurd h (by omega)⟩
  · have hpos := Nat.mul_pos h0 (tp_pos (4000 - X))
    have hn0 : ((n : Int) == 0) = false := by
      have : n ≠ 0 := fun e => by have := hl.1 e; omega
      simp [this]
    unfold dv
    generalize V * tp (4000 - X) = a at *
    cases s with
    | false => exact ⟨fun h => absurd h (by simp [num]), fun h => absurd h (by simp [num] <;> omega), fun _ => ⟨rfl, hn0⟩⟩
    | true => exact ⟨fun _ => ⟨rfl, hn0⟩, fun h => absurd h (by simp [num] <;> omega), fun h => absurd h (by simp [num] <;> omega)⟩

set_option maxHeartbeats 12800000 in
set_option maxRecDepth 1000000 in
theorem one_walk {w : World} {Aa Ab : Option Addr} {na ca nb cb : Nat} {fa fb : Nat → Nat} {sa sb : Bool} {xa xb : Int} (ha : Rd w w.heap.size Aa na ca fa) (hb : Rd w w.heap.size Ab nb cb fb) (hT : Tab w) :
    Calls Tryd.prog 5 #[.agg #[.bool sa, .slice Aa na ca, .int .i64 xa], .agg #[.bool sb, .slice Ab nb cb, .int .i64 xb]] w fun e w' => e = .returned (.bool true) ∧ Below w.heap.size w w' := by
  obtain ⟨pa, Ma, hDa⟩ := arg_of (s := sa) (x := xa) ha
  obtain ⟨pb, Mb, hDb⟩ := arg_of (s := sb) (x := xb) hb
  have ham := ha.max
  have hbm := hb.max
  have HT := hid hT
  have K := hid (((Below.refl w.heap.size w).alloc (Nat.le_refl _) (.cells #[.bool sa, .slice Aa na ca, .int .i64 xa] 24)).alloc (by simp) (.cells #[.bool sb, .slice Ab nb cb, .int .i64 xb] 24))
  have Pa : Hid (Dbox _ w.heap.size sa (.slice Aa na ca) xa) := (Below.heap_alloc _ (.cells #[.bool sb, .slice Ab nb cb, .int .i64 xb] 24) _ (by simp)).trans (heap_alloc_new w (.cells #[.bool sa, .slice Aa na ca, .int .i64 xa] 24))
  have Pb : Hid (Dbox _ (w.heap.size + 1) sb (.slice Ab nb cb) xb) := heap_alloc2_new w (.cells #[.bool sa, .slice Aa na ca, .int .i64 xa] 24) (.cells #[.bool sb, .slice Ab nb cb, .int .i64 xb] 24)
  have Da := hid (hDa.below K.out)
  have Db := hid (hDb.below K.out)
  clear ha hb hDa hDb hT
  go_enter Tryd.func5, Tryd.ntmps5
  go_wp2_with fail
  refine (dalive_any _ (HT.out.below K.out HT.out.lt)).mono ?_
  rintro e w0 ⟨rfl, J⟩
  replace Pa := hid (Pa.out.below J.out Pa.out.lt)
  replace Pb := hid (Pb.out.below J.out Pb.out.lt)
  replace Da := hid (Da.out.below J.out)
  replace Db := hid (Db.out.below J.out)
  replace K := hid (K.out.trans (J.out.mono K.out.size))
  clear J
  have ca0 := Pa.out.c0
  have ca1 := Pa.out.c1
  have ca2 := Pa.out.c2
  go_wp2_with fail
  refine (dgreat_any _ _ _ _ _ _ ham).mono ?_
  rintro e w1 ⟨rfl, J⟩
  clear ca0 ca1 ca2
  replace Pa := hid (Pa.out.below J.out Pa.out.lt)
  replace Pb := hid (Pb.out.below J.out Pb.out.lt)
  replace Da := hid (Da.out.below J.out)
  replace Db := hid (Db.out.below J.out)
  replace K := hid (K.out.trans (J.out.mono K.out.size))
  clear J
  by_cases hg : 42 < na ∨ 1100 < xa
  · rw [bool_of_dec hg]
    clear hg
    go_wp2
    exact ret_bool rfl rfl rfl ⟨rfl, K.out⟩
  rw [bool_of_not hg]
  clear hg
  have cb0 := Pb.out.c0
  have cb1 := Pb.out.c1
  have cb2 := Pb.out.c2
  go_wp2_with fail
  refine (dgreat_any _ _ _ _ _ _ hbm).mono ?_
  rintro e w2 ⟨rfl, J⟩
  clear cb0 cb1 cb2
  replace Pa := hid (Pa.out.below J.out Pa.out.lt)
  replace Pb := hid (Pb.out.below J.out Pb.out.lt)
  replace Da := hid (Da.out.below J.out)
  replace Db := hid (Db.out.below J.out)
  replace K := hid (K.out.trans (J.out.mono K.out.size))
  clear J
  by_cases hg : 42 < nb ∨ 1100 < xb
  · rw [bool_of_dec hg]
    clear hg
    go_wp2
    exact ret_bool rfl rfl rfl ⟨rfl, K.out⟩
  rw [bool_of_not hg]
  clear hg
  have ca0 := Pa.out.c0
  have ca1 := Pa.out.c1
  have ca2 := Pa.out.c2
  have cb0 := Pb.out.c0
  have cb1 := Pb.out.c1
  have cb2 := Pb.out.c2
  go_wp2_with fail
  refine (dcmp_any Da.out Db.out).mono ?_
  rintro e w3 ⟨r, er, rfl, HC, J⟩
  clear ca0 ca1 ca2 cb0 cb1 cb2
  replace Pa := hid (Pa.out.below J.out Pa.out.lt)
  replace Pb := hid (Pb.out.below J.out Pb.out.lt)
  replace Da := hid (Da.out.below J.out)
  replace Db := hid (Db.out.below J.out)
  replace K := hid (K.out.trans (J.out.mono K.out.size))
  clear J
  by_cases hpq : pa ∧ pb
  · obtain ⟨rfl, rfl⟩ := HC.out.1 hpq
    have Hpa := hid hpq.1
    have Hpb := hid hpq.2
    clear HC hpq
    have hcases : (Ma < Mb ∧ cmpI Ma Mb = -1 ∧ cmpI Mb Ma = 1) ∨ (Ma = Mb ∧ cmpI Ma Mb = 0 ∧ cmpI Mb Ma = 0) ∨ (Mb < Ma ∧ cmpI Ma Mb = 1 ∧ cmpI Mb Ma = -1) := by
      rcases Int.lt_trichotomy Ma Mb with h | h | h
      · exact .inl ⟨h, cmpI_lt h, cmpI_gt h⟩
      · exact .inr (.inl ⟨h, cmpI_eq h, cmpI_eq h.symm⟩)
      · exact .inr (.inr ⟨h, cmpI_gt h, cmpI_lt h⟩)
    rcases hcases with ⟨hM, hn, hm⟩ | ⟨hM, hn, hm⟩ | ⟨hM, hn, hm⟩
    · rw [hn]
      have HM := hid hM
      clear hM hn
      have ca0 := Pa.out.c0
      have ca1 := Pa.out.c1
      have ca2 := Pa.out.c2
      have cb0 := Pb.out.c0
      have cb1 := Pb.out.c1
      have cb2 := Pb.out.c2
      go_wp2_with fail
      refine (dcmp_any Db.out Da.out).mono ?_
      rintro e w4 ⟨r2, er2, rfl, HC2, J⟩
      obtain ⟨rfl, rfl⟩ := HC2.out.1 ⟨Hpb.out, Hpa.out⟩
      rw [hm]
      clear hm HC2
      clear ca0 ca1 ca2 cb0 cb1 cb2
      replace Pa := hid (Pa.out.below J.out Pa.out.lt)
      replace Pb := hid (Pb.out.below J.out Pb.out.lt)
      replace Da := hid (Da.out.below J.out)
      replace Db := hid (Db.out.below J.out)
      replace K := hid (K.out.trans (J.out.mono K.out.size))
      clear J
      have ca0 := Pa.out.c0
      have ca1 := Pa.out.c1
      have ca2 := Pa.out.c2
      have cb0 := Pb.out.c0
      have cb1 := Pb.out.c1
      have cb2 := Pb.out.c2
      go_wp2_with fail
      refine (dsub_any Da.out Db.out (HT.out.below K.out HT.out.lt)).mono ?_
      rintro e w5 ⟨d, g, rfl, HE, HD, HB⟩
      obtain ⟨sd, Ad, nd, cd, xd, rfl, hneg, hzero, hpos⟩ := HD.out.sign
      have J0 := hid ((Below.refl w5.heap.size w5).alloc (Nat.le_refl _) (.cells #[.bool sd, .slice Ad nd cd, .int .i64 xd] 24))
      have J := hid (HB.out.trans (J0.out.mono HB.out.size))
      clear ca0 ca1 ca2 cb0 cb1 cb2
      replace Pa := hid (Pa.out.below J.out Pa.out.lt)
      replace Pb := hid (Pb.out.below J.out Pb.out.lt)
      replace Da := hid (Da.out.below J.out)
      replace Db := hid (Db.out.below J.out)
      replace K := hid (K.out.trans (J.out.mono K.out.size))
      have Pd : Hid (Dbox (w5.alloc (.cells #[.bool sd, .slice Ad nd cd, .int .i64 xd] 24)) w5.heap.size sd (.slice Ad nd cd) xd) := heap_alloc_new _ _
      have Dd := hid (HD.out.arg.below J0.out)
      have hg : g = 0 ∨ g = 10 := by
        rcases HE.out.1 ⟨Hpa.out, Hpb.out⟩ with ⟨_, h⟩ | ⟨_, h⟩
        · exact .inl h
        · exact .inr h
      have Hsig := hid (And.intro hneg (And.intro hzero hpos))
      clear HD HB J0 J HE hneg hzero hpos
      have ca0 := Pa.out.c0
      have ca1 := Pa.out.c1
      have ca2 := Pa.out.c2
      have cb0 := Pb.out.c0
      have cb1 := Pb.out.c1
      have cb2 := Pb.out.c2
      go_wp2_with fail
      refine (same_false Da.out Db.out Hpa.out Hpb.out (by have := HM.out; omega)).mono ?_
      rintro e w6 ⟨rfl, J⟩
      clear ca0 ca1 ca2 cb0 cb1 cb2
      replace Pa := hid (Pa.out.below J.out Pa.out.lt)
      replace Pb := hid (Pb.out.below J.out Pb.out.lt)
      replace Pd := hid (Pd.out.below J.out Pd.out.lt)
      replace Da := hid (Da.out.below J.out)
      replace Db := hid (Db.out.below J.out)
      replace Dd := hid (Dd.out.below J.out)
      replace K := hid (K.out.trans (J.out.mono K.out.size))
      clear J
      rcases hg with rfl | rfl
      · rw [resD_ok rfl] at Hsig
        obtain ⟨hs, hl⟩ := Hsig.out.1 (by have := HM.out; omega)
        subst hs
        clear Hsig
        have hdl := Dd.out.len
        have cd0 := Pd.out.c0
        have cd1 := Pd.out.c1
        have cd2 := Pd.out.c2
        go_wp2_with fail
        refine (Dd.out.check).mono ?_
        rintro e w7 ⟨er, rfl, Her, J⟩
        obtain rfl : er = 0 := Her.out.1 trivial
        clear Her
        clear cd0 cd1 cd2
        replace Pa := hid (Pa.out.below J.out Pa.out.lt)
        replace Pb := hid (Pb.out.below J.out Pb.out.lt)
        replace Pd := hid (Pd.out.below J.out Pd.out.lt)
        replace Da := hid (Da.out.below J.out)
        replace Db := hid (Db.out.below J.out)
        replace Dd := hid (Dd.out.below J.out)
        replace K := hid (K.out.trans (J.out.mono K.out.size))
        clear J
        have cd0 := Pd.out.c0
        have cd1 := Pd.out.c1
        have cd2 := Pd.out.c2
        go_wp2
        exact ret_bool rfl rfl rfl ⟨rfl, K.out⟩
      · clear Hsig
        go_wp2
        exact ret_bool rfl rfl rfl ⟨rfl, K.out⟩
    · rw [hn]
      have HM := hid hM
      clear hM hn
      have ca0 := Pa.out.c0
      have ca1 := Pa.out.c1
      have ca2 := Pa.out.c2
      have cb0 := Pb.out.c0
      have cb1 := Pb.out.c1
      have cb2 := Pb.out.c2
      go_wp2_with fail
      refine (dcmp_any Db.out Da.out).mono ?_
      rintro e w4 ⟨r2, er2, rfl, HC2, J⟩
      obtain ⟨rfl, rfl⟩ := HC2.out.1 ⟨Hpb.out, Hpa.out⟩
      rw [hm]
      clear hm HC2
      clear ca0 ca1 ca2 cb0 cb1 cb2
      replace Pa := hid (Pa.out.below J.out Pa.out.lt)
      replace Pb := hid (Pb.out.below J.out Pb.out.lt)
      replace Da := hid (Da.out.below J.out)
      replace Db := hid (Db.out.below J.out)
      replace K := hid (K.out.trans (J.out.mono K.out.size))
      clear J
      have ca0 := Pa.out.c0
      have ca1 := Pa.out.c1
      have ca2 := Pa.out.c2
      have cb0 := Pb.out.c0
      have cb1 := Pb.out.c1
      have cb2 := Pb.out.c2
      go_wp2_with fail
      refine (dsub_any Da.out Db.out (HT.out.below K.out HT.out.lt)).mono ?_
      rintro e w5 ⟨d, g, rfl, HE, HD, HB⟩
      obtain ⟨sd, Ad, nd, cd, xd, rfl, hneg, hzero, hpos⟩ := HD.out.sign
      have J0 := hid ((Below.refl w5.heap.size w5).alloc (Nat.le_refl _) (.cells #[.bool sd, .slice Ad nd cd, .int .i64 xd] 24))
      have J := hid (HB.out.trans (J0.out.mono HB.out.size))
      clear ca0 ca1 ca2 cb0 cb1 cb2
      replace Pa := hid (Pa.out.below J.out Pa.out.lt)
      replace Pb := hid (Pb.out.below J.out Pb.out.lt)
      replace Da := hid (Da.out.below J.out)
      replace Db := hid (Db.out.below J.out)
      replace K := hid (K.out.trans (J.out.mono K.out.size))
      have Pd : Hid (Dbox (w5.alloc (.cells #[.bool sd, .slice Ad nd cd, .int .i64 xd] 24)) w5.heap.size sd (.slice Ad nd cd) xd) := heap_alloc_new _ _
      have Dd := hid (HD.out.arg.below J0.out)
      have hg : g = 0 ∨ g = 10 := by
        rcases HE.out.1 ⟨Hpa.out, Hpb.out⟩ with ⟨_, h⟩ | ⟨_, h⟩
        · exact .inl h
        · exact .inr h
      have Hsig := hid (And.intro hneg (And.intro hzero hpos))
      clear HD HB J0 J HE hneg hzero hpos
      have ca0 := Pa.out.c0
      have ca1 := Pa.out.c1
      have ca2 := Pa.out.c2
      have cb0 := Pb.out.c0
      have cb1 := Pb.out.c1
      have cb2 := Pb.out.c2
      go_wp2_with fail
      refine (same_true Da.out Db.out Hpa.out Hpb.out HM.out).mono ?_
      rintro e w6 ⟨rfl, J⟩
      clear ca0 ca1 ca2 cb0 cb1 cb2
      replace Pa := hid (Pa.out.below J.out Pa.out.lt)
      replace Pb := hid (Pb.out.below J.out Pb.out.lt)
      replace Pd := hid (Pd.out.below J.out Pd.out.lt)
      replace Da := hid (Da.out.below J.out)
      replace Db := hid (Db.out.below J.out)
      replace Dd := hid (Dd.out.below J.out)
      replace K := hid (K.out.trans (J.out.mono K.out.size))
      clear J
      rcases hg with rfl | rfl
      · rw [resD_ok rfl] at Hsig
        obtain ⟨hs, hl⟩ := Hsig.out.2.1 (by have := HM.out; omega)
        subst hs
        subst hl
        clear Hsig
        have hdl := Dd.out.len
        have cd0 := Pd.out.c0
        have cd1 := Pd.out.c1
        have cd2 := Pd.out.c2
        go_wp2_with fail
        refine (Dd.out.check).mono ?_
        rintro e w7 ⟨er, rfl, Her, J⟩
        obtain rfl : er = 0 := Her.out.1 trivial
        clear Her
        clear cd0 cd1 cd2
        replace Pa := hid (Pa.out.below J.out Pa.out.lt)
        replace Pb := hid (Pb.out.below J.out Pb.out.lt)
        replace Pd := hid (Pd.out.below J.out Pd.out.lt)
        replace Da := hid (Da.out.below J.out)
        replace Db := hid (Db.out.below J.out)
        replace Dd := hid (Dd.out.below J.out)
        replace K := hid (K.out.trans (J.out.mono K.out.size))
        clear J
        have cd0 := Pd.out.c0
        have cd1 := Pd.out.c1
        have cd2 := Pd.out.c2
        go_wp2
        exact ret_bool rfl rfl rfl ⟨rfl, K.out⟩
      · clear Hsig
        go_wp2
        exact ret_bool rfl rfl rfl ⟨rfl, K.out⟩
    · rw [hn]
      have HM := hid hM
      clear hM hn
      have ca0 := Pa.out.c0
      have ca1 := Pa.out.c1
      have ca2 := Pa.out.c2
      have cb0 := Pb.out.c0
      have cb1 := Pb.out.c1
      have cb2 := Pb.out.c2
      go_wp2_with fail
      refine (dcmp_any Db.out Da.out).mono ?_
      rintro e w4 ⟨r2, er2, rfl, HC2, J⟩
      obtain ⟨rfl, rfl⟩ := HC2.out.1 ⟨Hpb.out, Hpa.out⟩
      rw [hm]
      clear hm HC2
      clear ca0 ca1 ca2 cb0 cb1 cb2
      replace Pa := hid (Pa.out.below J.out Pa.out.lt)
      replace Pb := hid (Pb.out.below J.out Pb.out.lt)
      replace Da := hid (Da.out.below J.out)
      replace Db := hid (Db.out.below J.out)
      replace K := hid (K.out.trans (J.out.mono K.out.size))
      clear J
      have ca0 := Pa.out.c0
      have ca1 := Pa.out.c1
      have ca2 := Pa.out.c2
      have cb0 := Pb.out.c0
      have cb1 := Pb.out.c1
      have cb2 := Pb.out.c2
      go_wp2_with fail
      refine (dsub_any Da.out Db.out (HT.out.below K.out HT.out.lt)).mono ?_
      rintro e w5 ⟨d, g, rfl, HE, HD, HB⟩
      obtain ⟨sd, Ad, nd, cd, xd, rfl, hneg, hzero, hpos⟩ := HD.out.sign
      have J0 := hid ((Below.refl w5.heap.size w5).alloc (Nat.le_refl _) (.cells #[.bool sd, .slice Ad nd cd, .int .i64 xd] 24))
      have J := hid (HB.out.trans (J0.out.mono HB.out.size))
      clear ca0 ca1 ca2 cb0 cb1 cb2
      replace Pa := hid (Pa.out.below J.out Pa.out.lt)
      replace Pb := hid (Pb.out.below J.out Pb.out.lt)
      replace Da := hid (Da.out.below J.out)
      replace Db := hid (Db.out.below J.out)
      replace K := hid (K.out.trans (J.out.mono K.out.size))
      have Pd : Hid (Dbox (w5.alloc (.cells #[.bool sd, .slice Ad nd cd, .int .i64 xd] 24)) w5.heap.size sd (.slice Ad nd cd) xd) := heap_alloc_new _ _
      have Dd := hid (HD.out.arg.below J0.out)
      have hg : g = 0 ∨ g = 10 := by
        rcases HE.out.1 ⟨Hpa.out, Hpb.out⟩ with ⟨_, h⟩ | ⟨_, h⟩
        · exact .inl h
        · exact .inr h
      have Hsig := hid (And.intro hneg (And.intro hzero hpos))
      clear HD HB J0 J HE hneg hzero hpos
      have ca0 := Pa.out.c0
      have ca1 := Pa.out.c1
      have ca2 := Pa.out.c2
      have cb0 := Pb.out.c0
      have cb1 := Pb.out.c1
      have cb2 := Pb.out.c2
      go_wp2_with fail
      refine (same_false Da.out Db.out Hpa.out Hpb.out (by have := HM.out; omega)).mono ?_
      rintro e w6 ⟨rfl, J⟩
      clear ca0 ca1 ca2 cb0 cb1 cb2
      replace Pa := hid (Pa.out.below J.out Pa.out.lt)
      replace Pb := hid (Pb.out.below J.out Pb.out.lt)
      replace Pd := hid (Pd.out.below J.out Pd.out.lt)
      replace Da := hid (Da.out.below J.out)
      replace Db := hid (Db.out.below J.out)
      replace Dd := hid (Dd.out.below J.out)
      replace K := hid (K.out.trans (J.out.mono K.out.size))
      clear J
      rcases hg with rfl | rfl
      · rw [resD_ok rfl] at Hsig
        obtain ⟨hs, hl⟩ := Hsig.out.2.2 (by have := HM.out; omega)
        subst hs
        clear Hsig
        have hdl := Dd.out.len
        have cd0 := Pd.out.c0
        have cd1 := Pd.out.c1
        have cd2 := Pd.out.c2
        go_wp2_with fail
        refine (Dd.out.check).mono ?_
        rintro e w7 ⟨er, rfl, Her, J⟩
        obtain rfl : er = 0 := Her.out.1 trivial
        clear Her
        clear cd0 cd1 cd2
        replace Pa := hid (Pa.out.below J.out Pa.out.lt)
        replace Pb := hid (Pb.out.below J.out Pb.out.lt)
        replace Pd := hid (Pd.out.below J.out Pd.out.lt)
        replace Da := hid (Da.out.below J.out)
        replace Db := hid (Db.out.below J.out)
        replace Dd := hid (Dd.out.below J.out)
        replace K := hid (K.out.trans (J.out.mono K.out.size))
        clear J
        have cd0 := Pd.out.c0
        have cd1 := Pd.out.c1
        have cd2 := Pd.out.c2
        go_wp2
        exact ret_bool rfl rfl rfl ⟨rfl, K.out⟩
      · clear Hsig
        go_wp2
        exact ret_bool rfl rfl rfl ⟨rfl, K.out⟩
  · obtain ⟨rfl, rfl⟩ := HC.out.2 hpq
    have Hpq := hid hpq
    clear HC hpq
    have ca0 := Pa.out.c0
    have ca1 := Pa.out.c1
    have ca2 := Pa.out.c2
    go_wp2_with fail
    refine (Da.out.check).mono ?_
    rintro e w4 ⟨er, rfl, Her, J⟩
    clear ca0 ca1 ca2
    replace Pa := hid (Pa.out.below J.out Pa.out.lt)
    replace Pb := hid (Pb.out.below J.out Pb.out.lt)
    replace Da := hid (Da.out.below J.out)
    replace Db := hid (Db.out.below J.out)
    replace K := hid (K.out.trans (J.out.mono K.out.size))
    clear J
    by_cases hp : pa
    · obtain rfl : er = 0 := Her.out.1 hp
      have Hp := hid hp
      clear hp Her
      have cb0 := Pb.out.c0
      have cb1 := Pb.out.c1
      have cb2 := Pb.out.c2
      go_wp2_with fail
      refine (Db.out.check).mono ?_
      rintro e w5 ⟨er, rfl, Her, J⟩
      obtain rfl : er = 8 := Her.out.2 (fun h => Hpq.out ⟨Hp.out, h⟩)
      clear Her
      clear cb0 cb1 cb2
      replace Pa := hid (Pa.out.below J.out Pa.out.lt)
      replace Pb := hid (Pb.out.below J.out Pb.out.lt)
      replace Da := hid (Da.out.below J.out)
      replace Db := hid (Db.out.below J.out)
      replace K := hid (K.out.trans (J.out.mono K.out.size))
      clear J
      go_wp2
      exact ret_bool rfl rfl rfl ⟨rfl, K.out⟩
    · obtain rfl : er = 8 := Her.out.2 hp
      clear hp Her
      go_wp2
      exact ret_bool rfl rfl rfl ⟨rfl, K.out⟩

end Go.Proofs.YtflegkefgbifcaaDoor
