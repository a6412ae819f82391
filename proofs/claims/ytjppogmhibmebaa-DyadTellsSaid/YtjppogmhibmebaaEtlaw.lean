/- DyadTells's walk. -/
import Derived.Test.YtjppogmhibmebaaEtells
import Derived.Test.YtjppogmhibmebaaEspoil
import Derived.Test.YtjppogmhibmebaaEcom
namespace Go.Proofs.Ytjppogmhibmebaa
open Go.RowKit

theorem cres_uniq {p : Prop} {M N r er r2 er2 : Int} (h1 : (p → er = 0 ∧ r = cmpI M N) ∧ (¬ p → er = 8 ∧ r = 0)) (h2 : (p → er2 = 0 ∧ r2 = cmpI M N) ∧ (¬ p → er2 = 8 ∧ r2 = 0)) : r2 = r ∧ er2 = er := by
  by_cases hp : p
  · rw [(h1.1 hp).1, (h1.1 hp).2, (h2.1 hp).1, (h2.1 hp).2]
    exact ⟨rfl, rfl⟩
  · rw [(h1.2 hp).1, (h1.2 hp).2, (h2.2 hp).1, (h2.2 hp).2]
    exact ⟨rfl, rfl⟩
theorem Mk.none {w : World} {e : TypeId} {B n c : Nat} {A : Option Addr} {f : Nat → Nat} (h : Mk w e B A n c f) : A = none → n = 0 ∧ c = 0 := by
  intro hA
  rcases h.own with ⟨_, h1, h2⟩ | ⟨g, cs, h1, _⟩
  · exact ⟨h1, h2⟩
  · rw [hA] at h1
    cases h1
theorem Mk.spd {w : World} {B n c : Nat} {A : Option Addr} {f : Nat → Nat} (h : Mk w 48 B A n c f) (s : Bool) (x : Int) : Spd B w (.agg #[.bool s, .slice A n c, .int .i64 x]) := by
  refine ⟨s, _, x, rfl, ?_⟩
  rcases h.own with ⟨rfl, rfl, rfl⟩ | ⟨g, cs, rfl, hg, hh, hs, hc⟩
  · exact .inl rfl
  · exact .inr ⟨g, n, c, cs, rfl, hg, hh, Nat.le_trans h.cap hs, h.cap, h.max⟩


set_option maxHeartbeats 12800000 in
set_option maxRecDepth 1000000 in
theorem tells_walk {w : World} {Aa Ab : Option Addr} {na ca nb cb : Nat} {fa fb : Nat → Nat} {sa sb : Bool} {xa xb n : Int} (ha : Rd w w.heap.size Aa na ca fa) (nila : Aa = none → na = 0 ∧ ca = 0) (hb : Rd w w.heap.size Ab nb cb fb) (hn : -9223372036854775808 ≤ n ∧ n ≤ 9223372036854775807) :
    Calls Try.prog 3 #[.agg #[.bool sa, .slice Aa na ca, .int .i64 xa], .agg #[.bool sb, .slice Ab nb cb, .int .i64 xb], .int .i64 n] w fun e w' => e = .returned (.bool true) ∧ Below w.heap.size w w' := by
  have ham := ha.max
  have hbm := hb.max
  have K := hid (((Below.refl w.heap.size w).alloc (Nat.le_refl _) (.cells #[.bool sa, .slice Aa na ca, .int .i64 xa] 24)).alloc (by simp) (.cells #[.bool sb, .slice Ab nb cb, .int .i64 xb] 24))
  have Pa : Hid (Dbox _ w.heap.size sa (.slice Aa na ca) xa) := (Below.heap_alloc _ (.cells #[.bool sb, .slice Ab nb cb, .int .i64 xb] 24) _ (by simp)).trans (heap_alloc_new w (.cells #[.bool sa, .slice Aa na ca, .int .i64 xa] 24))
  have Pb : Hid (Dbox _ (w.heap.size + 1) sb (.slice Ab nb cb) xb) := heap_alloc2_new w (.cells #[.bool sa, .slice Aa na ca, .int .i64 xa] 24) (.cells #[.bool sb, .slice Ab nb cb, .int .i64 xb] 24)
  have Ra := hid ((ha.below K.out).mono K.out.size)
  have Rb := hid ((hb.below K.out).mono K.out.size)
  have Na := hid nila
  have Hn := hid hn
  clear ha hb nila hn
  go_enter Try.func3, Try.ntmps3
  have ca0 := Pa.out.c0
  have ca1 := Pa.out.c1
  have ca2 := Pa.out.c2
  go_wp2_with fail
  refine (dgreat_any _ _ _ _ _ _ ham).mono ?_
  rintro e w1 ⟨rfl, J⟩
  clear ca0 ca1 ca2
  replace Pa := hid (Pa.out.below J.out Pa.out.lt)
  replace Pb := hid (Pb.out.below J.out Pb.out.lt)
  replace Ra := hid ((Ra.out.below J.out).mono J.out.size)
  replace Rb := hid ((Rb.out.below J.out).mono J.out.size)
  replace K := hid (K.out.trans (J.out.mono K.out.size))
  clear J
  by_cases hga : 42 < na ∨ 1100 < xa
  · rw [bool_of_dec hga]
    clear hga
    go_wp2
    exact ret_bool rfl rfl rfl ⟨rfl, K.out⟩
  rw [bool_of_not hga]
  have ha42 : na ≤ 42 := by omega
  clear hga
  have cb0 := Pb.out.c0
  have cb1 := Pb.out.c1
  have cb2 := Pb.out.c2
  go_wp2_with fail
  refine (dgreat_any _ _ _ _ _ _ hbm).mono ?_
  rintro e w2 ⟨rfl, J⟩
  clear cb0 cb1 cb2
  replace Pa := hid (Pa.out.below J.out Pa.out.lt)
  replace Pb := hid (Pb.out.below J.out Pb.out.lt)
  replace Ra := hid ((Ra.out.below J.out).mono J.out.size)
  replace Rb := hid ((Rb.out.below J.out).mono J.out.size)
  replace K := hid (K.out.trans (J.out.mono K.out.size))
  clear J
  by_cases hgb : 42 < nb ∨ 1100 < xb
  · rw [bool_of_dec hgb]
    clear hgb
    go_wp2
    exact ret_bool rfl rfl rfl ⟨rfl, K.out⟩
  rw [bool_of_not hgb]
  have hb42 : nb ≤ 42 := by omega
  clear hgb
  have ca0 := Pa.out.c0
  have ca1 := Pa.out.c1
  have ca2 := Pa.out.c2
  go_wp2_with fail
  refine (etwin_any Ra.out Na.out ha42 sa xa).mono ?_
  rintro e w3 ⟨A5, c5, rfl, M5, J⟩
  clear ca0 ca1 ca2
  have J0 := hid ((Below.refl w3.heap.size w3).alloc (Nat.le_refl _) (.cells #[.bool sa, .slice A5 na c5, .int .i64 xa] 24))
  replace J := hid (J.out.trans (J0.out.mono J.out.size))
  replace Pa := hid (Pa.out.below J.out Pa.out.lt)
  replace Pb := hid (Pb.out.below J.out Pb.out.lt)
  replace Ra := hid ((Ra.out.below J.out).mono J.out.size)
  replace Rb := hid ((Rb.out.below J.out).mono J.out.size)
  replace K := hid (K.out.trans (J.out.mono K.out.size))
  have P5 : Hid (Dbox (w3.alloc (.cells #[.bool sa, .slice A5 na c5, .int .i64 xa] 24)) w3.heap.size sa (.slice A5 na c5) xa) := heap_alloc_new _ _
  have R5 := hid ((M5.out.rd.below J0.out).mono J0.out.size)
  have N5 := hid M5.out.none
  clear J J0 M5
  obtain ⟨pa, Ma, hDa, hD5⟩ := arg_both (s := sa) (x := xa) Ra.out R5.out
  obtain ⟨pb, Mb, hDb⟩ := arg_of (s := sb) (x := xb) Rb.out
  have Da := hid hDa
  have D5 := hid hD5
  have Db := hid hDb
  clear hDa hD5 hDb
  have c50 := P5.out.c0
  have c51 := P5.out.c1
  have c52 := P5.out.c2
  have cb0 := Pb.out.c0
  have cb1 := Pb.out.c1
  have cb2 := Pb.out.c2
  go_wp2_with fail
  refine (dcmp_any D5.out Db.out).mono ?_
  rintro e w4 ⟨r1, er1, rfl, HC1, J⟩
  clear c50 c51 c52 cb0 cb1 cb2
  replace Pa := hid (Pa.out.below J.out Pa.out.lt)
  replace Pb := hid (Pb.out.below J.out Pb.out.lt)
  replace P5 := hid (P5.out.below J.out P5.out.lt)
  replace Da := hid (Da.out.below J.out)
  replace D5 := hid (D5.out.below J.out)
  replace Db := hid (Db.out.below J.out)
  replace Ra := hid ((Ra.out.below J.out).mono J.out.size)
  replace Rb := hid ((Rb.out.below J.out).mono J.out.size)
  replace R5 := hid ((R5.out.below J.out).mono J.out.size)
  replace K := hid (K.out.trans (J.out.mono K.out.size))
  clear J
  have ca0 := Pa.out.c0
  have ca1 := Pa.out.c1
  have ca2 := Pa.out.c2
  have cb0 := Pb.out.c0
  have cb1 := Pb.out.c1
  have cb2 := Pb.out.c2
  go_wp2_with fail
  refine (ecmp_any Da.out Db.out).mono ?_
  rintro e w5 ⟨r2, er2, rfl, HC2, J⟩
  obtain ⟨e1, e2⟩ := cres_uniq HC1.out HC2.out
  subst e1 e2
  clear HC1 HC2
  clear ca0 ca1 ca2 cb0 cb1 cb2
  replace Pa := hid (Pa.out.below J.out Pa.out.lt)
  replace Pb := hid (Pb.out.below J.out Pb.out.lt)
  replace P5 := hid (P5.out.below J.out P5.out.lt)
  replace Da := hid (Da.out.below J.out)
  replace D5 := hid (D5.out.below J.out)
  replace Db := hid (Db.out.below J.out)
  replace Ra := hid ((Ra.out.below J.out).mono J.out.size)
  replace Rb := hid ((Rb.out.below J.out).mono J.out.size)
  replace R5 := hid ((R5.out.below J.out).mono J.out.size)
  replace K := hid (K.out.trans (J.out.mono K.out.size))
  clear J
  clear Da Db D5
  have c50 := P5.out.c0
  have c51 := P5.out.c1
  have c52 := P5.out.c2
  go_wp2_with fail
  have KB := hid (Below.refl w5.heap.size w5)
  have HKB := hid K.out.size
  have QA := Ra
  have Q5 := R5
  refine (dtwin_any R5.out N5.out ha42 sa xa).mono ?_
  rintro e w6 ⟨A7, c7, rfl, M7, J⟩
  clear c50 c51 c52
  have J0 := hid ((Below.refl w6.heap.size w6).alloc (Nat.le_refl _) (.cells #[.bool sa, .slice A7 na c7, .int .i64 xa] 24))
  replace J := hid (J.out.trans (J0.out.mono J.out.size))
  replace Pa := hid (Pa.out.below J.out Pa.out.lt)
  replace Pb := hid (Pb.out.below J.out Pb.out.lt)
  replace P5 := hid (P5.out.below J.out P5.out.lt)
  replace Ra := hid ((Ra.out.below J.out).mono J.out.size)
  replace Rb := hid ((Rb.out.below J.out).mono J.out.size)
  replace R5 := hid ((R5.out.below J.out).mono J.out.size)
  replace K := hid (K.out.trans (J.out.mono K.out.size))
  replace KB := hid (KB.out.trans (J.out.mono KB.out.size))
  have P7 : Hid (Dbox (w6.alloc (.cells #[.bool sa, .slice A7 na c7, .int .i64 xa] 24)) w6.heap.size sa (.slice A7 na c7) xa) := heap_alloc_new _ _
  have R7 := hid ((M7.out.rd.below J0.out).mono J0.out.size)
  have Z7 := hid (((M7.out.spd sa xa).mono (Nat.le_refl _)).below J0.out)
  clear J J0 M7 N5
  go_upto_region 7 with fail
  obtain ⟨W, hW⟩ : ∃ W, W = w6.alloc (.cells #[.bool sa, .slice A7 na c7, .int .i64 xa] 24) := ⟨_, rfl⟩
  rw [← hW] at Pa Pb P5 P7 Ra Rb R5 R7 Z7 K KB ⊢
  have g7 := P7.out.lt
  obtain ⟨g, hg⟩ : ∃ g, g = w6.heap.size := ⟨_, rfl⟩
  obtain ⟨g5, hg5⟩ : ∃ g, g = w3.heap.size := ⟨_, rfl⟩
  rw [← hg] at P7 ⊢
  rw [← hg5] at P5 ⊢
  clear hW hg hg5 g7
  have CF : Hid (∀ w', Below W.heap.size W w' → w'.cell? ⟨w.heap.size, 0, none⟩ = some (.bool sa) ∧ w'.cell? ⟨w.heap.size, 1, none⟩ = some (.slice Aa na ca) ∧ w'.cell? ⟨w.heap.size, 2, none⟩ = some (.int .i64 xa) ∧ w'.cell? ⟨w.heap.size + 1, 0, none⟩ = some (.bool sb) ∧ w'.cell? ⟨w.heap.size + 1, 1, none⟩ = some (.slice Ab nb cb) ∧ w'.cell? ⟨w.heap.size + 1, 2, none⟩ = some (.int .i64 xb) ∧ w'.cell? ⟨g5, 0, none⟩ = some (.bool sa) ∧ w'.cell? ⟨g5, 1, none⟩ = some (.slice A5 na c5) ∧ w'.cell? ⟨g5, 2, none⟩ = some (.int .i64 xa) ∧ w'.cell? ⟨g, 0, none⟩ = some (.bool sa) ∧ w'.cell? ⟨g, 1, none⟩ = some (.slice A7 na c7) ∧ w'.cell? ⟨g, 2, none⟩ = some (.int .i64 xa)) :=
    fun w' hb => ⟨(Pa.out.below hb Pa.out.lt).c0, (Pa.out.below hb Pa.out.lt).c1, (Pa.out.below hb Pa.out.lt).c2, (Pb.out.below hb Pb.out.lt).c0, (Pb.out.below hb Pb.out.lt).c1, (Pb.out.below hb Pb.out.lt).c2, (P5.out.below hb P5.out.lt).c0, (P5.out.below hb P5.out.lt).c1, (P5.out.below hb P5.out.lt).c2, (P7.out.below hb P7.out.lt).c0, (P7.out.below hb P7.out.lt).c1, (P7.out.below hb P7.out.lt).c2⟩
  have HBz := hid ((Below.refl W.heap.size W).drew)
  go_region_held3 (fun w' => w'.cell? ⟨w.heap.size, 0, none⟩ = some (.bool sa) ∧ w'.cell? ⟨w.heap.size, 1, none⟩ = some (.slice Aa na ca) ∧ w'.cell? ⟨w.heap.size, 2, none⟩ = some (.int .i64 xa) ∧ w'.cell? ⟨w.heap.size + 1, 0, none⟩ = some (.bool sb) ∧ w'.cell? ⟨w.heap.size + 1, 1, none⟩ = some (.slice Ab nb cb) ∧ w'.cell? ⟨w.heap.size + 1, 2, none⟩ = some (.int .i64 xb) ∧ w'.cell? ⟨g5, 0, none⟩ = some (.bool sa) ∧ w'.cell? ⟨g5, 1, none⟩ = some (.slice A5 na c5) ∧ w'.cell? ⟨g5, 2, none⟩ = some (.int .i64 xa) ∧ w'.cell? ⟨g, 0, none⟩ = some (.bool sa) ∧ w'.cell? ⟨g, 1, none⟩ = some (.slice A7 na c7) ∧ w'.cell? ⟨g, 2, none⟩ = some (.int .i64 xa))
    (exact CF.out _ HBz.out)
    (first
    | (go_at_call 9
       refine (dcheck_any ((R5.out.below HBz.out).mono HBz.out.size) sa xa).mono ?_
       rintro e wx ⟨rfl, Ba0⟩
       have Ba := hid Ba0
       have HBz := hid (HBz.out.trans (Ba.out.mono HBz.out.size)))
    | (go_at_call 10
       refine (echeck_any ((Ra.out.below HBz.out).mono HBz.out.size) sa xa).mono ?_
       rintro e wx ⟨rfl, Ba⟩
       have HBz := hid (HBz.out.trans (Ba.out.mono HBz.out.size)))
    | (go_at_call 12
       refine (dof_dn n Hn.out _).mono ?_
       rintro e wx ⟨o1, rfl, V1, Ba⟩
       replace V1 := hid V1.out.dv
       obtain ⟨s1, A1, n1, c1, x1, rfl⟩ := V1.out.parts
       have HBz := hid (HBz.out.trans (Ba.out.mono HBz.out.size)))
    | (go_at_call 13
       refine (eof_any n Hn.out _).mono ?_
       rintro e wx ⟨o2, rfl, V2, Ba⟩
       obtain ⟨s2, A2, n2, c2, x2, rfl⟩ := V2.out.parts
       replace V1 := hid (V1.out.below Ba.out)
       have HBz := hid (HBz.out.trans (Ba.out.mono HBz.out.size)))
    | (go_at_call_of 11 (Value.agg #[Value.bool s1, Value.slice A1 n1 c1, Value.int IntKind.i64 x1])
       refine (esame_dv V1.out V2.out rfl).mono ?_
       rintro e wx ⟨rfl, Ba⟩
       have HBz := hid (HBz.out.trans (Ba.out.mono HBz.out.size)))
    | (go_at_call_of 11 (Value.agg #[Value.bool sa, Value.slice A7 na c7, Value.int IntKind.i64 xa])
       refine (esame_raw (P := True) ((R7.out.below HBz.out).mono HBz.out.size) ((Ra.out.below HBz.out).mono HBz.out.size) (hid ⟨fun _ => ⟨rfl, rfl, rfl, fun _ => rfl⟩, fun _ => trivial⟩)).mono ?_
       rintro e wx ⟨r, rfl, Hr, Ba⟩
       obtain rfl : r = true := Hr.out.2 trivial
       have HBz := hid (HBz.out.trans (Ba.out.mono HBz.out.size)))
    | (go_at_call_of 14 (Value.agg #[Value.bool sb, Value.slice Ab nb cb, Value.int IntKind.i64 xb])
       refine (dsame_raw (P := (sa = sb ∧ xa = xb ∧ na = nb ∧ ∀ j, fa j = fb j)) ((R5.out.below HBz.out).mono HBz.out.size) ((Rb.out.below HBz.out).mono HBz.out.size) (hid Iff.rfl)).mono ?_
       rintro e wx ⟨r3, rfl, Hr3, Ba⟩
       have HBz := hid (HBz.out.trans (Ba.out.mono HBz.out.size)))
    | (go_at_call_of 11 (Value.agg #[Value.bool sb, Value.slice Ab nb cb, Value.int IntKind.i64 xb])
       refine (esame_raw (P := (sa = sb ∧ xa = xb ∧ na = nb ∧ ∀ j, fa j = fb j)) ((Ra.out.below HBz.out).mono HBz.out.size) ((Rb.out.below HBz.out).mono HBz.out.size) (hid Iff.rfl)).mono ?_
       rintro e wx ⟨r4, rfl, Hr4, Ba⟩
       obtain rfl : r4 = r3 := Bool.eq_iff_iff.2 (Hr4.out.trans Hr3.out.symm)
       have HBz := hid (HBz.out.trans (Ba.out.mono HBz.out.size)))
    | (go_at_call_of 14 (Value.agg #[Value.bool sa, Value.slice Aa na ca, Value.int IntKind.i64 xa])
       refine (dsame_raw (P := True) ((R5.out.below HBz.out).mono HBz.out.size) ((Ra.out.below HBz.out).mono HBz.out.size) (hid ⟨fun _ => ⟨rfl, rfl, rfl, fun _ => rfl⟩, fun _ => trivial⟩)).mono ?_
       rintro e wx ⟨r5, rfl, Hr5, Ba⟩
       obtain rfl : r5 = true := Hr5.out.2 trivial
       have HBz := hid (HBz.out.trans (Ba.out.mono HBz.out.size))))
  all_goals
    clear CF
    replace Pa := hid (Pa.out.below HBz.out Pa.out.lt)
    replace Pb := hid (Pb.out.below HBz.out Pb.out.lt)
    replace P5 := hid (P5.out.below HBz.out P5.out.lt)
    replace P7 := hid (P7.out.below HBz.out P7.out.lt)
    replace Z7 := hid (Z7.out.below HBz.out)
    replace K := hid (K.out.trans (HBz.out.mono K.out.size))
    replace KB := hid (KB.out.trans (HBz.out.mono KB.out.size))
    have c70 := P7.out.c0
    have c71 := P7.out.c1
    have c72 := P7.out.c2
    go_wp2_with fail
    refine (spoild_any Z7.out KB.out.size).mono ?_
    rintro e w7 ⟨rfl, J, HS, HX⟩
    clear c70 c71 c72
    replace Pa := hid (HX.out _ _ _ _ Pa.out)
    replace Pb := hid (HX.out _ _ _ _ Pb.out)
    replace P5 := hid (HX.out _ _ _ _ P5.out)
    replace P7 := hid (HX.out _ _ _ _ P7.out)
    replace KB := hid (KB.out.trans J.out)
    replace K := hid (K.out.trans (J.out.mono HKB.out))
    clear J HS HX Z7
    have c50 := P5.out.c0
    have c51 := P5.out.c1
    have c52 := P5.out.c2
    have ca0 := Pa.out.c0
    have ca1 := Pa.out.c1
    have ca2 := Pa.out.c2
    go_wp2_with fail
    refine (esame_raw (P := True) ((Q5.out.below KB.out).mono KB.out.size) ((QA.out.below KB.out).mono KB.out.size) (hid ⟨fun _ => ⟨rfl, rfl, rfl, fun _ => rfl⟩, fun _ => trivial⟩)).mono ?_
    rintro e w8 ⟨r6, rfl, Hr6, J⟩
    obtain rfl : r6 = true := Hr6.out.2 trivial
    clear c50 c51 c52 ca0 ca1 ca2
    replace Pa := hid (Pa.out.below J.out Pa.out.lt)
    replace Pb := hid (Pb.out.below J.out Pb.out.lt)
    replace P5 := hid (P5.out.below J.out P5.out.lt)
    replace P7 := hid (P7.out.below J.out P7.out.lt)
    replace K := hid (K.out.trans (J.out.mono K.out.size))
    replace KB := hid (KB.out.trans (J.out.mono KB.out.size))
    clear J
    go_wp2
    exact ret_bool rfl rfl rfl ⟨rfl, K.out⟩

end Go.Proofs.Ytjppogmhibmebaa
