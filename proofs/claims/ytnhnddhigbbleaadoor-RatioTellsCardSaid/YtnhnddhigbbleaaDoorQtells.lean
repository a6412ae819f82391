/- RatioTells' walk. -/
import Derived.Test.YtnhnddhigbbleaaDoorEsum
import Derived.Test.YtnhnddhigbbleaaDoorQnear
import Derived.Test.YtnhnddhigbbleaaDoorRn
namespace Go.Proofs.YtnhnddhigbbleaaDoor
open Go.RowKit

theorem box_of2 {X w' : World} (hb : Below ((X.alloc (.cells #[.bool false, .slice none 0 0, .int .i64 0] 24)).alloc (.cells #[.bool false, .slice none 0 0, .int .i64 0] 24)).heap.size ((X.alloc (.cells #[.bool false, .slice none 0 0, .int .i64 0] 24)).alloc (.cells #[.bool false, .slice none 0 0, .int .i64 0] 24)) w') : ∃ g, g = X.heap.size ∧ Dbox w' g false (.slice none 0 0) 0 ∧ Dbox w' (g + 1) false (.slice none 0 0) 0 :=
  ⟨_, rfl, Dbox.below (Dbox.alloc (show Dbox (X.alloc (.cells #[.bool false, .slice none 0 0, .int .i64 0] 24)) X.heap.size false (.slice none 0 0) 0 from heap_alloc_new X _) _) hb (by simp; omega), Dbox.below (heap_alloc2_new X _ _) hb (by simp)⟩

theorem Rd.below2 {X w' : World} {A : Option Addr} {n c : Nat} {f : Nat → Nat} {o : Obj} (h : Rd X X.heap.size A n c f) (hb : Below (X.alloc o).heap.size (X.alloc o) w') : Rd w' w'.heap.size A n c f :=
  (((h.below ((Below.refl _ _).alloc (Nat.le_refl _) o)).mono ((Below.refl X.heap.size X).alloc (Nat.le_refl _) o).size).below hb).mono hb.size
theorem Rd.below3 {X w' : World} {A : Option Addr} {n c : Nat} {f : Nat → Nat} {o p : Obj} (h : Rd X X.heap.size A n c f) (hb : Below ((X.alloc o).alloc p).heap.size ((X.alloc o).alloc p) w') : Rd w' w'.heap.size A n c f :=
  Rd.below2 (((h.below ((Below.refl _ _).alloc (Nat.le_refl _) o)).mono ((Below.refl X.heap.size X).alloc (Nat.le_refl _) o).size)) hb
/-- Two dyads of the call's own, in their boxes. -/
def Two (W wx : World) (g5 g6 : Nat) (sa : Bool) (A5 : Option Addr) (na c5 : Nat) (xa : Int) (fa : Nat → Nat) (sb : Bool) (A6 : Option Addr) (nb c6 : Nat) (xb : Int) (fb : Nat → Nat) : Prop :=
  Dbox wx g5 sa (.slice A5 na c5) xa ∧ Dbox wx g6 sb (.slice A6 nb c6) xb ∧ Rd wx wx.heap.size A5 na c5 fa ∧ Rd wx wx.heap.size A6 nb c6 fb ∧ Below W.heap.size W wx
theorem Dbox.far3 {w : World} {g k : Nat} {s t : Bool} {v u : Value} {x y : Int} (h : Dbox w g s v x) (hk : g ≠ k) : Dbox (put3 w k t u y) g s v x := ((h.far hk 0 _).far hk 1 _).far hk 2 _
section
variable {W V : World} {g5 g6 na c5 nb c6 : Nat} {sa sb : Bool} {A5 A6 : Option Addr} {xa xb : Int} {fa fb : Nat → Nat}
theorem two_put (hB : Below W.heap.size W V) (h5 : Dbox V g5 false (.slice none 0 0) 0) (h6 : Dbox V g6 false (.slice none 0 0) 0) (hne : g5 ≠ g6) (l5 : W.heap.size ≤ g5) (l6 : W.heap.size ≤ g6) (Ra : Rd V V.heap.size A5 na c5 fa) (Rb : Rd V V.heap.size A6 nb c6 fb) :
    Two W (put3 (put3 V g5 sa (.slice A5 na c5) xa) g6 sb (.slice A6 nb c6) xb) g5 g6 sa A5 na c5 xa fa sb A6 nb c6 xb fb := by
  have k6 : Dbox (put3 V g5 sa (.slice A5 na c5) xa) g6 false (.slice none 0 0) 0 := h6.far3 hne.symm
  exact ⟨h5.store.far3 hne, k6.store, (Ra.stay h5).stay k6, (Rb.stay h5).stay k6, below_put3 (below_put3 hB l5) l6⟩
theorem two_f1 (hB : Below W.heap.size W V) (Ra : Rd V V.heap.size A5 na c5 fa) (Rb : Rd V V.heap.size A6 nb c6 fb) :
    Two W ((V.alloc (.cells #[.bool sa, .slice A5 na c5, .int .i64 xa] 24)).alloc (.cells #[.bool sb, .slice A6 nb c6, .int .i64 xb] 24)) V.heap.size (V.heap.size + 1) sa A5 na c5 xa fa sb A6 nb c6 xb fb := by
  have b : Below V.heap.size V ((V.alloc (.cells #[.bool sa, .slice A5 na c5, .int .i64 xa] 24)).alloc (.cells #[.bool sb, .slice A6 nb c6, .int .i64 xb] 24)) := ((Below.refl _ _).alloc (Nat.le_refl _) _).alloc (by simp) _
  exact ⟨Dbox.alloc (show Dbox (V.alloc (.cells #[.bool sa, .slice A5 na c5, .int .i64 xa] 24)) V.heap.size sa (.slice A5 na c5) xa from heap_alloc_new V _) _, heap_alloc2_new V _ _, (Ra.below b).mono b.size, (Rb.below b).mono b.size, hB.trans (b.mono hB.size)⟩
theorem two_f2 (hB : Below W.heap.size W V) (Ra : Rd V V.heap.size A5 na c5 fa) (Rb : Rd V V.heap.size A6 nb c6 fb) :
    Two W ((V.alloc (.cells #[.bool sb, .slice A6 nb c6, .int .i64 xb] 24)).alloc (.cells #[.bool sa, .slice A5 na c5, .int .i64 xa] 24)) (V.heap.size + 1) V.heap.size sa A5 na c5 xa fa sb A6 nb c6 xb fb := by
  obtain ⟨a, b, c, d, e⟩ := two_f1 (sa := sb) (sb := sa) (xa := xb) (xb := xa) hB Rb Ra
  exact ⟨b, a, d, c, e⟩
theorem two_f3 (hB : Below W.heap.size W V) (h5 : Dbox V g5 false (.slice none 0 0) 0) (l5 : W.heap.size ≤ g5) (Ra : Rd V V.heap.size A5 na c5 fa) (Rb : Rd V V.heap.size A6 nb c6 fb) :
    Two W (put3 (put3 (V.alloc (.cells #[.bool false, .slice none 0 0, .int .i64 0] 24)) g5 sa (.slice A5 na c5) xa) V.heap.size sb (.slice A6 nb c6) xb) g5 V.heap.size sa A5 na c5 xa fa sb A6 nb c6 xb fb := by
  have b : Below V.heap.size V (V.alloc (.cells #[.bool false, .slice none 0 0, .int .i64 0] 24)) := (Below.refl _ _).alloc (Nat.le_refl _) _
  exact two_put (hB.trans (b.mono hB.size)) (h5.alloc _) (heap_alloc_new V _) (Nat.ne_of_lt h5.lt) l5 hB.size ((Ra.below b).mono b.size) ((Rb.below b).mono b.size)
theorem two_f4 (hB : Below W.heap.size W V) (h6 : Dbox V g6 false (.slice none 0 0) 0) (l6 : W.heap.size ≤ g6) (Ra : Rd V V.heap.size A5 na c5 fa) (Rb : Rd V V.heap.size A6 nb c6 fb) :
    Two W (put3 (V.alloc (.cells #[.bool sa, .slice A5 na c5, .int .i64 xa] 24)) g6 sb (.slice A6 nb c6) xb) V.heap.size g6 sa A5 na c5 xa fa sb A6 nb c6 xb fb := by
  have b : Below V.heap.size V (V.alloc (.cells #[.bool sa, .slice A5 na c5, .int .i64 xa] 24)) := (Below.refl _ _).alloc (Nat.le_refl _) _
  have k5 : Dbox (V.alloc (.cells #[.bool sa, .slice A5 na c5, .int .i64 xa] 24)) V.heap.size sa (.slice A5 na c5) xa := heap_alloc_new V _
  exact ⟨k5.far3 (Nat.ne_of_gt h6.lt), (h6.alloc _).store, ((Ra.below b).mono b.size).stay (h6.alloc _), ((Rb.below b).mono b.size).stay (h6.alloc _), below_put3 (hB.trans (b.mono hB.size)) l6⟩
theorem two_put' (hB : Below W.heap.size W V) (h5 : Dbox V g5 false (.slice none 0 0) 0) (h6 : Dbox V g6 false (.slice none 0 0) 0) (hne : g5 ≠ g6) (l5 : W.heap.size ≤ g5) (l6 : W.heap.size ≤ g6) (Ra : Rd V V.heap.size A5 na c5 fa) (Rb : Rd V V.heap.size A6 nb c6 fb) :
    Two W (((((((V).setCell ⟨g5, 0, none⟩ (.bool sa)).setCell ⟨g5, 1, none⟩ (.slice A5 na c5)).setCell ⟨g5, 2, none⟩ (.int .i64 xa)).setCell ⟨g6, 0, none⟩ (.bool sb)).setCell ⟨g6, 1, none⟩ (.slice A6 nb c6)).setCell ⟨g6, 2, none⟩ (.int .i64 xb)) g5 g6 sa A5 na c5 xa fa sb A6 nb c6 xb fb := two_put hB h5 h6 hne l5 l6 Ra Rb
theorem two_f3' (hB : Below W.heap.size W V) (h5 : Dbox V g5 false (.slice none 0 0) 0) (l5 : W.heap.size ≤ g5) (Ra : Rd V V.heap.size A5 na c5 fa) (Rb : Rd V V.heap.size A6 nb c6 fb) :
    Two W (((((((V.alloc (.cells #[.bool false, .slice none 0 0, .int .i64 0] 24)).setCell ⟨g5, 0, none⟩ (.bool sa)).setCell ⟨g5, 1, none⟩ (.slice A5 na c5)).setCell ⟨g5, 2, none⟩ (.int .i64 xa)).setCell ⟨V.heap.size, 0, none⟩ (.bool sb)).setCell ⟨V.heap.size, 1, none⟩ (.slice A6 nb c6)).setCell ⟨V.heap.size, 2, none⟩ (.int .i64 xb)) g5 V.heap.size sa A5 na c5 xa fa sb A6 nb c6 xb fb := two_f3 hB h5 l5 Ra Rb
theorem two_f4' (hB : Below W.heap.size W V) (h6 : Dbox V g6 false (.slice none 0 0) 0) (l6 : W.heap.size ≤ g6) (Ra : Rd V V.heap.size A5 na c5 fa) (Rb : Rd V V.heap.size A6 nb c6 fb) :
    Two W ((((V.alloc (.cells #[.bool sa, .slice A5 na c5, .int .i64 xa] 24)).setCell ⟨g6, 0, none⟩ (.bool sb)).setCell ⟨g6, 1, none⟩ (.slice A6 nb c6)).setCell ⟨g6, 2, none⟩ (.int .i64 xb)) V.heap.size g6 sa A5 na c5 xa fa sb A6 nb c6 xb fb := two_f4 hB h6 l6 Ra Rb
end


set_option maxHeartbeats 12800000 in
set_option maxRecDepth 1000000 in
theorem rtells_walk {w : World} {k : Int} {Aa Ab : Option Addr} {na ca nb cb : Nat} {fa fb : Nat → Nat} {sa sb : Bool} {xa xb : Int} (ha : Rd w w.heap.size Aa na ca fa) (nila : Aa = none → na = 0 ∧ ca = 0) (hb : Rd w w.heap.size Ab nb cb fb) (nilb : Ab = none → nb = 0 ∧ cb = 0) (hT : Tab w) (hT64 : Tab64 w) :
    Calls Tryd.prog 3 #[.agg #[.bool sa, .slice Aa na ca, .int .i64 xa], .agg #[.bool sb, .slice Ab nb cb, .int .i64 xb], .int .i64 k] w fun e w' => e = .returned (.bool true) ∧ Below w.heap.size w w' := by
  have ham := ha.max
  have hbm := hb.max
  have HT := hid hT
  have HT64 := hid hT64
  have K := hid (((Below.refl w.heap.size w).alloc (Nat.le_refl _) (.cells #[.bool sa, .slice Aa na ca, .int .i64 xa] 24)).alloc (by simp) (.cells #[.bool sb, .slice Ab nb cb, .int .i64 xb] 24))
  have Pa : Hid (Dbox _ w.heap.size sa (.slice Aa na ca) xa) := (Below.heap_alloc _ (.cells #[.bool sb, .slice Ab nb cb, .int .i64 xb] 24) _ (by simp)).trans (heap_alloc_new w (.cells #[.bool sa, .slice Aa na ca, .int .i64 xa] 24))
  have Pb : Hid (Dbox _ (w.heap.size + 1) sb (.slice Ab nb cb) xb) := heap_alloc2_new w (.cells #[.bool sa, .slice Aa na ca, .int .i64 xa] 24) (.cells #[.bool sb, .slice Ab nb cb, .int .i64 xb] 24)
  have Ra := hid ((ha.below K.out).mono K.out.size)
  have Rb := hid ((hb.below K.out).mono K.out.size)
  have Na := hid nila
  have Nb := hid nilb
  clear ha hb hT hT64 nila nilb
  go_enter Tryd.func3, Tryd.ntmps3
  have ca0 := Pa.out.c0
  have ca1 := Pa.out.c1
  have ca2 := Pa.out.c2
  go_wp2_with fail
  refine (dgreat_any _ _ _ _ _ _ ham).mono ?_
  rintro e w1 ⟨rfl, J⟩
  clear ca0 ca1 ca2
  replace Pa := hid (Pa.out.below J.out Pa.out.lt)
  replace Pb := hid (Pb.out.below J.out Pb.out.lt)
  replace Ra := hid ((Ra.out.below J.out).mono J.out.size)
  replace Rb := hid ((Rb.out.below J.out).mono J.out.size)
  replace K := hid (K.out.trans (J.out.mono K.out.size))
  clear J
  by_cases hga : 42 < na ∨ 1100 < xa
  · rw [bool_of_dec hga]
    clear hga
    go_wp2
    exact ret_bool rfl rfl rfl ⟨rfl, K.out⟩
  rw [bool_of_not hga]
  have ha42 : na ≤ 42 := by omega
  clear hga
  have cb0 := Pb.out.c0
  have cb1 := Pb.out.c1
  have cb2 := Pb.out.c2
  go_wp2_with fail
  refine (dgreat_any _ _ _ _ _ _ hbm).mono ?_
  rintro e w2 ⟨rfl, J⟩
  clear cb0 cb1 cb2
  replace Pa := hid (Pa.out.below J.out Pa.out.lt)
  replace Pb := hid (Pb.out.below J.out Pb.out.lt)
  replace Ra := hid ((Ra.out.below J.out).mono J.out.size)
  replace Rb := hid ((Rb.out.below J.out).mono J.out.size)
  replace K := hid (K.out.trans (J.out.mono K.out.size))
  clear J
  by_cases hgb : 42 < nb ∨ 1100 < xb
  · rw [bool_of_dec hgb]
    clear hgb
    go_wp2
    exact ret_bool rfl rfl rfl ⟨rfl, K.out⟩
  rw [bool_of_not hgb]
  have hb42 : nb ≤ 42 := by omega
  clear hgb
  go_upto_region 3 with fail
  obtain ⟨W, hW⟩ : ∃ W, W = w2 := ⟨_, rfl⟩
  rw [← hW] at Pa Pb Ra Rb K ⊢
  clear hW
  go_cut [7, 8] (fun s5 s6 wx => ∃ (g5 g6 : Nat) (A5 A6 : Option Addr) (c5 c6 : Nat), s5 = .pointer (some ⟨g5, 0, none⟩) ∧ s6 = .pointer (some ⟨g6, 0, none⟩) ∧ Hid (Two W wx g5 g6 sa A5 na c5 xa fa sb A6 nb c6 xb fb))
  case first =>
    have CF : Hid (∀ w', Below W.heap.size W w' → w'.cell? ⟨w.heap.size, 0, none⟩ = some (.bool sa) ∧ w'.cell? ⟨w.heap.size, 1, none⟩ = some (.slice Aa na ca) ∧ w'.cell? ⟨w.heap.size, 2, none⟩ = some (.int .i64 xa) ∧ w'.cell? ⟨w.heap.size + 1, 0, none⟩ = some (.bool sb) ∧ w'.cell? ⟨w.heap.size + 1, 1, none⟩ = some (.slice Ab nb cb) ∧ w'.cell? ⟨w.heap.size + 1, 2, none⟩ = some (.int .i64 xb)) :=
      fun w' hb => ⟨(Pa.out.below hb Pa.out.lt).c0, (Pa.out.below hb Pa.out.lt).c1, (Pa.out.below hb Pa.out.lt).c2, (Pb.out.below hb Pb.out.lt).c0, (Pb.out.below hb Pb.out.lt).c1, (Pb.out.below hb Pb.out.lt).c2⟩
    have Ca := hid (fun (w' : World) (hb : Below W.heap.size W w') => etwin_any ((Ra.out.below hb).mono hb.size) Na.out ha42 sa xa)
    have Cb := hid (fun (w' : World) (hb : Below W.heap.size W w') => etwin_any ((Rb.out.below hb).mono hb.size) Nb.out hb42 sb xb)
    have HBz := hid ((Below.refl W.heap.size W).drew)
    clear Pa Pb Ra Rb
    go_region_held3 (fun w' => w'.cell? ⟨w.heap.size, 0, none⟩ = some (.bool sa) ∧ w'.cell? ⟨w.heap.size, 1, none⟩ = some (.slice Aa na ca) ∧ w'.cell? ⟨w.heap.size, 2, none⟩ = some (.int .i64 xa) ∧ w'.cell? ⟨w.heap.size + 1, 0, none⟩ = some (.bool sb) ∧ w'.cell? ⟨w.heap.size + 1, 1, none⟩ = some (.slice Ab nb cb) ∧ w'.cell? ⟨w.heap.size + 1, 2, none⟩ = some (.int .i64 xb))
      ((refine CF.out _ ?_; repeat' (first | with_reducible exact HBz.out | with_reducible refine Below.setCell ?_ ?_ _ | with_reducible refine Below.alloc ?_ ?_ _ | with_reducible refine Below.drew ?_ | with_reducible exact Below.refl _ _ | with_reducible exact Nat.le_refl _ | with_reducible exact HBz.out.size | with_reducible exact Hgx.out | with_reducible exact Hgy.out | with_reducible exact Hgq.out | (simp; done) | (simp; have := HBz.out.size; omega))))
      (first
      | (go_at_call_of 5 (Value.agg #[Value.bool sa, Value.slice Aa na ca, Value.int IntKind.i64 xa])
         first
           | refine (Ca.out _ HBz.out).mono ?_
           | refine (Ca.out _ (HBz.out.alloc HBz.out.size _)).mono ?_
           | refine (Ca.out _ ((HBz.out.alloc HBz.out.size _).alloc (HBz.out.alloc HBz.out.size _).size _)).mono ?_
         rintro e wx ⟨Aa1, ca1, rfl, Ma, Ba⟩
         replace Ma := hid Ma.out.rd
         first
           | (obtain ⟨gx, hgx, Px0, Py0⟩ := box_of2 Ba.out
              have Px := hid Px0
              have Py := hid Py0
              have Hgx := hid (show W.heap.size ≤ gx by rw [hgx]; exact HBz.out.size)
              obtain ⟨gy, hgy⟩ : ∃ gy, gy = gx + 1 := ⟨_, rfl⟩
              have Hgy := hid (show W.heap.size ≤ gy by have := Hgx.out; omega)
              have Hne := hid (show gx ≠ gy by omega)
              rw [← hgy] at Py
              rw [hgx] at hgy
              first
                | rw [← hgy, ← hgx]
                | (rw [show W.drew.heap.size = W.heap.size from rfl] at hgx hgy
                   rw [← hgy, ← hgx])
              clear hgx hgy Px0 Py0)
           | (obtain ⟨gq, hgq, Pz0⟩ := box_of Ba.out
              first
                | (have Py := hid ((Px.out.alloc _).below Ba.out (Px.out.alloc _).lt)
                   have Hgy := Hgq
                   have Hne := hid (Nat.ne_of_gt (Nat.lt_of_lt_of_eq Px.out.lt hgq.symm)))
                | skip
              have Px := hid Pz0
              have Hgq := hid (show W.heap.size ≤ gq by rw [hgq]; exact HBz.out.size)
              first
                | rw [← hgq]
                | (rw [show W.drew.heap.size = W.heap.size from rfl] at hgq
                   rw [← hgq])
              clear hgq Pz0)
           | (have Px := hid (Px.out.below Ba.out Px.out.lt)
              try (have Py := hid (Py.out.below Ba.out Py.out.lt)))
           | skip
         have HBz := hid (by first | exact HBz.out.trans (Ba.out.mono HBz.out.size) | exact (HBz.out.alloc HBz.out.size _).trans (Ba.out.mono (HBz.out.alloc HBz.out.size _).size) | exact ((HBz.out.alloc HBz.out.size _).alloc (HBz.out.alloc HBz.out.size _).size _).trans (Ba.out.mono ((HBz.out.alloc HBz.out.size _).alloc (HBz.out.alloc HBz.out.size _).size _).size))
         try (replace Mb := hid (by first | exact (Mb.out.below Ba.out).mono Ba.out.size | exact Mb.out.below2 Ba.out | exact Mb.out.below3 Ba.out))
         have QA : Dbox ((wx.alloc (.cells #[.bool false, .slice none 0 0, .int .i64 0] 24)).alloc (.cells #[.bool false, .slice none 0 0, .int .i64 0] 24)) wx.heap.size false (.slice none 0 0) 0 := Dbox.alloc (show Dbox (wx.alloc (.cells #[.bool false, .slice none 0 0, .int .i64 0] 24)) wx.heap.size false (.slice none 0 0) 0 from heap_alloc_new wx _) _
         have ka0 := QA.c0
         have ka1 := QA.c1
         have ka2 := QA.c2
         have kf0 := QA.frozen 0
         have kf1 := QA.frozen 1
         have kf2 := QA.frozen 2
         have QA := hid QA
         try
           (have z0 := Px.out.c0
            have z1 := Px.out.c1
            have z2 := Px.out.c2
            have y0 := Px.out.frozen 0
            have y1 := Px.out.frozen 1
            have y2 := Px.out.frozen 2
            have m0 := fun o : Obj => (Px.out.alloc o).c0
            have m1 := fun o : Obj => (Px.out.alloc o).c1
            have m2 := fun o : Obj => (Px.out.alloc o).c2
            have l0 := fun o : Obj => (Px.out.alloc o).frozen 0
            have l1 := fun o : Obj => (Px.out.alloc o).frozen 1
            have l2 := fun o : Obj => (Px.out.alloc o).frozen 2
            have hx1 := Nat.ne_of_lt Px.out.lt
            have hx2 := (Nat.ne_of_lt Px.out.lt).symm)
         try
           (have v0 := Py.out.c0
            have v1 := Py.out.c1
            have v2 := Py.out.c2
            have u0 := Py.out.frozen 0
            have u1 := Py.out.frozen 1
            have u2 := Py.out.frozen 2
            have hn1 := Hne.out
            have hn2 := Hne.out.symm))
      | (go_at_call_of 5 (Value.agg #[Value.bool sb, Value.slice Ab nb cb, Value.int IntKind.i64 xb])
         first
           | refine (Cb.out _ HBz.out).mono ?_
           | refine (Cb.out _ (HBz.out.alloc HBz.out.size _)).mono ?_
           | refine (Cb.out _ ((HBz.out.alloc HBz.out.size _).alloc (HBz.out.alloc HBz.out.size _).size _)).mono ?_
         rintro e wx ⟨Ab1, cb1, rfl, Mb, Ba⟩
         replace Mb := hid Mb.out.rd
         first
           | (obtain ⟨gx, hgx, Px0, Py0⟩ := box_of2 Ba.out
              have Px := hid Px0
              have Py := hid Py0
              have Hgx := hid (show W.heap.size ≤ gx by rw [hgx]; exact HBz.out.size)
              obtain ⟨gy, hgy⟩ : ∃ gy, gy = gx + 1 := ⟨_, rfl⟩
              have Hgy := hid (show W.heap.size ≤ gy by have := Hgx.out; omega)
              have Hne := hid (show gx ≠ gy by omega)
              rw [← hgy] at Py
              rw [hgx] at hgy
              first
                | rw [← hgy, ← hgx]
                | (rw [show W.drew.heap.size = W.heap.size from rfl] at hgx hgy
                   rw [← hgy, ← hgx])
              clear hgx hgy Px0 Py0)
           | (obtain ⟨gq, hgq, Pz0⟩ := box_of Ba.out
              first
                | (have Py := hid ((Px.out.alloc _).below Ba.out (Px.out.alloc _).lt)
                   have Hgy := Hgq
                   have Hne := hid (Nat.ne_of_gt (Nat.lt_of_lt_of_eq Px.out.lt hgq.symm)))
                | skip
              have Px := hid Pz0
              have Hgq := hid (show W.heap.size ≤ gq by rw [hgq]; exact HBz.out.size)
              first
                | rw [← hgq]
                | (rw [show W.drew.heap.size = W.heap.size from rfl] at hgq
                   rw [← hgq])
              clear hgq Pz0)
           | (have Px := hid (Px.out.below Ba.out Px.out.lt)
              try (have Py := hid (Py.out.below Ba.out Py.out.lt)))
           | skip
         have HBz := hid (by first | exact HBz.out.trans (Ba.out.mono HBz.out.size) | exact (HBz.out.alloc HBz.out.size _).trans (Ba.out.mono (HBz.out.alloc HBz.out.size _).size) | exact ((HBz.out.alloc HBz.out.size _).alloc (HBz.out.alloc HBz.out.size _).size _).trans (Ba.out.mono ((HBz.out.alloc HBz.out.size _).alloc (HBz.out.alloc HBz.out.size _).size _).size))
         try (replace Ma := hid (by first | exact (Ma.out.below Ba.out).mono Ba.out.size | exact Ma.out.below2 Ba.out | exact Ma.out.below3 Ba.out))
         have QA : Dbox ((wx.alloc (.cells #[.bool false, .slice none 0 0, .int .i64 0] 24)).alloc (.cells #[.bool false, .slice none 0 0, .int .i64 0] 24)) wx.heap.size false (.slice none 0 0) 0 := Dbox.alloc (show Dbox (wx.alloc (.cells #[.bool false, .slice none 0 0, .int .i64 0] 24)) wx.heap.size false (.slice none 0 0) 0 from heap_alloc_new wx _) _
         have ka0 := QA.c0
         have ka1 := QA.c1
         have ka2 := QA.c2
         have kf0 := QA.frozen 0
         have kf1 := QA.frozen 1
         have kf2 := QA.frozen 2
         have QA := hid QA
         try
           (have z0 := Px.out.c0
            have z1 := Px.out.c1
            have z2 := Px.out.c2
            have y0 := Px.out.frozen 0
            have y1 := Px.out.frozen 1
            have y2 := Px.out.frozen 2
            have m0 := fun o : Obj => (Px.out.alloc o).c0
            have m1 := fun o : Obj => (Px.out.alloc o).c1
            have m2 := fun o : Obj => (Px.out.alloc o).c2
            have l0 := fun o : Obj => (Px.out.alloc o).frozen 0
            have l1 := fun o : Obj => (Px.out.alloc o).frozen 1
            have l2 := fun o : Obj => (Px.out.alloc o).frozen 2
            have hx1 := Nat.ne_of_lt Px.out.lt
            have hx2 := (Nat.ne_of_lt Px.out.lt).symm)
         try
           (have v0 := Py.out.c0
            have v1 := Py.out.c1
            have v2 := Py.out.c2
            have u0 := Py.out.frozen 0
            have u1 := Py.out.frozen 1
            have u2 := Py.out.frozen 2
            have hn1 := Hne.out
            have hn2 := Hne.out.symm)))
    all_goals
      clear CF Ca Cb
      go_wp2_with fail
      go_meet
      first
        | with_reducible exact ⟨_, _, _, _, _, _, rfl, rfl, hid (two_f1 HBz.out Ma.out Mb.out)⟩
        | with_reducible exact ⟨_, _, _, _, _, _, rfl, rfl, hid (two_f2 HBz.out Ma.out Mb.out)⟩
        | with_reducible exact ⟨_, _, _, _, _, _, rfl, rfl, hid (two_f3' HBz.out Px.out Hgq.out Ma.out Mb.out)⟩
        | with_reducible exact ⟨_, _, _, _, _, _, rfl, rfl, hid (two_f4' HBz.out Px.out Hgq.out Ma.out Mb.out)⟩
        | with_reducible exact ⟨_, _, _, _, _, _, rfl, rfl, hid (two_put' HBz.out Px.out Py.out Hne.out Hgx.out Hgy.out Ma.out Mb.out)⟩
        | with_reducible exact ⟨_, _, _, _, _, _, rfl, rfl, hid (two_put' HBz.out Py.out Px.out Hne.out.symm Hgy.out Hgx.out Ma.out Mb.out)⟩
        | with_reducible exact ⟨_, _, _, _, _, _, rfl, rfl, hid (two_put' HBz.out Px.out Py.out Hne.out Hgq.out Hgy.out Ma.out Mb.out)⟩
        | with_reducible exact ⟨_, _, _, _, _, _, rfl, rfl, hid (two_put' HBz.out Py.out Px.out Hne.out.symm Hgy.out Hgq.out Ma.out Mb.out)⟩
  case rest =>
    obtain ⟨g5, g6, A5, A6, c5, c6, rfl, rfl, HC⟩ := hcut
    have P5 := hid HC.out.1
    have P6 := hid HC.out.2.1
    have R5 := hid HC.out.2.2.1
    have R6 := hid HC.out.2.2.2.1
    have J := hid HC.out.2.2.2.2
    replace Pa := hid (Pa.out.below J.out Pa.out.lt)
    replace Pb := hid (Pb.out.below J.out Pb.out.lt)
    replace Ra := hid ((Ra.out.below J.out).mono J.out.size)
    replace Rb := hid ((Rb.out.below J.out).mono J.out.size)
    replace K := hid (K.out.trans (J.out.mono K.out.size))
    clear J HC
    obtain ⟨pa, Ma, hDa, hD5⟩ := arg_both (s := sa) (x := xa) Ra.out R5.out
    obtain ⟨pb, Mb, hDb, hD6⟩ := arg_both (s := sb) (x := xb) Rb.out R6.out
    have Da := hid hDa
    have D5 := hid hD5
    have Db := hid hDb
    have D6 := hid hD6
    clear hDa hD5 hDb hD6
    have KB := hid (Below.refl wc.heap.size wc)
    have HKB := hid K.out.size
    have c50 := P5.out.c0
    have c51 := P5.out.c1
    have c52 := P5.out.c2
    have c60 := P6.out.c0
    have c61 := P6.out.c1
    have c62 := P6.out.c2
    go_wp2_with fail
    refine (rfloor_any (k := k) D5.out D6.out (HT.out.below K.out HT.out.lt) (HT64.out.below K.out HT64.out.lt)).mono ?_
    rintro e w3 ⟨d, erx, rfl, HEx, HD, HB⟩
    obtain ⟨sx, Ax, nx, cx, xx, rfl⟩ := HD.out.parts
    have J0 := hid ((Below.refl w3.heap.size w3).alloc (Nat.le_refl _) (.cells #[.bool sx, .slice Ax nx cx, .int .i64 xx] 24))
    have J := hid (HB.out.trans (J0.out.mono HB.out.size))
    clear c50 c51 c52 c60 c61 c62
    replace Pa := hid (Pa.out.below J.out Pa.out.lt)
    replace Pb := hid (Pb.out.below J.out Pb.out.lt)
    replace P5 := hid (P5.out.below J.out P5.out.lt)
    replace P6 := hid (P6.out.below J.out P6.out.lt)
    replace Da := hid (Da.out.below J.out)
    replace D5 := hid (D5.out.below J.out)
    replace Db := hid (Db.out.below J.out)
    replace D6 := hid (D6.out.below J.out)
    replace K := hid (K.out.trans (J.out.mono K.out.size))
    replace KB := hid (KB.out.trans (J.out.mono KB.out.size))
    have Px : Hid (Dbox (w3.alloc (.cells #[.bool sx, .slice Ax nx cx, .int .i64 xx] 24)) w3.heap.size sx (.slice Ax nx cx) xx) := heap_alloc_new _ _
    have Vx := hid (HD.out.dv.below J0.out)
    clear HD HB J0 J
    have ca0 := Pa.out.c0
    have ca1 := Pa.out.c1
    have ca2 := Pa.out.c2
    have cb0 := Pb.out.c0
    have cb1 := Pb.out.c1
    have cb2 := Pb.out.c2
    go_wp2_with fail
    refine (efloor_any (k := k) Da.out Db.out).mono ?_
    rintro e w4 ⟨d, ery, rfl, HEy, HD, HB⟩
    obtain ⟨sy, Ay, ny, cy, xy, rfl⟩ := HD.out.parts
    have J0 := hid ((Below.refl w4.heap.size w4).alloc (Nat.le_refl _) (.cells #[.bool sy, .slice Ay ny cy, .int .i64 xy] 24))
    have J := hid (HB.out.trans (J0.out.mono HB.out.size))
    clear ca0 ca1 ca2 cb0 cb1 cb2
    replace Pa := hid (Pa.out.below J.out Pa.out.lt)
    replace Pb := hid (Pb.out.below J.out Pb.out.lt)
    replace P5 := hid (P5.out.below J.out P5.out.lt)
    replace P6 := hid (P6.out.below J.out P6.out.lt)
    replace Px := hid (Px.out.below J.out Px.out.lt)
    replace Da := hid (Da.out.below J.out)
    replace D5 := hid (D5.out.below J.out)
    replace Db := hid (Db.out.below J.out)
    replace D6 := hid (D6.out.below J.out)
    replace K := hid (K.out.trans (J.out.mono K.out.size))
    replace Vx := hid (Vx.out.below J.out)
    replace KB := hid (KB.out.trans (J.out.mono KB.out.size))
    have Py : Hid (Dbox (w4.alloc (.cells #[.bool sy, .slice Ay ny cy, .int .i64 xy] 24)) w4.heap.size sy (.slice Ay ny cy) xy) := heap_alloc_new _ _
    have Vy := hid (HD.out.below J0.out)
    clear HD HB J0 J
    obtain rfl : ery = erx := Qer.uniq HEy.out HEx.out
    clear HEx HEy
    have c50 := P5.out.c0
    have c51 := P5.out.c1
    have c52 := P5.out.c2
    have c60 := P6.out.c0
    have c61 := P6.out.c1
    have c62 := P6.out.c2
    go_wp2_with fail
    refine (rceil_any (k := k) D5.out D6.out (HT.out.below K.out HT.out.lt) (HT64.out.below K.out HT64.out.lt)).mono ?_
    rintro e w5 ⟨d, erp, rfl, HEp, HD, HB⟩
    obtain ⟨sp, Ap, np, cp, xp, rfl⟩ := HD.out.parts
    have J0 := hid ((Below.refl w5.heap.size w5).alloc (Nat.le_refl _) (.cells #[.bool sp, .slice Ap np cp, .int .i64 xp] 24))
    have J := hid (HB.out.trans (J0.out.mono HB.out.size))
    clear c50 c51 c52 c60 c61 c62
    replace Pa := hid (Pa.out.below J.out Pa.out.lt)
    replace Pb := hid (Pb.out.below J.out Pb.out.lt)
    replace P5 := hid (P5.out.below J.out P5.out.lt)
    replace P6 := hid (P6.out.below J.out P6.out.lt)
    replace Px := hid (Px.out.below J.out Px.out.lt)
    replace Py := hid (Py.out.below J.out Py.out.lt)
    replace Da := hid (Da.out.below J.out)
    replace D5 := hid (D5.out.below J.out)
    replace Db := hid (Db.out.below J.out)
    replace D6 := hid (D6.out.below J.out)
    replace K := hid (K.out.trans (J.out.mono K.out.size))
    replace Vx := hid (Vx.out.below J.out)
    replace Vy := hid (Vy.out.below J.out)
    replace KB := hid (KB.out.trans (J.out.mono KB.out.size))
    have Pp : Hid (Dbox (w5.alloc (.cells #[.bool sp, .slice Ap np cp, .int .i64 xp] 24)) w5.heap.size sp (.slice Ap np cp) xp) := heap_alloc_new _ _
    have Vp := hid (HD.out.dv.below J0.out)
    clear HD HB J0 J
    have ca0 := Pa.out.c0
    have ca1 := Pa.out.c1
    have ca2 := Pa.out.c2
    have cb0 := Pb.out.c0
    have cb1 := Pb.out.c1
    have cb2 := Pb.out.c2
    go_wp2_with fail
    refine (eceil_any (k := k) Da.out Db.out).mono ?_
    rintro e w6 ⟨d, erq, rfl, HEq, HD, HB⟩
    obtain ⟨sq, Aq, nq, cq, xq, rfl⟩ := HD.out.parts
    have J0 := hid ((Below.refl w6.heap.size w6).alloc (Nat.le_refl _) (.cells #[.bool sq, .slice Aq nq cq, .int .i64 xq] 24))
    have J := hid (HB.out.trans (J0.out.mono HB.out.size))
    clear ca0 ca1 ca2 cb0 cb1 cb2
    replace Pa := hid (Pa.out.below J.out Pa.out.lt)
    replace Pb := hid (Pb.out.below J.out Pb.out.lt)
    replace P5 := hid (P5.out.below J.out P5.out.lt)
    replace P6 := hid (P6.out.below J.out P6.out.lt)
    replace Px := hid (Px.out.below J.out Px.out.lt)
    replace Py := hid (Py.out.below J.out Py.out.lt)
    replace Pp := hid (Pp.out.below J.out Pp.out.lt)
    replace Da := hid (Da.out.below J.out)
    replace D5 := hid (D5.out.below J.out)
    replace Db := hid (Db.out.below J.out)
    replace D6 := hid (D6.out.below J.out)
    replace K := hid (K.out.trans (J.out.mono K.out.size))
    replace Vx := hid (Vx.out.below J.out)
    replace Vy := hid (Vy.out.below J.out)
    replace Vp := hid (Vp.out.below J.out)
    replace KB := hid (KB.out.trans (J.out.mono KB.out.size))
    have Pq : Hid (Dbox (w6.alloc (.cells #[.bool sq, .slice Aq nq cq, .int .i64 xq] 24)) w6.heap.size sq (.slice Aq nq cq) xq) := heap_alloc_new _ _
    have Vq := hid (HD.out.below J0.out)
    clear HD HB J0 J
    obtain rfl : erq = erp := Qer.uniq HEq.out HEp.out
    clear HEp HEq
    have c50 := P5.out.c0
    have c51 := P5.out.c1
    have c52 := P5.out.c2
    have c60 := P6.out.c0
    have c61 := P6.out.c1
    have c62 := P6.out.c2
    go_wp2_with fail
    refine (rnear_any D5.out D6.out (HT.out.below K.out HT.out.lt) (HT64.out.below K.out HT64.out.lt)).mono ?_
    rintro e w7 ⟨d, ers, rfl, HEs, HD, HB⟩
    obtain ⟨ss, As, ns, cs, xs, rfl⟩ := HD.out.parts
    have J0 := hid ((Below.refl w7.heap.size w7).alloc (Nat.le_refl _) (.cells #[.bool ss, .slice As ns cs, .int .i64 xs] 24))
    have J := hid (HB.out.trans (J0.out.mono HB.out.size))
    clear c50 c51 c52 c60 c61 c62
    replace Pa := hid (Pa.out.below J.out Pa.out.lt)
    replace Pb := hid (Pb.out.below J.out Pb.out.lt)
    replace P5 := hid (P5.out.below J.out P5.out.lt)
    replace P6 := hid (P6.out.below J.out P6.out.lt)
    replace Px := hid (Px.out.below J.out Px.out.lt)
    replace Py := hid (Py.out.below J.out Py.out.lt)
    replace Pp := hid (Pp.out.below J.out Pp.out.lt)
    replace Pq := hid (Pq.out.below J.out Pq.out.lt)
    replace Da := hid (Da.out.below J.out)
    replace D5 := hid (D5.out.below J.out)
    replace Db := hid (Db.out.below J.out)
    replace D6 := hid (D6.out.below J.out)
    replace K := hid (K.out.trans (J.out.mono K.out.size))
    replace Vx := hid (Vx.out.below J.out)
    replace Vy := hid (Vy.out.below J.out)
    replace Vp := hid (Vp.out.below J.out)
    replace Vq := hid (Vq.out.below J.out)
    replace KB := hid (KB.out.trans (J.out.mono KB.out.size))
    have Ps : Hid (Dbox (w7.alloc (.cells #[.bool ss, .slice As ns cs, .int .i64 xs] 24)) w7.heap.size ss (.slice As ns cs) xs) := heap_alloc_new _ _
    have Vs := hid (HD.out.dv.below J0.out)
    clear HD HB J0 J
    have ca0 := Pa.out.c0
    have ca1 := Pa.out.c1
    have ca2 := Pa.out.c2
    have cb0 := Pb.out.c0
    have cb1 := Pb.out.c1
    have cb2 := Pb.out.c2
    go_wp2_with fail
    refine (enear_any Da.out Db.out).mono ?_
    rintro e w8 ⟨d, ert, rfl, HEt, HD, HB⟩
    obtain ⟨st, At, nt, ct, xt, rfl⟩ := HD.out.parts
    have J0 := hid ((Below.refl w8.heap.size w8).alloc (Nat.le_refl _) (.cells #[.bool st, .slice At nt ct, .int .i64 xt] 24))
    have J := hid (HB.out.trans (J0.out.mono HB.out.size))
    clear ca0 ca1 ca2 cb0 cb1 cb2
    replace Pa := hid (Pa.out.below J.out Pa.out.lt)
    replace Pb := hid (Pb.out.below J.out Pb.out.lt)
    replace P5 := hid (P5.out.below J.out P5.out.lt)
    replace P6 := hid (P6.out.below J.out P6.out.lt)
    replace Px := hid (Px.out.below J.out Px.out.lt)
    replace Py := hid (Py.out.below J.out Py.out.lt)
    replace Pp := hid (Pp.out.below J.out Pp.out.lt)
    replace Pq := hid (Pq.out.below J.out Pq.out.lt)
    replace Ps := hid (Ps.out.below J.out Ps.out.lt)
    replace Da := hid (Da.out.below J.out)
    replace D5 := hid (D5.out.below J.out)
    replace Db := hid (Db.out.below J.out)
    replace D6 := hid (D6.out.below J.out)
    replace K := hid (K.out.trans (J.out.mono K.out.size))
    replace Vx := hid (Vx.out.below J.out)
    replace Vy := hid (Vy.out.below J.out)
    replace Vp := hid (Vp.out.below J.out)
    replace Vq := hid (Vq.out.below J.out)
    replace Vs := hid (Vs.out.below J.out)
    replace KB := hid (KB.out.trans (J.out.mono KB.out.size))
    have Pt : Hid (Dbox (w8.alloc (.cells #[.bool st, .slice At nt ct, .int .i64 xt] 24)) w8.heap.size st (.slice At nt ct) xt) := heap_alloc_new _ _
    have Vt := hid (HD.out.below J0.out)
    clear HD HB J0 J
    obtain rfl : ert = ers := Qer.uniq HEt.out HEs.out
    clear HEs HEt
    have cx0 := Px.out.c0
    have cx1 := Px.out.c1
    have cx2 := Px.out.c2
    have cy0 := Py.out.c0
    have cy1 := Py.out.c1
    have cy2 := Py.out.c2
    go_wp2_with fail
    refine (esame_dv Vx.out Vy.out rfl).mono ?_
    rintro e w9 ⟨rfl, J⟩
    clear cx0 cx1 cx2 cy0 cy1 cy2
    replace Pa := hid (Pa.out.below J.out Pa.out.lt)
    replace Pb := hid (Pb.out.below J.out Pb.out.lt)
    replace P5 := hid (P5.out.below J.out P5.out.lt)
    replace P6 := hid (P6.out.below J.out P6.out.lt)
    replace Px := hid (Px.out.below J.out Px.out.lt)
    replace Py := hid (Py.out.below J.out Py.out.lt)
    replace Pp := hid (Pp.out.below J.out Pp.out.lt)
    replace Pq := hid (Pq.out.below J.out Pq.out.lt)
    replace Ps := hid (Ps.out.below J.out Ps.out.lt)
    replace Pt := hid (Pt.out.below J.out Pt.out.lt)
    replace Da := hid (Da.out.below J.out)
    replace D5 := hid (D5.out.below J.out)
    replace Db := hid (Db.out.below J.out)
    replace D6 := hid (D6.out.below J.out)
    replace K := hid (K.out.trans (J.out.mono K.out.size))
    replace Vx := hid (Vx.out.below J.out)
    replace Vy := hid (Vy.out.below J.out)
    replace Vp := hid (Vp.out.below J.out)
    replace Vq := hid (Vq.out.below J.out)
    replace Vs := hid (Vs.out.below J.out)
    replace Vt := hid (Vt.out.below J.out)
    replace KB := hid (KB.out.trans (J.out.mono KB.out.size))
    clear J
    have cp0 := Pp.out.c0
    have cp1 := Pp.out.c1
    have cp2 := Pp.out.c2
    have cq0 := Pq.out.c0
    have cq1 := Pq.out.c1
    have cq2 := Pq.out.c2
    go_wp2_with fail
    refine (esame_dv Vp.out Vq.out rfl).mono ?_
    rintro e w10 ⟨rfl, J⟩
    clear cp0 cp1 cp2 cq0 cq1 cq2
    replace Pa := hid (Pa.out.below J.out Pa.out.lt)
    replace Pb := hid (Pb.out.below J.out Pb.out.lt)
    replace P5 := hid (P5.out.below J.out P5.out.lt)
    replace P6 := hid (P6.out.below J.out P6.out.lt)
    replace Px := hid (Px.out.below J.out Px.out.lt)
    replace Py := hid (Py.out.below J.out Py.out.lt)
    replace Pp := hid (Pp.out.below J.out Pp.out.lt)
    replace Pq := hid (Pq.out.below J.out Pq.out.lt)
    replace Ps := hid (Ps.out.below J.out Ps.out.lt)
    replace Pt := hid (Pt.out.below J.out Pt.out.lt)
    replace Da := hid (Da.out.below J.out)
    replace D5 := hid (D5.out.below J.out)
    replace Db := hid (Db.out.below J.out)
    replace D6 := hid (D6.out.below J.out)
    replace K := hid (K.out.trans (J.out.mono K.out.size))
    replace Vx := hid (Vx.out.below J.out)
    replace Vy := hid (Vy.out.below J.out)
    replace Vp := hid (Vp.out.below J.out)
    replace Vq := hid (Vq.out.below J.out)
    replace Vs := hid (Vs.out.below J.out)
    replace Vt := hid (Vt.out.below J.out)
    replace KB := hid (KB.out.trans (J.out.mono KB.out.size))
    clear J
    have cs0 := Ps.out.c0
    have cs1 := Ps.out.c1
    have cs2 := Ps.out.c2
    have ct0 := Pt.out.c0
    have ct1 := Pt.out.c1
    have ct2 := Pt.out.c2
    go_wp2_with fail
    refine (esame_dv Vs.out Vt.out rfl).mono ?_
    rintro e w11 ⟨rfl, J⟩
    clear cs0 cs1 cs2 ct0 ct1 ct2
    replace Pa := hid (Pa.out.below J.out Pa.out.lt)
    replace Pb := hid (Pb.out.below J.out Pb.out.lt)
    replace P5 := hid (P5.out.below J.out P5.out.lt)
    replace P6 := hid (P6.out.below J.out P6.out.lt)
    replace Px := hid (Px.out.below J.out Px.out.lt)
    replace Py := hid (Py.out.below J.out Py.out.lt)
    replace Pp := hid (Pp.out.below J.out Pp.out.lt)
    replace Pq := hid (Pq.out.below J.out Pq.out.lt)
    replace Ps := hid (Ps.out.below J.out Ps.out.lt)
    replace Pt := hid (Pt.out.below J.out Pt.out.lt)
    replace Da := hid (Da.out.below J.out)
    replace D5 := hid (D5.out.below J.out)
    replace Db := hid (Db.out.below J.out)
    replace D6 := hid (D6.out.below J.out)
    replace K := hid (K.out.trans (J.out.mono K.out.size))
    replace Vx := hid (Vx.out.below J.out)
    replace Vy := hid (Vy.out.below J.out)
    replace Vp := hid (Vp.out.below J.out)
    replace Vq := hid (Vq.out.below J.out)
    replace Vs := hid (Vs.out.below J.out)
    replace Vt := hid (Vt.out.below J.out)
    replace KB := hid (KB.out.trans (J.out.mono KB.out.size))
    clear J
    clear Vx Vy Vp Vq Vs Vt
    clear Da Db D5 D6
    have c50 := P5.out.c0
    have c51 := P5.out.c1
    have c52 := P5.out.c2
    have ca0 := Pa.out.c0
    have ca1 := Pa.out.c1
    have ca2 := Pa.out.c2
    go_wp2_with fail
    refine (esame_raw (P := True) ((R5.out.below KB.out).mono KB.out.size) ((Ra.out.below KB.out).mono KB.out.size) (hid ⟨fun _ => ⟨rfl, rfl, rfl, fun _ => rfl⟩, fun _ => trivial⟩)).mono ?_
    rintro e w12 ⟨r, rfl, Hr, J⟩
    obtain rfl : r = true := Hr.out.2 trivial
    clear c50 c51 c52 ca0 ca1 ca2
    replace Pa := hid (Pa.out.below J.out Pa.out.lt)
    replace Pb := hid (Pb.out.below J.out Pb.out.lt)
    replace P5 := hid (P5.out.below J.out P5.out.lt)
    replace P6 := hid (P6.out.below J.out P6.out.lt)
    replace Px := hid (Px.out.below J.out Px.out.lt)
    replace Py := hid (Py.out.below J.out Py.out.lt)
    replace Pp := hid (Pp.out.below J.out Pp.out.lt)
    replace Pq := hid (Pq.out.below J.out Pq.out.lt)
    replace Ps := hid (Ps.out.below J.out Ps.out.lt)
    replace Pt := hid (Pt.out.below J.out Pt.out.lt)
    replace K := hid (K.out.trans (J.out.mono K.out.size))
    replace KB := hid (KB.out.trans (J.out.mono KB.out.size))
    clear J Hr
    have c60 := P6.out.c0
    have c61 := P6.out.c1
    have c62 := P6.out.c2
    have cb0 := Pb.out.c0
    have cb1 := Pb.out.c1
    have cb2 := Pb.out.c2
    go_wp2_with fail
    refine (esame_raw (P := True) ((R6.out.below KB.out).mono KB.out.size) ((Rb.out.below KB.out).mono KB.out.size) (hid ⟨fun _ => ⟨rfl, rfl, rfl, fun _ => rfl⟩, fun _ => trivial⟩)).mono ?_
    rintro e w13 ⟨r, rfl, Hr, J⟩
    obtain rfl : r = true := Hr.out.2 trivial
    clear c60 c61 c62 cb0 cb1 cb2
    replace Pa := hid (Pa.out.below J.out Pa.out.lt)
    replace Pb := hid (Pb.out.below J.out Pb.out.lt)
    replace P5 := hid (P5.out.below J.out P5.out.lt)
    replace P6 := hid (P6.out.below J.out P6.out.lt)
    replace Px := hid (Px.out.below J.out Px.out.lt)
    replace Py := hid (Py.out.below J.out Py.out.lt)
    replace Pp := hid (Pp.out.below J.out Pp.out.lt)
    replace Pq := hid (Pq.out.below J.out Pq.out.lt)
    replace Ps := hid (Ps.out.below J.out Ps.out.lt)
    replace Pt := hid (Pt.out.below J.out Pt.out.lt)
    replace K := hid (K.out.trans (J.out.mono K.out.size))
    replace KB := hid (KB.out.trans (J.out.mono KB.out.size))
    clear J Hr
    go_wp2
    exact ret_bool rfl rfl rfl ⟨rfl, K.out⟩

end Go.Proofs.YtnhnddhigbbleaaDoor
