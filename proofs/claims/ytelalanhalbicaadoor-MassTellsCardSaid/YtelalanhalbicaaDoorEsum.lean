/- The document's Add, Sub, Half. -/
import Derived.Test.YtelalanhalbicaaDoorEplus
import Derived.Test.YtelalanhalbicaaDoorEform
namespace Go.Proofs.YtelalanhalbicaaDoor
open Go.RowKit

theorem Sg.alloc {w : World} {L : Nat} {M : Int} {v : Value} (h : Sg w L M v) (o : Obj) : Sg (w.alloc o) L M v := h.below ((Below.refl _ _).alloc (Nat.le_refl _) o)
theorem Sg.below2 {w w' : World} {L : Nat} {M : Int} {v : Value} {o : Obj} (h : Sg w L M v) (hb : Below (w.alloc o).heap.size (w.alloc o) w') : Sg w' L M v := (h.alloc o).below hb
theorem box_of {X w' : World} (hb : Below (X.alloc (.cells #[.bool false, .slice none 0 0, .int .i64 0] 24)).heap.size (X.alloc (.cells #[.bool false, .slice none 0 0, .int .i64 0] 24)) w') : ∃ g, g = X.heap.size ∧ Dbox w' g false (.slice none 0 0) 0 :=
  ⟨_, rfl, Dbox.below (heap_alloc_new X _) hb (by simp)⟩
theorem Dv.store {w : World} {M : Int} {d : Value} {g : Nat} {s t : Bool} {D : Option Addr} {m k : Nat} {x y : Int} {u : Value} (h : Dv w M d) (hg : Dbox w g s (.slice D m k) x) : Dv (put3 w g t u y) M d := by
  obtain ⟨s', v, X, V, hd, hn, hc, hx, hM⟩ := h
  obtain ⟨A, n, c, f, rfl, hr, hf, hV⟩ := hn
  exact ⟨s', _, X, V, hd, ⟨A, n, c, f, rfl, hr.stay hg, hf, hV⟩, hc, hx, hM⟩
theorem Dv.alloc {w : World} {M : Int} {d : Value} (h : Dv w M d) (o : Obj) : Dv (w.alloc o) M d := h.below ((Below.refl _ _).alloc (Nat.le_refl _) o)


set_option maxHeartbeats 3200000 in
theorem eadd_bad {w : World} {A D : Option Addr} {n c k d : Nat} {f h : Nat → Nat} {s t : Bool} {x y : Int} (ha : Rd w w.heap.size A n c f) (hb : Rd w w.heap.size D k d h) (hbad : ¬ (DMay s n f x ∧ DMay t k h y)) :
    Calls Tryd.prog 29 #[.agg #[.bool s, .slice A n c, .int .i64 x], .agg #[.bool t, .slice D k d, .int .i64 y]] w (ERes w (· = 8) 0) := by
  have B0 := hid ((((Below.refl w.heap.size w).alloc (Nat.le_refl _) (.cells #[.bool s, .slice A n c, .int .i64 x] 24)).alloc (by simp) (.cells #[.bool t, .slice D k d, .int .i64 y] 24)).alloc (by simp <;> omega) (.cells #[.bool false, .slice none 0 0, .int .i64 0] 24))
  have P0 : Hid (Dbox _ w.heap.size s (.slice A n c) x) := heap3_0 w (.cells #[.bool s, .slice A n c, .int .i64 x] 24) (.cells #[.bool t, .slice D k d, .int .i64 y] 24) (.cells #[.bool false, .slice none 0 0, .int .i64 0] 24)
  have P1 : Hid (Dbox _ (w.heap.size + 1) t (.slice D k d) y) := heap3_1 w (.cells #[.bool s, .slice A n c, .int .i64 x] 24) (.cells #[.bool t, .slice D k d, .int .i64 y] 24) (.cells #[.bool false, .slice none 0 0, .int .i64 0] 24)
  have P2 : Hid (Dbox _ (w.heap.size + 2) false (.slice none 0 0) 0) := heap3_2 w (.cells #[.bool s, .slice A n c, .int .i64 x] 24) (.cells #[.bool t, .slice D k d, .int .i64 y] 24) (.cells #[.bool false, .slice none 0 0, .int .i64 0] 24)
  obtain ⟨W, hW⟩ : ∃ W, W = ((w.alloc (.cells #[.bool s, .slice A n c, .int .i64 x] 24)).alloc (.cells #[.bool t, .slice D k d, .int .i64 y] 24)).alloc (.cells #[.bool false, .slice none 0 0, .int .i64 0] 24) := ⟨_, rfl⟩
  have HW := hid hW
  rw [← hW] at B0 P0 P1 P2
  clear hW
  have CA := emay_any ((ha.below B0.out).mono B0.out.size) s x
  have a0 := P0.out.c0
  have a1 := P0.out.c1
  have a2 := P0.out.c2
  have b0 := P1.out.c0
  have b1 := P1.out.c1
  have b2 := P1.out.c2
  by_cases hm : DMay s n f x
  · have hm2 : ¬ DMay t k h y := fun h2 => hbad ⟨hm, h2⟩
    rw [bool_of_dec hm] at CA
    have CA := hid CA
    have HBB := hid ((hb.below B0.out).mono B0.out.size)
    have Hm2 := hid hm2
    clear hm hm2 hbad ha hb
    go_enter Tryd.func29, Tryd.ntmps29
    go_upto_region 1 with fail
    rw [← HW.out]
    go_wp2_with fail
    refine CA.out.mono ?_
    rintro e w1 ⟨rfl, J⟩
    have CB := emay_any ((HBB.out.below J.out).mono J.out.size) t y
    rw [bool_of_not Hm2.out] at CB
    have CB := hid CB
    have P1 := hid (P1.out.below J.out P1.out.lt)
    have P2 := hid (P2.out.below J.out P2.out.lt)
    have B0 := hid (B0.out.trans (J.out.mono B0.out.size))
    clear J a0 a1 a2 b0 b1 b2
    have b0 := P1.out.c0
    have b1 := P1.out.c1
    have b2 := P1.out.c2
    go_wp2_with fail
    refine CB.out.mono ?_
    rintro e w2 ⟨rfl, J⟩
    have P2 := hid (P2.out.below J.out P2.out.lt)
    have B0 := hid (B0.out.trans (J.out.mono B0.out.size))
    clear J b0 b1 b2
    have q0 := P2.out.frozen 0
    have q1 := P2.out.frozen 1
    have q2 := P2.out.frozen 2
    have r0 := P2.out.c0
    have r1 := P2.out.c1
    have r2 := P2.out.c2
    go_wp2
    refine ret_dyad rfl rfl rfl rfl (P2.out.store (t := false) (u := .slice none 0 0) (y := 0)) ?_
    exact ⟨_, 8, rfl, rfl, by rw [resD_bad (by decide)]; exact Dv.zero _, below_put3 B0.out (by omega)⟩
  · rw [bool_of_not hm] at CA
    have CA := hid CA
    clear hm hbad ha hb
    go_enter Tryd.func29, Tryd.ntmps29
    go_upto_region 1 with fail
    rw [← HW.out]
    go_wp2_with fail
    refine CA.out.mono ?_
    rintro e w1 ⟨rfl, J⟩
    have P2 := hid (P2.out.below J.out P2.out.lt)
    have B0 := hid (B0.out.trans (J.out.mono B0.out.size))
    clear J a0 a1 a2 b0 b1 b2
    have q0 := P2.out.frozen 0
    have q1 := P2.out.frozen 1
    have q2 := P2.out.frozen 2
    have r0 := P2.out.c0
    have r1 := P2.out.c1
    have r2 := P2.out.c2
    go_wp2
    refine ret_dyad rfl rfl rfl rfl (P2.out.store (t := false) (u := .slice none 0 0) (y := 0)) ?_
    exact ⟨_, 8, rfl, rfl, by rw [resD_bad (by decide)]; exact Dv.zero _, below_put3 B0.out (by omega)⟩


set_option maxHeartbeats 12800000 in
theorem eadd_ok {w : World} {A D : Option Addr} {n c k d : Nat} {f h : Nat → Nat} {s t : Bool} {X Y : Nat} (ha : Rd w w.heap.size A n c f) (hb : Rd w w.heap.size D k d h) (ma : DMay s n f (X : Int)) (mb : DMay t k h (Y : Int)) :
    Calls Tryd.prog 29 #[.agg #[.bool s, .slice A n c, .int .i64 (X : Int)], .agg #[.bool t, .slice D k d, .int .i64 (Y : Int)]] w (ERes w (Derr (dv s (vl f n) X + dv t (vl h k) Y)) (dv s (vl f n) X + dv t (vl h k) Y)) := by
  have B0 := hid ((((Below.refl w.heap.size w).alloc (Nat.le_refl _) (.cells #[.bool s, .slice A n c, .int .i64 (X : Int)] 24)).alloc (by simp) (.cells #[.bool t, .slice D k d, .int .i64 (Y : Int)] 24)).alloc (by simp <;> omega) (.cells #[.bool false, .slice none 0 0, .int .i64 0] 24))
  have P0 : Hid (Dbox _ w.heap.size s (.slice A n c) (X : Int)) := heap3_0 w (.cells #[.bool s, .slice A n c, .int .i64 (X : Int)] 24) (.cells #[.bool t, .slice D k d, .int .i64 (Y : Int)] 24) (.cells #[.bool false, .slice none 0 0, .int .i64 0] 24)
  have P1 : Hid (Dbox _ (w.heap.size + 1) t (.slice D k d) (Y : Int)) := heap3_1 w (.cells #[.bool s, .slice A n c, .int .i64 (X : Int)] 24) (.cells #[.bool t, .slice D k d, .int .i64 (Y : Int)] 24) (.cells #[.bool false, .slice none 0 0, .int .i64 0] 24)
  have P2 : Hid (Dbox _ (w.heap.size + 2) false (.slice none 0 0) 0) := heap3_2 w (.cells #[.bool s, .slice A n c, .int .i64 (X : Int)] 24) (.cells #[.bool t, .slice D k d, .int .i64 (Y : Int)] 24) (.cells #[.bool false, .slice none 0 0, .int .i64 0] 24)
  obtain ⟨W0, hW⟩ : ∃ W0, W0 = ((w.alloc (.cells #[.bool s, .slice A n c, .int .i64 (X : Int)] 24)).alloc (.cells #[.bool t, .slice D k d, .int .i64 (Y : Int)] 24)).alloc (.cells #[.bool false, .slice none 0 0, .int .i64 0] 24) := ⟨_, rfl⟩
  have HW := hid hW
  rw [← hW] at B0 P0 P1 P2
  clear hW
  have CA := emay_any ((ha.below B0.out).mono B0.out.size) s (X : Int)
  rw [bool_of_dec ma] at CA
  have CA := hid CA
  have HA0 := hid ((ha.below B0.out).mono B0.out.size)
  have HB0 := hid ((hb.below B0.out).mono B0.out.size)
  have Hma := hid ma
  have Hmb := hid mb
  obtain ⟨E, hE⟩ : ∃ E : Nat, E = max X Y := ⟨_, rfl⟩
  have hmax : max (X : Int) (Y : Int) = (E : Int) := by omega
  obtain ⟨j1, hj1⟩ : ∃ j, E = X + j := ⟨E - X, by omega⟩
  obtain ⟨j2, hj2⟩ : ∃ j, E = Y + j := ⟨E - Y, by omega⟩
  have hX4 : X ≤ 1024 := by have := ma.2.2.1; omega
  have hY4 : Y ≤ 1024 := by have := mb.2.2.1; omega
  have hE4 : E ≤ 1024 := by omega
  have hj14 : j1 ≤ 1280 := by omega
  have hj24 : j2 ≤ 1280 := by omega
  obtain ⟨MM, hMM⟩ : ∃ M : Int, M = dv s (vl f n) X + dv t (vl h k) Y := ⟨_, rfl⟩
  have hsc : (num s (vl f n * tw j1) + num t (vl h k * tw j2)) * (tp (4000 - E) : Int) = MM := by
    rw [hMM, sum_scaled (by omega : X ≤ E) (by omega : Y ≤ E) (by omega : E ≤ 4000), show E - X = j1 by omega, show E - Y = j2 by omega]
    rfl
  rw [← hMM]
  have Hsc := hid hsc
  have Hj1 := hid hj1
  have Hj2 := hid hj2
  clear hE hj1 hj2 hMM hsc
  have a0 := P0.out.c0
  have a1 := P0.out.c1
  have a2 := P0.out.c2
  clear ma mb ha hb
  go_enter Tryd.func29, Tryd.ntmps29
  go_upto_region 1 with fail
  rw [← HW.out]
  go_wp2_with fail
  refine CA.out.mono ?_
  rintro e w1 ⟨rfl, J⟩
  have CB := emay_any ((HB0.out.below J.out).mono J.out.size) t (Y : Int)
  rw [bool_of_dec Hmb.out] at CB
  have CB := hid CB
  have HA0 := hid ((HA0.out.below J.out).mono J.out.size)
  have HB0 := hid ((HB0.out.below J.out).mono J.out.size)
  have P0 := hid (P0.out.below J.out P0.out.lt)
  have P1 := hid (P1.out.below J.out P1.out.lt)
  have P2 := hid (P2.out.below J.out P2.out.lt)
  have B0 := hid (B0.out.trans (J.out.mono B0.out.size))
  clear J a0 a1 a2 CA
  have b0 := P1.out.c0
  have b1 := P1.out.c1
  have b2 := P1.out.c2
  go_wp2_with fail
  refine CB.out.mono ?_
  clear HW
  rintro e W ⟨rfl, J⟩
  have HA0 := hid ((HA0.out.below J.out).mono J.out.size)
  have HB0 := hid ((HB0.out.below J.out).mono J.out.size)
  have P0 := hid (P0.out.below J.out P0.out.lt)
  have P1 := hid (P1.out.below J.out P1.out.lt)
  have P2 := hid (P2.out.below J.out P2.out.lt)
  have B0 := hid (B0.out.trans (J.out.mono B0.out.size))
  clear J b0 b1 b2 CB
  have a0 := P0.out.c0
  have a1 := P0.out.c1
  have a2 := P0.out.c2
  have b0 := P1.out.c0
  have b1 := P1.out.c1
  have b2 := P1.out.c2
  go_upto_region 4 with fail
  clear a0 a1 a2 b0 b1 b2
  have CF : Hid (∀ w', Below W.heap.size W w' → w'.cell? ⟨w.heap.size, 0, none⟩ = some (.bool s) ∧ w'.cell? ⟨w.heap.size, 1, none⟩ = some (.slice A n c) ∧ w'.cell? ⟨w.heap.size, 2, none⟩ = some (.int .i64 (X : Int)) ∧ w'.cell? ⟨w.heap.size + 1, 0, none⟩ = some (.bool t) ∧ w'.cell? ⟨w.heap.size + 1, 1, none⟩ = some (.slice D k d) ∧ w'.cell? ⟨w.heap.size + 1, 2, none⟩ = some (.int .i64 (Y : Int))) :=
    fun w' hb => ⟨(P0.out.below hb P0.out.lt).c0, (P0.out.below hb P0.out.lt).c1, (P0.out.below hb P0.out.lt).c2, (P1.out.below hb P1.out.lt).c0, (P1.out.below hb P1.out.lt).c1, (P1.out.below hb P1.out.lt).c2⟩
  have CIa := hid (fun (w' : World) (hb : Below W.heap.size W w') => ein_any ((HA0.out.below hb).mono hb.size) Hma.out.1 Hj1.out hj14 s)
  have CIb := hid (fun (w' : World) (hb : Below W.heap.size W w') => ein_any ((HB0.out.below hb).mono hb.size) Hmb.out.1 Hj2.out hj24 t)
  clear P0 P1
  have HBz := hid ((Below.refl W.heap.size W).drew)
  go_region_held3 (fun w' => w'.cell? ⟨w.heap.size, 0, none⟩ = some (.bool s) ∧ w'.cell? ⟨w.heap.size, 1, none⟩ = some (.slice A n c) ∧ w'.cell? ⟨w.heap.size, 2, none⟩ = some (.int .i64 (X : Int)) ∧ w'.cell? ⟨w.heap.size + 1, 0, none⟩ = some (.bool t) ∧ w'.cell? ⟨w.heap.size + 1, 1, none⟩ = some (.slice D k d) ∧ w'.cell? ⟨w.heap.size + 1, 2, none⟩ = some (.int .i64 (Y : Int)))
    (first | exact CF.out _ HBz.out | exact CF.out _ (HBz.out.alloc HBz.out.size _) | exact CF.out _ (below_put3 HBz.out Hgl.out))
    (first
    | (go_at_call_of 49 (Value.agg #[Value.bool s, Value.slice A n c, Value.int IntKind.i64 (X : Int)])
       first
         | refine (CIa.out _ HBz.out).mono ?_
         | refine (CIa.out _ (HBz.out.alloc HBz.out.size _)).mono ?_
       rintro e wx ⟨va, rfl, SA, Ba⟩
       first
         | (obtain ⟨gx, hgx, Px0⟩ := box_of Ba.out
            have Px := hid Px0
            have Hgl := hid (show W.heap.size ≤ gx by rw [hgx]; exact HBz.out.size)
            first
              | rw [← hgx]
              | (rw [show W.drew.heap.size = W.heap.size from rfl] at hgx
                 rw [← hgx])
            clear hgx Px0)
         | (have Px := hid (Px.out.below Ba.out Px.out.lt))
         | skip
       have HBz := hid (by first | exact HBz.out.trans (Ba.out.mono HBz.out.size) | exact (HBz.out.alloc HBz.out.size _).trans (Ba.out.mono (HBz.out.alloc HBz.out.size _).size))
       try (replace SB := hid (by first | exact SB.out.below Ba.out | exact SB.out.below2 Ba.out)))
    | (go_at_call_of 49 (Value.agg #[Value.bool t, Value.slice D k d, Value.int IntKind.i64 (Y : Int)])
       first
         | refine (CIb.out _ HBz.out).mono ?_
         | refine (CIb.out _ (HBz.out.alloc HBz.out.size _)).mono ?_
       rintro e wx ⟨vb, rfl, SB, Ba⟩
       first
         | (obtain ⟨gx, hgx, Px0⟩ := box_of Ba.out
            have Px := hid Px0
            have Hgl := hid (show W.heap.size ≤ gx by rw [hgx]; exact HBz.out.size)
            first
              | rw [← hgx]
              | (rw [show W.drew.heap.size = W.heap.size from rfl] at hgx
                 rw [← hgx])
            clear hgx Px0)
         | (have Px := hid (Px.out.below Ba.out Px.out.lt))
         | skip
       have HBz := hid (by first | exact HBz.out.trans (Ba.out.mono HBz.out.size) | exact (HBz.out.alloc HBz.out.size _).trans (Ba.out.mono (HBz.out.alloc HBz.out.size _).size))
       try (replace SA := hid (by first | exact SA.out.below Ba.out | exact SA.out.below2 Ba.out)))
    | (go_at_call 48
       first
         | refine (eplus_any SA.out SB.out (by omega)).mono ?_
         | refine (eplus_any (SA.out.alloc _) (SB.out.alloc _) (by omega)).mono ?_
       rintro e wx ⟨vp, rfl, SP, Ba⟩
       first
         | (obtain ⟨gx, hgx, Px0⟩ := box_of Ba.out
            have Px := hid Px0
            have Hgl := hid (show W.heap.size ≤ gx by rw [hgx]; exact HBz.out.size)
            first
              | rw [← hgx]
              | (rw [show W.drew.heap.size = W.heap.size from rfl] at hgx
                 rw [← hgx])
            clear hgx Px0)
         | (have Px := hid (Px.out.below Ba.out Px.out.lt))
         | skip
       have HBz := hid (by first | exact HBz.out.trans (Ba.out.mono HBz.out.size) | exact (HBz.out.alloc HBz.out.size _).trans (Ba.out.mono (HBz.out.alloc HBz.out.size _).size)))
    | (go_at_call 47
       first
         | refine (eform_any (K := E) SP.out (by omega) (by omega)).mono ?_
         | refine (eform_any (K := E) (SP.out.alloc _) (by omega) (by omega)).mono ?_
       rintro e wx ⟨dd, er, rfl, HE, HD, Ba⟩
       first
         | (obtain ⟨gx, hgx, Px0⟩ := box_of Ba.out
            have Px := hid Px0
            have Hgl := hid (show W.heap.size ≤ gx by rw [hgx]; exact HBz.out.size)
            first
              | rw [← hgx]
              | (rw [show W.drew.heap.size = W.heap.size from rfl] at hgx
                 rw [← hgx])
            clear hgx Px0)
         | (have Px := hid (Px.out.below Ba.out Px.out.lt))
         | skip
       have HBz := hid (by first | exact HBz.out.trans (Ba.out.mono HBz.out.size) | exact (HBz.out.alloc HBz.out.size _).trans (Ba.out.mono (HBz.out.alloc HBz.out.size _).size))
       rw [Hsc.out] at HE HD
       obtain ⟨sd, Ad, nd, cd, xd, rfl⟩ := HD.out.parts
       first
         | (have z0 := Px.out.c0
            have z1 := Px.out.c1
            have z2 := Px.out.c2
            have y0 := Px.out.frozen 0
            have y1 := Px.out.frozen 1
            have y2 := Px.out.frozen 2)
         | skip))
  all_goals
    first
      | (clear z0 z1 z2 y0 y1 y2
         obtain ⟨WW, hWW⟩ : ∃ X, X = put3 wx gx sd (.slice Ad nd cd) xd := ⟨_, rfl⟩
         have PX : Hid (Dbox WW gx sd (.slice Ad nd cd) xd) := by rw [hWW]; exact Px.out.store
         have DD : Hid (Dv WW (resD er (MM)) (.agg #[.bool sd, .slice Ad nd cd, .int .i64 xd])) := by rw [hWW]; exact HD.out.store Px.out
         have BW : Hid (Below W.heap.size W WW) := by rw [hWW]; exact below_put3 HBz.out Hgl.out
         unfold put3 at hWW
         rw [← hWW])
      | (obtain ⟨WW, hWW⟩ : ∃ X, X = wx.alloc (.cells #[.bool sd, .slice Ad nd cd, .int .i64 xd] 24) := ⟨_, rfl⟩
         have PX : Hid (Dbox WW wx.heap.size sd (.slice Ad nd cd) xd) := by rw [hWW]; exact heap_alloc_new _ _
         have DD : Hid (Dv WW (resD er (MM)) (.agg #[.bool sd, .slice Ad nd cd, .int .i64 xd])) := by rw [hWW]; exact HD.out.alloc _
         have BW : Hid (Below W.heap.size W WW) := by rw [hWW]; exact HBz.out.alloc HBz.out.size _
         rw [← hWW])
    clear hWW
    have p0 := PX.out.c0
    have p1 := PX.out.c1
    have p2 := PX.out.c2
    have P2 := hid (P2.out.below BW.out P2.out.lt)
    have q0 := P2.out.frozen 0
    have q1 := P2.out.frozen 1
    have q2 := P2.out.frozen 2
    have r0 := P2.out.c0
    have r1 := P2.out.c1
    have r2 := P2.out.c2
    go_wp2
    refine ret_dyad rfl rfl rfl rfl (P2.out.store (t := sd) (u := .slice Ad nd cd) (y := xd)) ?_
    exact ⟨_, er, rfl, HE, DD.out.store P2.out, below_put3 (B0.out.trans (BW.out.mono B0.out.size)) (by omega)⟩

set_option maxHeartbeats 3200000 in
theorem ehalf_bad {w : World} {A : Option Addr} {n c : Nat} {f : Nat → Nat} {s : Bool} {x : Int} (ha : Rd w w.heap.size A n c f) (hbad : ¬ DMay s n f x) :
    Calls Tryd.prog 33 #[.agg #[.bool s, .slice A n c, .int .i64 x]] w (ERes w (· = 8) 0) := by
  have B0 := hid (((Below.refl w.heap.size w).alloc (Nat.le_refl _) (.cells #[.bool s, .slice A n c, .int .i64 x] 24)).alloc (by simp) (.cells #[.bool false, .slice none 0 0, .int .i64 0] 24))
  have P1 : Hid (Dbox _ (w.heap.size + 1) false (.slice none 0 0) 0) := heap_alloc2_new w (.cells #[.bool s, .slice A n c, .int .i64 x] 24) (.cells #[.bool false, .slice none 0 0, .int .i64 0] 24)
  have P0 : Hid (Dbox _ w.heap.size s (.slice A n c) x) := (Below.heap_alloc _ (.cells #[.bool false, .slice none 0 0, .int .i64 0] 24) _ (by simp)).trans (heap_alloc_new w (.cells #[.bool s, .slice A n c, .int .i64 x] 24))
  obtain ⟨W0, hW⟩ : ∃ W0, W0 = (w.alloc (.cells #[.bool s, .slice A n c, .int .i64 x] 24)).alloc (.cells #[.bool false, .slice none 0 0, .int .i64 0] 24) := ⟨_, rfl⟩
  have HW := hid hW
  rw [← hW] at B0 P0 P1
  clear hW
  have CA := emay_any ((ha.below B0.out).mono B0.out.size) s x
  rw [bool_of_not hbad] at CA
  have CA := hid CA
  clear ha hbad
  have a0 := P0.out.c0
  have a1 := P0.out.c1
  have a2 := P0.out.c2
  go_enter Tryd.func33, Tryd.ntmps33
  go_upto_region 1 with fail
  rw [← HW.out]
  go_wp2_with fail
  refine CA.out.mono ?_
  clear HW
  rintro e W ⟨rfl, J⟩
  have P0 := hid (P0.out.below J.out P0.out.lt)
  have P1 := hid (P1.out.below J.out P1.out.lt)
  have B0 := hid (B0.out.trans (J.out.mono B0.out.size))
  clear J a0 a1 a2 CA
  have q0 := P1.out.frozen 0
  have q1 := P1.out.frozen 1
  have q2 := P1.out.frozen 2
  have r0 := P1.out.c0
  have r1 := P1.out.c1
  have r2 := P1.out.c2
  go_wp2
  refine ret_dyad rfl rfl rfl rfl (P1.out.store (t := false) (u := .slice none 0 0) (y := 0)) ?_
  exact ⟨_, 8, rfl, rfl, by rw [resD_bad (by decide)]; exact Dv.zero _, below_put3 B0.out (by omega)⟩

set_option maxHeartbeats 12800000 in
theorem ehalf_ok {w : World} {A : Option Addr} {n c : Nat} {f : Nat → Nat} {s : Bool} {X : Nat} {H : Int} (ha : Rd w w.heap.size A n c f) (ma : DMay s n f (X : Int)) (hH : H = num s (vl f n * tp (4000 - (X + 1)))) :
    Calls Tryd.prog 33 #[.agg #[.bool s, .slice A n c, .int .i64 (X : Int)]] w (ERes w (Derr H) H) := by
  have B0 := hid (((Below.refl w.heap.size w).alloc (Nat.le_refl _) (.cells #[.bool s, .slice A n c, .int .i64 (X : Int)] 24)).alloc (by simp) (.cells #[.bool false, .slice none 0 0, .int .i64 0] 24))
  have P1 : Hid (Dbox _ (w.heap.size + 1) false (.slice none 0 0) 0) := heap_alloc2_new w (.cells #[.bool s, .slice A n c, .int .i64 (X : Int)] 24) (.cells #[.bool false, .slice none 0 0, .int .i64 0] 24)
  have P0 : Hid (Dbox _ w.heap.size s (.slice A n c) (X : Int)) := (Below.heap_alloc _ (.cells #[.bool false, .slice none 0 0, .int .i64 0] 24) _ (by simp)).trans (heap_alloc_new w (.cells #[.bool s, .slice A n c, .int .i64 (X : Int)] 24))
  obtain ⟨W0, hW⟩ : ∃ W0, W0 = (w.alloc (.cells #[.bool s, .slice A n c, .int .i64 (X : Int)] 24)).alloc (.cells #[.bool false, .slice none 0 0, .int .i64 0] 24) := ⟨_, rfl⟩
  have HW := hid hW
  rw [← hW] at B0 P0 P1
  clear hW
  have CA := emay_any ((ha.below B0.out).mono B0.out.size) s (X : Int)
  rw [bool_of_dec ma] at CA
  have CA := hid CA
  have HA0 := hid ((ha.below B0.out).mono B0.out.size)
  have Hma := hid ma
  have hX4 : X ≤ 1024 := by have := ma.2.2.1; omega
  have hadd : IntKind.i64.wrap ((X : Int) + 1) = ((X + 1 : Nat) : Int) := by
    rw [show ((X + 1 : Nat) : Int) = (X : Int) + 1 by omega]
    exact IntWalk.i64_in _ (by omega)
  have hsc : num s (vl f n * tw 0) * (tp (4000 - (X + 1)) : Int) = H := by
    rw [hH, tw_zero, Nat.mul_one, num_mul]
  have Hsc := hid hsc
  have Hadd := hid hadd
  clear ma ha hsc hH hadd
  have a0 := P0.out.c0
  have a1 := P0.out.c1
  have a2 := P0.out.c2
  go_enter Tryd.func33, Tryd.ntmps33
  go_upto_region 1 with fail
  rw [← HW.out]
  go_wp2_with fail
  refine CA.out.mono ?_
  clear HW
  rintro e W ⟨rfl, J⟩
  have P0 := hid (P0.out.below J.out P0.out.lt)
  have P1 := hid (P1.out.below J.out P1.out.lt)
  have B0 := hid (B0.out.trans (J.out.mono B0.out.size))
  have HA0 := hid ((HA0.out.below J.out).mono J.out.size)
  clear J a0 a1 a2 CA
  have a0 := P0.out.c0
  have a1 := P0.out.c1
  have a2 := P0.out.c2
  go_upto_region 3 with fail
  clear a0 a1 a2
  have hadd := Hadd.out
  have CF : Hid (∀ w', Below W.heap.size W w' → w'.cell? ⟨w.heap.size, 0, none⟩ = some (.bool s) ∧ w'.cell? ⟨w.heap.size, 1, none⟩ = some (.slice A n c) ∧ w'.cell? ⟨w.heap.size, 2, none⟩ = some (.int .i64 (X : Int))) :=
    fun w' hb => ⟨(P0.out.below hb P0.out.lt).c0, (P0.out.below hb P0.out.lt).c1, (P0.out.below hb P0.out.lt).c2⟩
  have CI := hid (fun (w' : World) (hb : Below W.heap.size W w') => ein_any (X := X) (E := X) (k := 0) ((HA0.out.below hb).mono hb.size) Hma.out.1 (by omega) (by omega) s)
  clear P0
  have HBz := hid ((Below.refl W.heap.size W).drew)
  go_region_held3 (fun w' => w'.cell? ⟨w.heap.size, 0, none⟩ = some (.bool s) ∧ w'.cell? ⟨w.heap.size, 1, none⟩ = some (.slice A n c) ∧ w'.cell? ⟨w.heap.size, 2, none⟩ = some (.int .i64 (X : Int)))
    (first | exact CF.out _ HBz.out | exact CF.out _ (HBz.out.alloc HBz.out.size _) | exact CF.out _ (below_put3 HBz.out Hgl.out))
    (first
    | (go_at_call 49
       first
         | refine (CI.out _ HBz.out).mono ?_
         | refine (CI.out _ (HBz.out.alloc HBz.out.size _)).mono ?_
       rintro e wx ⟨va, rfl, SA, Ba⟩
       first
         | (obtain ⟨gx, hgx, Px0⟩ := box_of Ba.out
            have Px := hid Px0
            have Hgl := hid (show W.heap.size ≤ gx by rw [hgx]; exact HBz.out.size)
            first
              | rw [← hgx]
              | (rw [show W.drew.heap.size = W.heap.size from rfl] at hgx
                 rw [← hgx])
            clear hgx Px0)
         | (have Px := hid (Px.out.below Ba.out Px.out.lt))
         | skip
       have HBz := hid (by first | exact HBz.out.trans (Ba.out.mono HBz.out.size) | exact (HBz.out.alloc HBz.out.size _).trans (Ba.out.mono (HBz.out.alloc HBz.out.size _).size)))
    | (go_at_call 47
       first
         | refine (eform_any (K := X + 1) SA.out (by omega) (by omega)).mono ?_
         | refine (eform_any (K := X + 1) (SA.out.alloc _) (by omega) (by omega)).mono ?_
       rintro e wx ⟨dd, er, rfl, HE, HD, Ba⟩
       first
         | (obtain ⟨gx, hgx, Px0⟩ := box_of Ba.out
            have Px := hid Px0
            have Hgl := hid (show W.heap.size ≤ gx by rw [hgx]; exact HBz.out.size)
            first
              | rw [← hgx]
              | (rw [show W.drew.heap.size = W.heap.size from rfl] at hgx
                 rw [← hgx])
            clear hgx Px0)
         | (have Px := hid (Px.out.below Ba.out Px.out.lt))
         | skip
       have HBz := hid (by first | exact HBz.out.trans (Ba.out.mono HBz.out.size) | exact (HBz.out.alloc HBz.out.size _).trans (Ba.out.mono (HBz.out.alloc HBz.out.size _).size))
       rw [Hsc.out] at HE HD
       obtain ⟨sd, Ad, nd, cd, xd, rfl⟩ := HD.out.parts
       first
         | (have z0 := Px.out.c0
            have z1 := Px.out.c1
            have z2 := Px.out.c2
            have y0 := Px.out.frozen 0
            have y1 := Px.out.frozen 1
            have y2 := Px.out.frozen 2)
         | skip))
  all_goals
    first
      | (clear z0 z1 z2 y0 y1 y2
         obtain ⟨WW, hWW⟩ : ∃ X, X = put3 wx gx sd (.slice Ad nd cd) xd := ⟨_, rfl⟩
         have PX : Hid (Dbox WW gx sd (.slice Ad nd cd) xd) := by rw [hWW]; exact Px.out.store
         have DD : Hid (Dv WW (resD er (H)) (.agg #[.bool sd, .slice Ad nd cd, .int .i64 xd])) := by rw [hWW]; exact HD.out.store Px.out
         have BW : Hid (Below W.heap.size W WW) := by rw [hWW]; exact below_put3 HBz.out Hgl.out
         unfold put3 at hWW
         rw [← hWW])
      | (obtain ⟨WW, hWW⟩ : ∃ X, X = wx.alloc (.cells #[.bool sd, .slice Ad nd cd, .int .i64 xd] 24) := ⟨_, rfl⟩
         have PX : Hid (Dbox WW wx.heap.size sd (.slice Ad nd cd) xd) := by rw [hWW]; exact heap_alloc_new _ _
         have DD : Hid (Dv WW (resD er (H)) (.agg #[.bool sd, .slice Ad nd cd, .int .i64 xd])) := by rw [hWW]; exact HD.out.alloc _
         have BW : Hid (Below W.heap.size W WW) := by rw [hWW]; exact HBz.out.alloc HBz.out.size _
         rw [← hWW])
    clear hWW
    have p0 := PX.out.c0
    have p1 := PX.out.c1
    have p2 := PX.out.c2
    have P1 := hid (P1.out.below BW.out P1.out.lt)
    have q0 := P1.out.frozen 0
    have q1 := P1.out.frozen 1
    have q2 := P1.out.frozen 2
    have r0 := P1.out.c0
    have r1 := P1.out.c1
    have r2 := P1.out.c2
    go_wp2
    refine ret_dyad rfl rfl rfl rfl (P1.out.store (t := sd) (u := .slice Ad nd cd) (y := xd)) ?_
    exact ⟨_, er, rfl, HE, DD.out.store P1.out, below_put3 (B0.out.trans (BW.out.mono B0.out.size)) (by omega)⟩

theorem eadd_any {w : World} {p q : Prop} {M N : Int} {v u : Value} (h1 : DArg w p M v) (h2 : DArg w q N u) :
    Calls Tryd.prog 29 #[v, u] w (ERes w (Derrs (p ∧ q) (M + N)) (M + N)) := by
  obtain ⟨s, A, n, c, f, x, rfl, hr, hp, hM⟩ := h1
  obtain ⟨t, D, k, d, h, y, rfl, hs, hq, hN⟩ := h2
  by_cases hpq : p ∧ q
  · obtain ⟨X, rfl, rfl⟩ := hM hpq.1
    obtain ⟨Y, rfl, rfl⟩ := hN hpq.2
    refine (eadd_ok hr hs (hp.1 hpq.1) (hq.1 hpq.2)).mono ?_
    rintro e w' ⟨d, er, rfl, HE, HD, HB⟩
    exact ⟨d, er, rfl, ⟨fun _ => HE.out, fun hn => absurd hpq hn⟩, HD, HB⟩
  · refine (eadd_bad hr hs (fun h => hpq ⟨hp.2 h.1, hq.2 h.2⟩)).mono ?_
    rintro e w' ⟨d, er, rfl, ⟨rfl⟩, HD, HB⟩
    rw [resD_bad (by decide)] at HD
    refine ⟨d, 8, rfl, ⟨fun h => absurd h hpq, fun _ => rfl⟩, ?_, HB⟩
    rw [resD_bad (by decide)]
    exact HD
theorem half_eq {s : Bool} {V X : Nat} (hX : X ≤ 1024) : 2 * num s (V * tp (4000 - (X + 1))) = dv s V X := by
  unfold dv
  rw [show 4000 - X = (4000 - (X + 1)) + 1 by omega, tp_succ, ← Nat.mul_assoc]
  generalize V * tp (4000 - (X + 1)) = a
  cases s <;> simp [num] <;> omega
theorem ehalf_any {w : World} {p : Prop} {M : Int} {v : Value} (h1 : DArg w p M v) :
    Calls Tryd.prog 33 #[v] w fun e w' => ∃ H : Int, (p → 2 * H = M) ∧ ERes w (Derrs p H) H e w' := by
  obtain ⟨s, A, n, c, f, x, rfl, hr, hp, hM⟩ := h1
  by_cases hp0 : p
  · obtain ⟨X, rfl, rfl⟩ := hM hp0
    have m1 := hp.1 hp0
    refine (ehalf_ok hr m1 rfl).mono ?_
    rintro e w' ⟨d, er, rfl, HE, HD, HB⟩
    exact ⟨_, fun _ => half_eq (by have := m1.2.2.1; omega), d, er, rfl, ⟨fun _ => HE.out, fun hn => absurd hp0 hn⟩, HD, HB⟩
  · refine (ehalf_bad hr (fun h => hp0 (hp.2 h))).mono ?_
    rintro e w' ⟨d, er, rfl, ⟨rfl⟩, HD, HB⟩
    refine ⟨0, fun h => absurd h hp0, d, 8, rfl, ⟨fun h => absurd h hp0, fun _ => rfl⟩, HD, HB⟩


end Go.Proofs.YtelalanhalbicaaDoor
