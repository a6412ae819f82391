/- Package field: Dyad. -/
import Derived.Test.YtmaggpigodkhhaaJtd
namespace Go.Proofs.Ytmaggpigodkhhaa
open Go.RowKit

/-- The error of a dyad that is taken from a place on. -/
def dEr (n : Nat) (xs : List Nat) (p : Int) : Int := if 0 ≤ p ∧ p ≤ n then dE (xs.drop p.toNat) else 8
/-- What a call hands back that takes a dyad. -/
def DTRes (w : World) (n : Nat) (xs : List Nat) (p : Int) (e : Ending) (w' : World) : Prop := ∃ A' n' c', ∃ p' : Int, ∃ s D k d, ∃ x er : Int, ∃ f : Nat → Nat, e = .returned (.tuple #[.agg #[.slice A' n' c', .int .i64 p'], .agg #[.bool s, .slice D k d, .int .i64 x], .int .i64 er]) ∧
  Hid (er = dEr n xs p) ∧ Hid (By w' w.heap.size A' n' c' (if er = 0 then xs else [])) ∧ Hid (p' = if er = 0 then p + (4 + 4 * (cntOf (xs.drop p.toNat) : Int)) else 0) ∧ Hid (Mk w' 50 w.heap.size D k d f) ∧
  Hid (er = 0 → s = decide (sgOf (xs.drop p.toNat) = 1) ∧ k = cntOf (xs.drop p.toNat) ∧ f = limOf (xs.drop p.toNat) ∧ x = (expOf (xs.drop p.toNat) : Int)) ∧ Hid (er ≠ 0 → s = false ∧ D = none ∧ k = 0 ∧ d = 0 ∧ f = (fun _ => 0) ∧ x = 0) ∧ Hid (Below w.heap.size w w')
theorem DTRes.bad {w w' : World} {n : Nat} {xs : List Nat} {p er : Int} (he : er = dEr n xs p) (h0 : er ≠ 0) (hb : Below w.heap.size w w') : DTRes w n xs p (.returned (.tuple #[.agg #[.slice none 0 0, .int .i64 0], .agg #[.bool false, .slice none 0 0, .int .i64 0], .int .i64 er])) w' :=
  ⟨none, 0, 0, 0, false, none, 0, 0, 0, er, fun _ => 0, rfl, he, by rw [if_neg h0]; exact By.nul _ _, by rw [if_neg h0]; exact rfl, Mk.nil _ _ _, fun h => absurd h h0, fun _ => ⟨rfl, rfl, rfl, rfl, rfl, rfl⟩, hb⟩

set_option maxHeartbeats 6400000 in
theorem Dyad_any {w : World} {n c : Nat} {A : Option Addr} {xs : List Nat} (h : By w w.heap.size A n c xs) (p : Int) :
    Calls Try.prog 14 #[.agg #[.slice A n c, .int .i64 p]] w (DTRes w n xs p) := by
  obtain ⟨W, hW⟩ : ∃ W, W = ((w.alloc (.cells #[.slice A n c, .int .i64 p] 39)).alloc (.cells #[.slice none 0 0, .int .i64 0] 39)).alloc (.cells #[.bool false, .slice none 0 0, .int .i64 0] 26) := ⟨_, rfl⟩
  have B0 := hid (show Below w.heap.size w W from hW ▸ (((Below.refl w.heap.size w).alloc (Nat.le_refl _) _).alloc (by simp) _).alloc (by simp; omega) _)
  have R0 : Hid (Rbox W 39 w.heap.size A n c p) := hid (hW ▸ heap3_0 w _ _ _)
  have Y0 : Hid (Rbox W 39 (w.heap.size + 1) none 0 0 0) := hid (hW ▸ heap3_1 w _ _ _)
  have Z0 : Hid (Dbox W (w.heap.size + 2) false (.slice none 0 0) 0) := hid (hW ▸ heap3_2 w _ _ _)
  have HW := hid hW
  have HX := hid h
  have hmax := h.max
  clear hW h
  have C := mayRead_any A n c p W hmax
  have b0 := R0.out.c0
  have b1 := R0.out.c1
  by_cases h1 : 0 ≤ p ∧ p ≤ (n : Int)
  · rw [bool_of_dec h1] at C
    have HC := hid C
    obtain ⟨q, rfl⟩ : ∃ q : Nat, p = q := ⟨p.toNat, by omega⟩
    clear C
    go_enter Try.func14, Try.ntmps14
    go_upto_region 1 with fail
    rw [← HW.out]
    go_wp2_with fail
    refine HC.out.mono ?_
    rintro e w1 ⟨rfl, hb1⟩
    have R1 := hid (R0.out.below hb1.out R0.out.lt)
    have Y1 := hid (Y0.out.below hb1.out Y0.out.lt)
    have Z1 := hid (Z0.out.below hb1.out Z0.out.lt)
    have B1 := hid (B0.out.trans (hb1.out.mono B0.out.size))
    have e0 := R1.out.c0
    have e1 := R1.out.c1
    have Zlt := Z1.out.lt
    clear b0 b1 HC hb1
    go_wp2_with fail
    have RR : Hid (Rbox (w1.alloc (.cells #[.slice A n c, .int .i64 (q : Int)] 64)) 64 w1.heap.size A n c (q : Int)) := heap_alloc_new w1 _
    have Ba := hid ((Below.refl w1.heap.size w1).alloc (Nat.le_refl _) (.cells #[.slice A n c, .int .i64 (q : Int)] 64))
    have hX2 := hid (HX.out.below (B1.out.trans (Ba.out.mono B1.out.size)))
    refine (takeDyad_any RR.out hX2.out B1.out.size (by omega)).mono ?_
    rintro e w2 ⟨s, D, k, d, x, er, f, rfl, he, hM, hV, hZ, hR, hb⟩
    have K2 := hid (Ba.out.trans hb.out)
    have Y2 := hid (Y1.out.below K2.out (by omega))
    have Z2 := hid (Z1.out.below K2.out (by omega))
    have B2 := hid (B1.out.trans (K2.out.mono B1.out.size))
    have HE : Hid (er = dEr n xs (q : Int)) := hid (by unfold dEr; rw [if_pos h1]; exact he.out)
    have hM2 := hid (hM.out.mono (B' := w1.heap.size) (by simp))
    have HT : Hid (((q : Nat) : Int).toNat = q) := hid (by omega)
    clear e0 e1 RR Ba hX2 he hb hM h1 R1 Y1 Z1 B1 K2 R0 Y0 Z0 B0
    have f0 := Y2.out.frozen 0
    have f1 := Y2.out.frozen 1
    have c0 := Y2.out.c0
    have c1 := Y2.out.c1
    have g0 := Z2.out.frozen 0
    have g1 := Z2.out.frozen 1
    have g2 := Z2.out.frozen 2
    have d0 := Z2.out.c0
    have d1 := Z2.out.c1
    have d2 := Z2.out.c2
    by_cases h0 : er = 0
    · subst h0
      have R2 := hid (hR.out rfl)
      have r0 := R2.out.c0
      have r1 := R2.out.c1
      clear hR
      go_wp2_with fail
      obtain ⟨V, hV0⟩ : ∃ V, V = ((w2.setCell ⟨w.heap.size + 2, 0, none⟩ (.bool s)).setCell ⟨w.heap.size + 2, 1, none⟩ (.slice D k d)).setCell ⟨w.heap.size + 2, 2, none⟩ (.int .i64 x) := ⟨_, rfl⟩
      have HV := hid hV0
      have Z3 : Hid (Dbox V (w.heap.size + 1 + 1) s (.slice D k d) x) := hid (hV0 ▸ Z2.out.store)
      have Y3 : Hid (Rbox V 39 (w.heap.size + 1) none 0 0 0) := hid (hV0 ▸ ((Y2.out.far (k := w.heap.size + 2) (by omega) 0 _).far (k := w.heap.size + 2) (by omega) 1 _).far (k := w.heap.size + 2) (by omega) 2 _)
      have R3 : Hid (Rbox V 64 w1.heap.size A n c ((q + (4 + 4 * cntOf (xs.drop q)) : Nat) : Int)) := hid (hV0 ▸ ((R2.out.far (k := w.heap.size + 2) (by omega) 0 _).far (k := w.heap.size + 2) (by omega) 1 _).far (k := w.heap.size + 2) (by omega) 2 _)
      have M3 : Hid (Mk V 50 w1.heap.size D k d f) := hid (hV0 ▸ hM2.out.put3 (by omega))
      have B3 : Hid (Below w.heap.size w V) := hid (hV0 ▸ below_put3 B2.out (by omega))
      have hV1 : ((w2.setCell ⟨w.heap.size + 1 + 1, 0, none⟩ (.bool s)).setCell ⟨w.heap.size + 1 + 1, 1, none⟩ (.slice D k d)).setCell ⟨w.heap.size + 1 + 1, 2, none⟩ (.int .i64 x) = V := hV0.symm
      rw [hV1]
      clear hV0 hV1 HV f0 f1 c0 c1 g0 g1 g2 d0 d1 d2 r0 r1 Y2 Z2 R2 hM2 B2
      obtain ⟨P, hP⟩ : ∃ P : Nat, P = q + (4 + 4 * cntOf (xs.drop q)) := ⟨_, rfl⟩
      rw [← hP] at R3
      have HP := hid hP
      clear hP
      have f0 := Y3.out.frozen 0
      have f1 := Y3.out.frozen 1
      have c0 := Y3.out.c0
      have c1 := Y3.out.c1
      have g0 := Z3.out.frozen 0
      have g1 := Z3.out.frozen 1
      have g2 := Z3.out.frozen 2
      have d0 := Z3.out.c0
      have d1 := Z3.out.c1
      have d2 := Z3.out.c2
      have r0 := R3.out.c0
      have r1 := R3.out.c1
      go_region
      all_goals
        go_wp2
        have Y4 := (((((Y3.out.set0 (D := A) (m := n) (d := c)).set1 (P : Int)).far (k := w.heap.size + 1 + 1) (by omega) 0 (.bool s)).far (k := w.heap.size + 1 + 1) (by omega) 1 (.slice D k d)).far (k := w.heap.size + 1 + 1) (by omega) 2 (.int .i64 (x : Int))).drew
        have Z4 := (((Z3.out.far (k := w.heap.size + 1) (by omega) 0 (.slice A n c)).far (k := w.heap.size + 1) (by omega) 1 (.int .i64 (P : Int))).store (t := s) (u := .slice D k d) (y := x)).drew
        have B4 := (below_put3 (s := s) (v := .slice D k d) (x := x) (((B3.out.setCell (p := ⟨w.heap.size + 1, 0, none⟩) (by simp) (.slice A n c)).setCell (p := ⟨w.heap.size + 1, 1, none⟩) (by simp) (.int .i64 (P : Int)))) (show w.heap.size ≤ w.heap.size + 1 + 1 by omega)).drew
        have M4 := ((((M3.out.far (g := w.heap.size + 1) (by omega) 0 (.slice A n c)).far (g := w.heap.size + 1) (by omega) 1 (.int .i64 (P : Int))).put3 (g := w.heap.size + 1 + 1) (s := s) (u := .slice D k d) (x := x) (by omega)).below ((Below.refl _ _).drew) (Nat.le_refl _)).mono (B' := w.heap.size) (by omega)
        obtain ⟨U, hU⟩ : ∃ U, U = (put3 ((V.setCell ⟨w.heap.size + 1, 0, none⟩ (.slice A n c)).setCell ⟨w.heap.size + 1, 1, none⟩ (.int .i64 (P : Int))) (w.heap.size + 1 + 1) s (.slice D k d) x).drew := ⟨_, rfl⟩
        have Y5 : Rbox U 39 (w.heap.size + 1) A n c (P : Int) := hU ▸ Y4
        have Z5 : Dbox U (w.heap.size + 1 + 1) s (.slice D k d) x := hU ▸ Z4
        have B5 : Below w.heap.size w U := hU ▸ B4
        have M5 : Mk U 50 w.heap.size D k d f := hU ▸ M4
        clear Y4 Z4 B4 M4
        unfold put3 at hU
        rw [← hU]
        refine ret_rest_dyad rfl rfl rfl rfl rfl Y5 Z5 ?_
        refine ⟨A, n, c, (P : Int), s, D, k, d, x, 0, f, rfl, HE, by rw [if_pos rfl]; exact HX.out.below B5, ?_, M5, ?_, fun h => absurd rfl h, B5⟩
        · rw [if_pos rfl, HT.out, HP.out]
          exact (Int.natCast_add _ _).trans (congrArg _ ((Int.natCast_add _ _).trans (congrArg _ (Int.natCast_mul _ _))))
        · rw [HT.out]
          exact fun _ => hV.out trivial
    · have hne : (er != 0) = true := by simpa using h0
      obtain ⟨hs0, hD0, hk0, hd0, hf0, hx0⟩ := hZ.out h0
      subst hs0 hD0 hk0 hd0 hx0
      have H0 := hid h0
      clear hR hV hZ hM2 h0
      go_wp2
      have Z3 := Z2.out.store (t := false) (u := .slice none 0 0) (y := 0)
      have Y3 := (((Y2.out.far (k := w.heap.size + 2) (by omega) 0 (.bool false)).far (k := w.heap.size + 2) (by omega) 1 (.slice none 0 0)).far (k := w.heap.size + 2) (by omega) 2 (.int .i64 0))
      have Z4 := ((Z3.far (k := w.heap.size + 1) (by omega) 0 (.slice none 0 0)).far (k := w.heap.size + 1) (by omega) 1 (.int .i64 0)).store (t := false) (u := .slice none 0 0) (y := 0)
      have Y4 := (((((Y3.set0 (D := none) (m := 0) (d := 0)).set1 0).far (k := w.heap.size + 2) (by omega) 0 (.bool false)).far (k := w.heap.size + 2) (by omega) 1 (.slice none 0 0)).far (k := w.heap.size + 2) (by omega) 2 (.int .i64 0))
      refine ret_rest_dyad rfl rfl rfl rfl rfl Y4 Z4 ?_
      exact DTRes.bad HE.out H0.out (below_put3 (((below_put3 B2.out (by omega)).setCell (p := ⟨w.heap.size + 1, 0, none⟩) (by simp) _).setCell (p := ⟨w.heap.size + 1, 1, none⟩) (by simp) _) (by omega))
  · rw [bool_of_not h1] at C
    have HC := hid C
    have HE : Hid ((8 : Int) = dEr n xs p) := hid (by unfold dEr; rw [if_neg h1])
    clear C h1
    go_enter Try.func14, Try.ntmps14
    go_upto_region 1 with fail
    rw [← HW.out]
    go_wp2_with fail
    refine HC.out.mono ?_
    rintro e w1 ⟨rfl, hb1⟩
    have Y1 := hid (Y0.out.below hb1.out Y0.out.lt)
    have Z1 := hid (Z0.out.below hb1.out Z0.out.lt)
    have B1 := hid (B0.out.trans (hb1.out.mono B0.out.size))
    have f0 := Y1.out.frozen 0
    have f1 := Y1.out.frozen 1
    have c0 := Y1.out.c0
    have c1 := Y1.out.c1
    have g0 := Z1.out.frozen 0
    have g1 := Z1.out.frozen 1
    have g2 := Z1.out.frozen 2
    have d0 := Z1.out.c0
    have d1 := Z1.out.c1
    have d2 := Z1.out.c2
    clear b0 b1
    go_wp2
    have Y3 := (((((Y1.out.set0 (D := none) (m := 0) (d := 0)).set1 0).far (k := w.heap.size + 2) (by omega) 0 (.bool false)).far (k := w.heap.size + 2) (by omega) 1 (.slice none 0 0)).far (k := w.heap.size + 2) (by omega) 2 (.int .i64 0))
    have Z3 := ((Z1.out.far (k := w.heap.size + 1) (by omega) 0 (.slice none 0 0)).far (k := w.heap.size + 1) (by omega) 1 (.int .i64 0)).store (t := false) (u := .slice none 0 0) (y := 0)
    refine ret_rest_dyad rfl rfl rfl rfl rfl Y3 Z3 ?_
    exact DTRes.bad HE.out (by omega) (below_put3 ((B1.out.setCell (p := ⟨w.heap.size + 1, 0, none⟩) (by simp) _).setCell (p := ⟨w.heap.size + 1, 1, none⟩) (by simp) _) (by omega))

end Go.Proofs.Ytmaggpigodkhhaa
