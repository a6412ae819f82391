/- Package field: what is taken, and of which bytes: dyads. -/
/- Package mail: the reader. -/
/- Package mail: the writer. -/
/- What a mail's kind uses: the program's used. -/
/- A mail that lies, as a mail. -/
/- Package mail: used; what is answered, as it reads. -/
import Derived.Test.YtbankbehfjogpaaGreatVag
import Derived.Test.YtbankbehfjogpaaGreatVal
import Derived.Test.YtbankbehfjogpaaGreatVae
import Derived.Test.YtbankbehfjogpaaGreatVai
namespace Go.Proofs.YtbankbehfjogpaaGreat
open Go.RowKit
set_option maxRecDepth 100000
def DTRs (w : World) (A : Option Addr) (n c : Nat) (xs : List Nat) (p : Int) (e : Ending) (w' : World) : Prop := ∃ A' n' c', ∃ p' : Int, ∃ s D k d, ∃ x er : Int, ∃ f : Nat → Nat, e = .returned (.tuple #[.agg #[.slice A' n' c', .int .i64 p'], .agg #[.bool s, .slice D k d, .int .i64 x], .int .i64 er]) ∧
  Hid (er = dEr n xs p) ∧ Hid (er = 0 → A' = A ∧ n' = n ∧ c' = c) ∧ Hid (er ≠ 0 → A' = none ∧ n' = 0 ∧ c' = 0) ∧ Hid (p' = if er = 0 then p + (4 + 4 * (cntOf (xs.drop p.toNat) : Int)) else 0) ∧ Hid (Mk w' 75 w.heap.size D k d f) ∧
  Hid (er = 0 → s = decide (sgOf (xs.drop p.toNat) = 1) ∧ k = cntOf (xs.drop p.toNat) ∧ f = limOf (xs.drop p.toNat) ∧ x = (expOf (xs.drop p.toNat) : Int)) ∧ Hid (er ≠ 0 → s = false ∧ D = none ∧ k = 0 ∧ d = 0 ∧ f = (fun _ => 0) ∧ x = 0) ∧ Hid (Below w.heap.size w w')
theorem DTRs.bad {w w' : World} {A : Option Addr} {n c : Nat} {xs : List Nat} {p er : Int} (he : er = dEr n xs p) (h0 : er ≠ 0) (hb : Below w.heap.size w w') : DTRs w A n c xs p (.returned (.tuple #[.agg #[.slice none 0 0, .int .i64 0], .agg #[.bool false, .slice none 0 0, .int .i64 0], .int .i64 er])) w' :=
  ⟨none, 0, 0, 0, false, none, 0, 0, 0, er, fun _ => 0, rfl, he, fun h => absurd h h0, fun _ => ⟨rfl, rfl, rfl⟩, by rw [if_neg h0]; exact rfl, Mk.nil _ _ _, fun h => absurd h h0, fun _ => ⟨rfl, rfl, rfl, rfl, rfl, rfl⟩, hb⟩
set_option maxHeartbeats 6400000 in
theorem Dyad_s {w : World} {n c : Nat} {A : Option Addr} {xs : List Nat} (h : By w w.heap.size A n c xs) (p : Int) :
    Calls Tryz.prog 67 #[.agg #[.slice A n c, .int .i64 p]] w (DTRs w A n c xs p) := by
  obtain ⟨W, hW⟩ : ∃ W, W = ((w.alloc (.cells #[.slice A n c, .int .i64 p] 63)).alloc (.cells #[.slice none 0 0, .int .i64 0] 63)).alloc (.cells #[.bool false, .slice none 0 0, .int .i64 0] 24) := ⟨_, rfl⟩
  have B0 := hid (show Below w.heap.size w W from hW ▸ (((Below.refl w.heap.size w).alloc (Nat.le_refl _) _).alloc (by simp) _).alloc (by simp; omega) _)
  have R0 : Hid (Rbox W 63 w.heap.size A n c p) := hid (hW ▸ heap3_0 w _ _ _)
  have Y0 : Hid (Rbox W 63 (w.heap.size + 1) none 0 0 0) := hid (hW ▸ heap3_1 w _ _ _)
  have Z0 : Hid (Dbox W (w.heap.size + 2) false (.slice none 0 0) 0) := hid (hW ▸ heap3_2 w _ _ _)
  have HW := hid hW
  have HX := hid h
  have hmax := h.max
  clear hW h
  have C := mayRead_any A n c p W hmax
  have b0 := R0.out.c0
  have b1 := R0.out.c1
  by_cases h1 : 0 ≤ p ∧ p ≤ (n : Int)
  · rw [bool_of_dec h1] at C
    have HC := hid C
    obtain ⟨q, rfl⟩ : ∃ q : Nat, p = q := ⟨p.toNat, by omega⟩
    clear C
    go_enter Tryz.func67, Tryz.ntmps67
    go_upto_region 1 with fail
    rw [← HW.out]
    go_wp2_with fail
    refine HC.out.mono ?_
    rintro e w1 ⟨rfl, hb1⟩
    have R1 := hid (R0.out.below hb1.out R0.out.lt)
    have Y1 := hid (Y0.out.below hb1.out Y0.out.lt)
    have Z1 := hid (Z0.out.below hb1.out Z0.out.lt)
    have B1 := hid (B0.out.trans (hb1.out.mono B0.out.size))
    have e0 := R1.out.c0
    have e1 := R1.out.c1
    have Zlt := Z1.out.lt
    clear b0 b1 HC hb1
    go_wp2_with fail
    have RR : Hid (Rbox (w1.alloc (.cells #[.slice A n c, .int .i64 (q : Int)] 141)) 141 w1.heap.size A n c (q : Int)) := heap_alloc_new w1 _
    have Ba := hid ((Below.refl w1.heap.size w1).alloc (Nat.le_refl _) (.cells #[.slice A n c, .int .i64 (q : Int)] 141))
    have hX2 := hid (HX.out.below (B1.out.trans (Ba.out.mono B1.out.size)))
    refine (takeDyad_any RR.out hX2.out B1.out.size (by omega)).mono ?_
    rintro e w2 ⟨s, D, k, d, x, er, f, rfl, he, hM, hV, hZ, hR, hb⟩
    have K2 := hid (Ba.out.trans hb.out)
    have Y2 := hid (Y1.out.below K2.out (by omega))
    have Z2 := hid (Z1.out.below K2.out (by omega))
    have B2 := hid (B1.out.trans (K2.out.mono B1.out.size))
    have HE : Hid (er = dEr n xs (q : Int)) := hid (by unfold dEr; rw [if_pos h1]; exact he.out)
    have hM2 := hid (hM.out.mono (B' := w1.heap.size) (by simp))
    have HT : Hid (((q : Nat) : Int).toNat = q) := hid (by omega)
    clear e0 e1 RR Ba hX2 he hb hM h1 R1 Y1 Z1 B1 K2 R0 Y0 Z0 B0
    have f0 := Y2.out.frozen 0
    have f1 := Y2.out.frozen 1
    have c0 := Y2.out.c0
    have c1 := Y2.out.c1
    have g0 := Z2.out.frozen 0
    have g1 := Z2.out.frozen 1
    have g2 := Z2.out.frozen 2
    have d0 := Z2.out.c0
    have d1 := Z2.out.c1
    have d2 := Z2.out.c2
    by_cases h0 : er = 0
    · subst h0
      have R2 := hid (hR.out rfl)
      have r0 := R2.out.c0
      have r1 := R2.out.c1
      clear hR
      go_wp2_with fail
      obtain ⟨V, hV0⟩ : ∃ V, V = ((w2.setCell ⟨w.heap.size + 2, 0, none⟩ (.bool s)).setCell ⟨w.heap.size + 2, 1, none⟩ (.slice D k d)).setCell ⟨w.heap.size + 2, 2, none⟩ (.int .i64 x) := ⟨_, rfl⟩
      have HV := hid hV0
      have Z3 : Hid (Dbox V (w.heap.size + 1 + 1) s (.slice D k d) x) := hid (hV0 ▸ Z2.out.store)
      have Y3 : Hid (Rbox V 63 (w.heap.size + 1) none 0 0 0) := hid (hV0 ▸ ((Y2.out.far (k := w.heap.size + 2) (by omega) 0 _).far (k := w.heap.size + 2) (by omega) 1 _).far (k := w.heap.size + 2) (by omega) 2 _)
      have R3 : Hid (Rbox V 141 w1.heap.size A n c ((q + (4 + 4 * cntOf (xs.drop q)) : Nat) : Int)) := hid (hV0 ▸ ((R2.out.far (k := w.heap.size + 2) (by omega) 0 _).far (k := w.heap.size + 2) (by omega) 1 _).far (k := w.heap.size + 2) (by omega) 2 _)
      have M3 : Hid (Mk V 75 w1.heap.size D k d f) := hid (hV0 ▸ hM2.out.put3 (by omega))
      have B3 : Hid (Below w.heap.size w V) := hid (hV0 ▸ below_put3 B2.out (by omega))
      have hV1 : ((w2.setCell ⟨w.heap.size + 1 + 1, 0, none⟩ (.bool s)).setCell ⟨w.heap.size + 1 + 1, 1, none⟩ (.slice D k d)).setCell ⟨w.heap.size + 1 + 1, 2, none⟩ (.int .i64 x) = V := hV0.symm
      rw [hV1]
      clear hV0 hV1 HV f0 f1 c0 c1 g0 g1 g2 d0 d1 d2 r0 r1 Y2 Z2 R2 hM2 B2
      obtain ⟨P, hP⟩ : ∃ P : Nat, P = q + (4 + 4 * cntOf (xs.drop q)) := ⟨_, rfl⟩
      rw [← hP] at R3
      have HP := hid hP
      clear hP
      have f0 := Y3.out.frozen 0
      have f1 := Y3.out.frozen 1
      have c0 := Y3.out.c0
      have c1 := Y3.out.c1
      have g0 := Z3.out.frozen 0
      have g1 := Z3.out.frozen 1
      have g2 := Z3.out.frozen 2
      have d0 := Z3.out.c0
      have d1 := Z3.out.c1
      have d2 := Z3.out.c2
      have r0 := R3.out.c0
      have r1 := R3.out.c1
      go_region
      all_goals
        go_wp2
        have Y4 := (((((Y3.out.set0 (D := A) (m := n) (d := c)).set1 (P : Int)).far (k := w.heap.size + 1 + 1) (by omega) 0 (.bool s)).far (k := w.heap.size + 1 + 1) (by omega) 1 (.slice D k d)).far (k := w.heap.size + 1 + 1) (by omega) 2 (.int .i64 (x : Int))).drew
        have Z4 := (((Z3.out.far (k := w.heap.size + 1) (by omega) 0 (.slice A n c)).far (k := w.heap.size + 1) (by omega) 1 (.int .i64 (P : Int))).store (t := s) (u := .slice D k d) (y := x)).drew
        have B4 := (below_put3 (s := s) (v := .slice D k d) (x := x) (((B3.out.setCell (p := ⟨w.heap.size + 1, 0, none⟩) (by simp) (.slice A n c)).setCell (p := ⟨w.heap.size + 1, 1, none⟩) (by simp) (.int .i64 (P : Int)))) (show w.heap.size ≤ w.heap.size + 1 + 1 by omega)).drew
        have M4 := ((((M3.out.far (g := w.heap.size + 1) (by omega) 0 (.slice A n c)).far (g := w.heap.size + 1) (by omega) 1 (.int .i64 (P : Int))).put3 (g := w.heap.size + 1 + 1) (s := s) (u := .slice D k d) (x := x) (by omega)).below ((Below.refl _ _).drew) (Nat.le_refl _)).mono (B' := w.heap.size) (by omega)
        obtain ⟨U, hU⟩ : ∃ U, U = (put3 ((V.setCell ⟨w.heap.size + 1, 0, none⟩ (.slice A n c)).setCell ⟨w.heap.size + 1, 1, none⟩ (.int .i64 (P : Int))) (w.heap.size + 1 + 1) s (.slice D k d) x).drew := ⟨_, rfl⟩
        have Y5 : Rbox U 63 (w.heap.size + 1) A n c (P : Int) := hU ▸ Y4
        have Z5 : Dbox U (w.heap.size + 1 + 1) s (.slice D k d) x := hU ▸ Z4
        have B5 : Below w.heap.size w U := hU ▸ B4
        have M5 : Mk U 75 w.heap.size D k d f := hU ▸ M4
        clear Y4 Z4 B4 M4
        unfold put3 at hU
        rw [← hU]
        refine ret_rest_dyad rfl rfl rfl rfl rfl Y5 Z5 ?_
        refine ⟨A, n, c, (P : Int), s, D, k, d, x, 0, f, rfl, HE, fun _ => ⟨rfl, rfl, rfl⟩, fun h => absurd rfl h, ?_, M5, ?_, fun h => absurd rfl h, B5⟩
        · rw [if_pos rfl, HT.out, HP.out]
          exact (Int.natCast_add _ _).trans (congrArg _ ((Int.natCast_add _ _).trans (congrArg _ (Int.natCast_mul _ _))))
        · rw [HT.out]
          exact fun _ => hV.out trivial
    · have hne : (er != 0) = true := by simpa using h0
      obtain ⟨hs0, hD0, hk0, hd0, hf0, hx0⟩ := hZ.out h0
      subst hs0 hD0 hk0 hd0 hx0
      have H0 := hid h0
      clear hR hV hZ hM2 h0
      go_wp2
      have Z3 := Z2.out.store (t := false) (u := .slice none 0 0) (y := 0)
      have Y3 := (((Y2.out.far (k := w.heap.size + 2) (by omega) 0 (.bool false)).far (k := w.heap.size + 2) (by omega) 1 (.slice none 0 0)).far (k := w.heap.size + 2) (by omega) 2 (.int .i64 0))
      have Z4 := ((Z3.far (k := w.heap.size + 1) (by omega) 0 (.slice none 0 0)).far (k := w.heap.size + 1) (by omega) 1 (.int .i64 0)).store (t := false) (u := .slice none 0 0) (y := 0)
      have Y4 := (((((Y3.set0 (D := none) (m := 0) (d := 0)).set1 0).far (k := w.heap.size + 2) (by omega) 0 (.bool false)).far (k := w.heap.size + 2) (by omega) 1 (.slice none 0 0)).far (k := w.heap.size + 2) (by omega) 2 (.int .i64 0))
      refine ret_rest_dyad rfl rfl rfl rfl rfl Y4 Z4 ?_
      exact DTRs.bad HE.out H0.out (below_put3 (((below_put3 B2.out (by omega)).setCell (p := ⟨w.heap.size + 1, 0, none⟩) (by simp) _).setCell (p := ⟨w.heap.size + 1, 1, none⟩) (by simp) _) (by omega))
  · rw [bool_of_not h1] at C
    have HC := hid C
    have HE : Hid ((8 : Int) = dEr n xs p) := hid (by unfold dEr; rw [if_neg h1])
    clear C h1
    go_enter Tryz.func67, Tryz.ntmps67
    go_upto_region 1 with fail
    rw [← HW.out]
    go_wp2_with fail
    refine HC.out.mono ?_
    rintro e w1 ⟨rfl, hb1⟩
    have Y1 := hid (Y0.out.below hb1.out Y0.out.lt)
    have Z1 := hid (Z0.out.below hb1.out Z0.out.lt)
    have B1 := hid (B0.out.trans (hb1.out.mono B0.out.size))
    have f0 := Y1.out.frozen 0
    have f1 := Y1.out.frozen 1
    have c0 := Y1.out.c0
    have c1 := Y1.out.c1
    have g0 := Z1.out.frozen 0
    have g1 := Z1.out.frozen 1
    have g2 := Z1.out.frozen 2
    have d0 := Z1.out.c0
    have d1 := Z1.out.c1
    have d2 := Z1.out.c2
    clear b0 b1
    go_wp2
    have Y3 := (((((Y1.out.set0 (D := none) (m := 0) (d := 0)).set1 0).far (k := w.heap.size + 2) (by omega) 0 (.bool false)).far (k := w.heap.size + 2) (by omega) 1 (.slice none 0 0)).far (k := w.heap.size + 2) (by omega) 2 (.int .i64 0))
    have Z3 := ((Z1.out.far (k := w.heap.size + 1) (by omega) 0 (.slice none 0 0)).far (k := w.heap.size + 1) (by omega) 1 (.int .i64 0)).store (t := false) (u := .slice none 0 0) (y := 0)
    refine ret_rest_dyad rfl rfl rfl rfl rfl Y3 Z3 ?_
    exact DTRs.bad HE.out (by omega) (below_put3 ((B1.out.setCell (p := ⟨w.heap.size + 1, 0, none⟩) (by simp) _).setCell (p := ⟨w.heap.size + 1, 1, none⟩) (by simp) _) (by omega))
open Go.RowKit Go.Shelf Go.Lib
set_option maxRecDepth 100000
structure Rst where
  xs : List Nat
  p : Nat
  ft : Bool
def rnR (s : Rst) (z : Nat) : Nat × Rst := if s.p + z ≤ s.xs.length then (bn ((s.xs.drop s.p).take z) % 256 ^ z, ⟨s.xs, s.p + z, s.ft⟩) else (0, ⟨[], 0, true⟩)
def rfR (s : Rst) : Bool × Rst := (decide ((rnR s 1).1 = 1), ⟨(rnR s 1).2.xs, (rnR s 1).2.p, (rnR s 1).2.ft || decide (1 < (rnR s 1).1)⟩)
def rdR (s : Rst) : Ddy × Rst := if dE (s.xs.drop s.p) = 0 then (⟨decide (sgOf (s.xs.drop s.p) = 1), cntOf (s.xs.drop s.p), limOf (s.xs.drop s.p), expOf (s.xs.drop s.p)⟩, ⟨s.xs, s.p + (4 + 4 * cntOf (s.xs.drop s.p)), s.ft⟩) else (d0z, ⟨[], 0, true⟩)
def Wrd : Walker Rst := ⟨fun s _ z => rnR s z, fun s _ => rfR s, fun s _ => rdR s⟩
def Rea (g : Nat) (s : Rst) (w : World) : Prop := ∃ A n c, w.heap[g]? = some (.cells #[.slice A n c, .int .i64 (s.p : Int), .bool s.ft] 65 (0, 0)) ∧ By w g A n c s.xs ∧ s.p ≤ s.xs.length
theorem By.blocks {w w' : World} {B n c : Nat} {A : Option Addr} {xs : List Nat} (h : By w B A n c xs) (hb : ∀ b, b < B → b < w.heap.size → w'.heap[b]? = w.heap[b]?) : By w' B A n c xs :=
  ⟨h.len, h.cap, h.max, h.lt, h.nil, fun hn => by
    obtain ⟨b, off, rfl, hB, hc⟩ := h.at_ hn
    refine ⟨b, off, rfl, hB, fun j x hj => ?_⟩
    have h1 := hc j x hj
    have hl : b < w.heap.size := by
      rcases Nat.lt_or_ge b w.heap.size with hl | hl
      · exact hl
      · have e : w.heap[b]? = none := Array.getElem?_eq_none hl
        simp [World.cell?, e] at h1
    exact (World.cell?_of_block (a := ⟨b, off + j, none⟩) (hb b hB hl)).trans h1⟩
set_option maxHeartbeats 3200000 in
theorem rgo_any {g : Nat} {w : World} {u0 u1 : Value} {ft : Bool} (hg : w.heap[g]? = some (.cells #[u0, u1, .bool ft] 65 (0, 0))) (A : Option Addr) (n c : Nat) (p er : Int) :
    Calls Tryz.prog 66 #[.pointer (some ⟨g, 0, none⟩), .agg #[.slice A n c, .int .i64 p], .int .i64 er] w fun e w' => e = .returned (.tuple #[]) ∧
      Hid (w'.heap[g]? = some (.cells #[.slice A n c, .int .i64 p, .bool (ft || decide (er ≠ 0))] 65 (0, 0))) ∧ Hid (Ex (fun b => b = g) w w') := by
  have hl := lt_of_heap hg
  obtain ⟨w1, hw1⟩ : ∃ w1, w1 = w.alloc (.cells #[.slice A n c, .int .i64 p] 63) := ⟨_, rfl⟩
  have B0 := hid (show Below w.heap.size w w1 from hw1 ▸ (Below.refl _ w).alloc (Nat.le_refl _) _)
  have R0 : Hid (w1.heap[w.heap.size]? = some (.cells #[.slice A n c, .int .i64 p] 63 (0, 0))) := hid (hw1 ▸ heap_alloc_new w _)
  have hg1 := (B0.out.block g hl).trans hg
  have Hg := hid hg1
  have HW := hid hw1
  have Hl := hid hl
  have hne : ¬ w.heap.size = g := by omega
  have c0 := row_c R0.out 0
  have c1 := row_c R0.out 1
  have y0 := row_c hg1 0
  have y1 := row_c hg1 1
  have y2 := row_c hg1 2
  have f0 := row_f hg1 0
  have f1 := row_f hg1 1
  have f2 := row_f hg1 2
  have EB := hid (show Ex (fun b => b = g) w w1 from Ex.of_below B0.out)
  have ES := hid (show ∀ X j v, Ex (fun b => b = g) w X → Ex (fun b => b = g) w (X.setCell ⟨g, j, none⟩ v) from fun X j v h => ⟨h.os, h.tape, h.output, by simpa [World.setCell] using h.size, fun b hb hn => (Below.heap_setCell X ⟨g, j, none⟩ v b hn).trans (h.block b hb hn)⟩)
  clear hw1 hg hg1 hl
  by_cases he : er = 0
  · subst he
    have HR := hid (heap_setCell_same _ g 1 _ _ (.int .i64 p) (heap_setCell_same w1 g 0 _ _ (.slice A n c) Hg.out))
    go_enter Tryz.func66, Tryz.ntmps66
    go_upto_region 1 with fail
    rw [← HW.out]
    clear HW
    go_wp2
    go_end0
    refine ⟨rfl, hid ?_, hid (ES.out _ _ _ (ES.out _ _ _ EB.out))⟩
    have := HR.out
    cases ft <;> exact this
  · have hen : (er != 0) = true := by simpa using he
    have hd : decide (er ≠ 0) = true := by simpa using he
    have Hd := hid hd
    have HR := hid (heap_setCell_same _ g 1 _ _ (.int .i64 p) (heap_setCell_same _ g 0 _ _ (.slice A n c) (heap_setCell_same w1 g 2 _ _ (.bool true) Hg.out)))
    clear hd he
    go_enter Tryz.func66, Tryz.ntmps66
    go_upto_region 1 with fail
    rw [← HW.out]
    clear HW
    go_wp2
    go_end0
    refine ⟨rfl, hid ?_, hid (ES.out _ _ _ (ES.out _ _ _ (ES.out _ _ _ EB.out)))⟩
    rw [Hd.out, Bool.or_true]
    exact HR.out
set_option maxHeartbeats 6400000 in
theorem rnum_any {g : Nat} {w : World} {s : Rst} (h : Rea g s w) (V : Int) (z : Nat) (h1 : 1 ≤ z) (h4 : z ≤ 4) (zi : Int) (hzi : (z : Int) = zi) :
    Calls Tryz.prog 26 #[.pointer (some ⟨g, 0, none⟩), .int .u64 V, .int .i64 zi] w fun e w' => e = .returned (.int .u64 ((rnR s z).1 : Int)) ∧ Hid (Rea g (rnR s z).2 w') ∧ Hid (Ex (fun b => b = g) w w') := by
  obtain ⟨A, n, c, hg, hB, hp⟩ := h
  obtain ⟨xs, p, ft⟩ := s
  dsimp only at hg hB hp
  have hl := lt_of_heap hg
  have hlen := hB.len
  have CN := hid (Number_s (hB.mono (Nat.le_of_lt hl)) (p : Int) zi)
  have c0 := row_c hg 0
  have c1 := row_c hg 1
  have Hg := hid hg
  have HB := hid hB
  have Hl := hid hl
  have Hp := hid hp
  have HLen := hid hlen
  have HZ := hid hzi
  clear hg hB hl hp hlen hzi
  go_enter Tryz.func26, Tryz.ntmps26
  go_wp2_with fail
  refine CN.out.mono ?_
  rintro e w1 ⟨A', n', c', V', er, p', rfl, her, hA, hA0, hp', hV', hb⟩
  have Hg1 := hid ((hb.out.block g Hl.out).trans Hg.out)
  obtain ⟨w2, hw2⟩ : ∃ w2, w2 = w1.alloc (.cells #[.slice A' n' c', .int .i64 p'] 63) := ⟨_, rfl⟩
  have B2 := hid (show Below w.heap.size w w2 from hb.out.trans (hw2 ▸ (Below.refl _ w1).alloc hb.out.size _))
  have R2 : Hid (w2.heap[w1.heap.size]? = some (.cells #[.slice A' n' c', .int .i64 p'] 63 (0, 0))) := hid (hw2 ▸ heap_alloc_new w1 _)
  have Hg2 := hid ((B2.out.block g Hl.out).trans Hg.out)
  have CG := hid (rgo_any Hg2.out A' n' c' p' er)
  have HW := hid hw2
  clear c0 c1 CN hw2
  go_upto_region 2 with fail
  rw [← HW.out]
  clear HW
  have c0 := row_c R2.out 0
  have c1 := row_c R2.out 1
  go_wp2_with fail
  refine CG.out.mono ?_
  rintro e w3 ⟨rfl, hg3, hE⟩
  have HE := hid ((Ex.of_below B2.out (G := fun b => b = g)).trans hE.out)
  clear c0 c1 CG hE
  go_wp2
  go_ret
  have hl := Hl.out
  have hlen := HLen.out
  have hp := Hp.out
  have hz := HZ.out
  have hers := her.out
  unfold nE at hers
  rw [if_neg (by omega), if_neg (by omega)] at hers
  by_cases hf : p + z ≤ xs.length
  · rw [if_neg (by omega)] at hers
    obtain ⟨rfl, rfl, rfl⟩ := hA.out hers
    have e1 := hp'.out
    have e2 := hV'.out
    have e3 := hg3.out
    subst hers
    rw [if_pos rfl] at e1 e2
    have hmod : bn ((xs.drop p).take z) % 256 ^ z = bn ((xs.drop p).take z) := Nat.mod_eq_of_lt (Nat.lt_of_lt_of_le (bn_lt fun x hx => HB.out.lt x (List.mem_of_mem_drop (List.mem_of_mem_take hx))) (Nat.pow_le_pow_right (by omega) (by rw [List.length_take]; omega)))
    have hr : rnR ⟨xs, p, ft⟩ z = (bn ((xs.drop p).take z), ⟨xs, p + z, ft⟩) := (if_pos hf).trans (by rw [hmod])
    rw [hr]
    refine ⟨?_, hid ⟨A', n', c', ?_, HB.out.blocks fun b hb hbl => HE.out.block b hbl (by omega), hf⟩, HE⟩
    · show Ending.returned (.int .u64 (V' : Int)) = .returned (.int .u64 ((bn ((xs.drop p).take z) : Nat) : Int))
      rw [e2, show (p : Int).toNat = p by omega, show zi.toNat = z by omega]
    · rw [e3, e1, ← hz]
      cases ft <;> rfl
  · rw [if_pos (by omega)] at hers
    have hne : er ≠ 0 := by omega
    obtain ⟨rfl, rfl, rfl⟩ := hA0.out hne
    have e1 := hp'.out
    have e2 := hV'.out
    have e3 := hg3.out
    rw [if_neg hne] at e1 e2
    have hr : rnR ⟨xs, p, ft⟩ z = (0, ⟨[], 0, true⟩) := if_neg hf
    rw [hr]
    refine ⟨?_, hid ⟨none, 0, 0, ?_, By.nul _ _, Nat.zero_le _⟩, HE⟩
    · show Ending.returned (.int .u64 (V' : Int)) = .returned (.int .u64 ((0 : Nat) : Int))
      rw [e2]
    · rw [e3, e1, decide_eq_true hne, Bool.or_true]
      rfl
set_option maxHeartbeats 3200000 in
theorem rflag_any {g : Nat} {w : World} {s : Rst} (h : Rea g s w) (b : Bool) :
    Calls Tryz.prog 27 #[.pointer (some ⟨g, 0, none⟩), .bool b] w fun e w' => e = .returned (.bool (rfR s).1) ∧ Hid (Rea g (rfR s).2 w') ∧ Hid (Ex (fun b => b = g) w w') := by
  have CN := hid (rnum_any h 0 1 (by omega) (by omega) 1 rfl)
  obtain ⟨V, hV⟩ : ∃ V, V = (rnR s 1).1 := ⟨_, rfl⟩
  obtain ⟨s1, hs1⟩ : ∃ s1, s1 = (rnR s 1).2 := ⟨_, rfl⟩
  have hq : rfR s = (decide (V = 1), ⟨s1.xs, s1.p, s1.ft || decide (1 < V)⟩) := by rw [hV, hs1]; rfl
  rw [hq]
  rw [← hV, ← hs1] at CN
  clear hq hV hs1 h
  go_enter Tryz.func27, Tryz.ntmps27
  go_wp2_with fail
  refine CN.out.mono ?_
  rintro e w1 ⟨rfl, hR, hE⟩
  obtain ⟨A, n, c, hg, hB, hp⟩ := hR.out
  have Hg := hid hg
  have HB := hid hB
  have Hp := hid hp
  have f2 := row_f hg 2
  have y2 := row_c hg 2
  have hgl := lt_of_heap hg
  have ES := hid (show Ex (fun b => b = g) w (w1.setCell ⟨g, 2, none⟩ (.bool true)) from ⟨hE.out.os, hE.out.tape, hE.out.output, by simpa [World.setCell] using hE.out.size, fun b hb hn => (Below.heap_setCell w1 ⟨g, 2, none⟩ _ b hn).trans (hE.out.block b hb hn)⟩)
  have HS := hid (heap_setCell_same w1 g 2 _ _ (.bool true) hg)
  clear hg hB hp hR
  by_cases h1 : 1 < V
  · have h1z : decide ((1 : Int) < (V : Int)) = true := decide_eq_true (by omega)
    have h2z : ((V : Int) == 1) = false := by simp; omega
    have H1 := hid h1
    clear h1
    go_wp2
    go_ret
    refine ⟨?_, hid ⟨A, n, c, ?_, HB.out.blocks fun b hb _ => Below.heap_setCell w1 ⟨g, 2, none⟩ _ b (by show b ≠ g; omega), Hp.out⟩, ES⟩
    · rw [decide_eq_false (show ¬ V = 1 by have := H1.out; omega)]
      simp
    · have := HS.out
      rw [decide_eq_true H1.out, Bool.or_true]
      exact this
  · have h1z : decide ((1 : Int) < (V : Int)) = false := decide_eq_false (by omega)
    have H1 := hid h1
    clear h1
    by_cases h2 : V = 1
    · have h2z : ((V : Int) == 1) = true := by simp; omega
      have H2 := hid h2
      clear h2
      go_wp2
      go_ret
      refine ⟨?_, hid ⟨A, n, c, ?_, HB.out, Hp.out⟩, hE⟩
      · rw [decide_eq_true H2.out]
        simp
      · rw [decide_eq_false H1.out, Bool.or_false]
        exact Hg.out
    · have h2z : ((V : Int) == 1) = false := by simp; omega
      have H2 := hid h2
      clear h2
      go_wp2
      go_ret
      refine ⟨?_, hid ⟨A, n, c, ?_, HB.out, Hp.out⟩, hE⟩
      · rw [decide_eq_false H2.out]
        simp
      · rw [decide_eq_false H1.out, Bool.or_false]
        exact Hg.out
set_option maxHeartbeats 6400000 in
theorem rdyad_any {g : Nat} {w : World} {s : Rst} (h : Rea g s w) (D0 : Dy) :
    Calls Tryz.prog 28 #[.pointer (some ⟨g, 0, none⟩), dyv D0] w fun e w' => ∃ D, e = .returned (dyv D) ∧ Hid (DV D (rdR s).1) ∧ Hid (Mk w' 75 w.heap.size D.A D.n D.c D.f) ∧ Hid (Rea g (rdR s).2 w') ∧ Hid (Ex (fun b => b = g) w w') := by
  obtain ⟨A, n, c, hg, hB, hp⟩ := h
  obtain ⟨xs, p, ft⟩ := s
  dsimp only at hg hB hp
  have hl := lt_of_heap hg
  obtain ⟨w0, hw0⟩ : ∃ w0, w0 = (w.alloc (.cells #[.bool D0.s, .slice D0.A D0.n D0.c, .int .i64 D0.x] 24)).alloc (.cells #[.bool false, .slice none 0 0, .int .i64 0] 24) := ⟨_, rfl⟩
  have B0 := hid (show Below w.heap.size w w0 from hw0 ▸ ((Below.refl _ w).alloc (Nat.le_refl _) _).alloc (by simp) _)
  have Z0 : Hid (Dbox w0 (w.heap.size + 1) false (.slice none 0 0) 0) := hid (hw0 ▸ heap_alloc2_new w _ _)
  have hg0 := (B0.out.block g hl).trans hg
  have CN := hid (Dyad_s ((hB.below (B0.out.mono (Nat.le_of_lt hl))).mono (Nat.le_trans (Nat.le_of_lt hl) B0.out.size)) (p : Int))
  have HW0 := hid hw0
  have c0 := row_c hg0 0
  have c1 := row_c hg0 1
  have Hg := hid hg0
  have HB := hid hB
  have Hl := hid hl
  have Hp := hid hp
  have HLen := hid hB.len
  clear hg hB hl hp hw0 hg0
  go_enter Tryz.func28, Tryz.ntmps28
  go_upto_region 1 with fail
  rw [← HW0.out]
  clear HW0
  go_wp2_with fail
  refine CN.out.mono ?_
  rintro e w1 ⟨A', n', c', p', sg, D, k, d, x, er, f, rfl, her, hA, hA0, hp', hM, hgood, hbad, hb⟩
  have Z1 := hid (Z0.out.below hb.out Z0.out.lt)
  have B1 := hid (B0.out.trans (hb.out.mono B0.out.size))
  have Hg1 := hid ((hb.out.block g (lt_of_heap Hg.out)).trans Hg.out)
  obtain ⟨w2, hw2⟩ : ∃ w2, w2 = (w1.alloc (.cells #[.slice A' n' c', .int .i64 p'] 63)).alloc (.cells #[.bool sg, .slice D k d, .int .i64 x] 24) := ⟨_, rfl⟩
  have K2 := hid (show Below w1.heap.size w1 w2 from hw2 ▸ ((Below.refl _ w1).alloc (Nat.le_refl _) _).alloc (by simp) _)
  have R2 : Hid (w2.heap[w1.heap.size]? = some (.cells #[.slice A' n' c', .int .i64 p'] 63 (0, 0))) := hid (hw2 ▸ (Below.heap_alloc _ _ _ (by simp)).trans (heap_alloc_new w1 _))
  have D2 : Hid (Dbox w2 (w1.heap.size + 1) sg (.slice D k d) x) := hid (hw2 ▸ heap_alloc2_new w1 _ _)
  have Z2 := hid (Z1.out.below K2.out Z1.out.lt)
  have M2 := hid ((hM.out.below K2.out (Nat.le_refl _)).mono (B' := w.heap.size) B0.out.size)
  have B2 := hid (B1.out.trans (K2.out.mono B1.out.size))
  have Hg2 := hid ((K2.out.block g (lt_of_heap Hg1.out)).trans Hg1.out)
  have CG := hid (rgo_any Hg2.out A' n' c' p' er)
  have HW := hid hw2
  have hs1 := hid (show w.heap.size + 1 < w1.heap.size from Z1.out.lt)
  clear c0 c1 CN hw2 hM hb
  go_upto_region 2 with fail
  rw [← HW.out]
  clear HW
  have c0 := row_c R2.out 0
  have c1 := row_c R2.out 1
  go_wp2_with fail
  refine CG.out.mono ?_
  rintro e w3 ⟨rfl, hg3, hE⟩
  have hgl := Hl.out
  have hs1' := hs1.out
  have HE := hid ((Ex.of_below B2.out (G := fun b => b = g)).trans hE.out)
  have D3 := hid (show Dbox w3 (w1.heap.size + 1) sg (.slice D k d) x from hE.out.heap D2.out (by omega))
  have Z3 := hid (show Dbox w3 (w.heap.size + 1) false (.slice none 0 0) 0 from hE.out.heap Z2.out (by omega))
  have M3 := hid (show Mk w3 75 w.heap.size D k d f from ⟨M2.out.cap, M2.out.max, M2.out.lt, M2.out.out, M2.out.own.imp id (by rintro ⟨b, cs, hA, hb, hh, hs, hc⟩; exact ⟨b, cs, hA, hb, hE.out.heap hh (by omega), hs, hc⟩)⟩)
  have b0 := D3.out.c0
  have b1 := D3.out.c1
  have b2 := D3.out.c2
  have e0 := Z3.out.c0
  have e1 := Z3.out.c1
  have e2 := Z3.out.c2
  have f0 := Z3.out.frozen 0
  have f1 := Z3.out.frozen 1
  have f2 := Z3.out.frozen 2
  clear c0 c1 CG hE
  go_wp2
  refine ret_one rfl (by rfl) rfl Z3.out.store ⟨⟨sg, D, k, d, x, f⟩, rfl, ?_⟩
  have M4 := hid (show Mk (((w3.setCell ⟨w.heap.size + 1, 0, none⟩ (.bool sg)).setCell ⟨w.heap.size + 1, 1, none⟩ (.slice D k d)).setCell ⟨w.heap.size + 1, 2, none⟩ (.int .i64 x)) 75 w.heap.size D k d f from
    ⟨M3.out.cap, M3.out.max, M3.out.lt, M3.out.out, M3.out.own.imp id (by
      rintro ⟨b, cs, hA, hb, hh, hs, hc⟩
      refine ⟨b, cs, hA, hb, (oth3 (fun e => ?_) 0 1 2 _ _ _).trans hh, hs, hc⟩
      subst e
      have hz := Z3.out
      unfold Dbox at hz
      rw [hz] at hh
      injection hh with hh
      injection hh with _ ht
      exact absurd ht (by decide))⟩)
  have E4 := hid (ex_put3 HE.out (g := w.heap.size + 1) (by omega) 0 1 2 (.bool sg) (.slice D k d) (.int .i64 x))
  have hg4 := (oth3 (w := w3) (b := g) (g := w.heap.size + 1) (by omega) 0 1 2 (.bool sg) (.slice D k d) (.int .i64 x)).trans hg3.out
  have hers := her.out
  unfold dEr at hers
  have hp := Hp.out
  have hlen := HLen.out
  rw [if_pos (by omega), show (p : Int).toNat = p by omega] at hers
  by_cases h0 : dE (xs.drop p) = 0
  · rw [h0] at hers
    obtain ⟨rfl, rfl, rfl⟩ := hA.out hers
    obtain ⟨q1, q2, q3, q4⟩ := hgood.out hers
    have e1 := hp'.out
    rw [if_pos hers, show (p : Int).toNat = p by omega] at e1
    rw [show (p : Int).toNat = p by omega] at q1 q2 q3 q4
    have hr : rdR ⟨xs, p, ft⟩ = (⟨decide (sgOf (xs.drop p) = 1), cntOf (xs.drop p), limOf (xs.drop p), expOf (xs.drop p)⟩, ⟨xs, p + (4 + 4 * cntOf (xs.drop p)), ft⟩) := if_pos h0
    rw [hr]
    have hbnd : 4 + 4 * cntOf (xs.drop p) ≤ (xs.drop p).length := by
      unfold dE at h0
      split at h0
      · exact absurd h0 (by decide)
      · omega
    rw [List.length_drop] at hbnd
    refine ⟨hid ⟨q1, q2, q3, q4⟩, M4, hid ⟨A', n', c', ?_, HB.out.blocks fun b hb hbl => E4.out.block b hbl (by omega), ?_⟩, E4⟩
    · rw [hg4, e1, hers]
      have e5 : (p : Int) + (4 + 4 * (cntOf (xs.drop p) : Int)) = ((p + (4 + 4 * cntOf (xs.drop p)) : Nat) : Int) := by omega
      rw [e5]
      cases ft <;> rfl
    · show p + (4 + 4 * cntOf (xs.drop p)) ≤ xs.length
      omega
  · have hne : er ≠ 0 := by rw [hers]; exact h0
    obtain ⟨rfl, rfl, rfl⟩ := hA0.out hne
    obtain ⟨q1, q2, q3, q4, q5, q6⟩ := hbad.out hne
    have e1 := hp'.out
    rw [if_neg hne] at e1
    have hr : rdR ⟨xs, p, ft⟩ = (d0z, ⟨[], 0, true⟩) := if_neg h0
    rw [hr]
    refine ⟨hid ⟨q1, q3, q5, q6⟩, M4, hid ⟨none, 0, 0, ?_, By.nul _ _, Nat.zero_le _⟩, E4⟩
    rw [hg4, e1, decide_eq_true hne, Bool.or_true]
    rfl
theorem rnR_lt (s : Rst) {z : Nat} (h4 : z ≤ 4) : (rnR s z).1 < 4294967296 := by
  unfold rnR
  split
  · exact Nat.lt_of_lt_of_le (Nat.mod_lt _ (Nat.pow_pos (by decide))) (Nat.le_trans (Nat.pow_le_pow_right (by omega) h4) (by decide))
  · decide
theorem rnR_one (s : Rst) : (rnR s 1).1 < 256 := by
  unfold rnR
  split
  · exact Nat.mod_lt _ (by decide)
  · decide
open Go.RowKit Go.Shelf Go.Lib
set_option maxRecDepth 100000
def pnR (xs : List Nat) (V z : Nat) : List Nat := if (1 ≤ z ∧ z ≤ 8 ∧ V < 256 ^ z) ∧ xs.length + z ≤ 3900 then xs ++ be V z else []
theorem PutNumber_r {w : World} {n c : Nat} {A : Option Addr} {xs : List Nat} (h : By w w.heap.size A n c xs) (V z : Nat) (hV : V ≤ 18446744073709551615) (zi : Int) (hzi : (z : Int) = zi) :
    Calls Tryz.prog 46 #[.slice A n c, .int .u64 (V : Int), .int .i64 zi] w fun e w' => ∃ (v : Value) (er : Int), e = .returned (.tuple #[v, .int .i64 er]) ∧ Hid (Ow w' w.heap.size v (pnR xs V z)) ∧ Hid (Below w.heap.size w w') := by
  subst hzi
  have hlen := h.len
  by_cases h1 : 1 ≤ z ∧ z ≤ 8 ∧ V < 256 ^ z
  · by_cases h2 : xs.length + z ≤ 3900
    · have e : pnR xs V z = xs ++ be V z := if_pos ⟨h1, h2⟩
      rw [e]
      exact (PutNumber_fits h h1.1 h1.2.1 h1.2.2 hV (by omega)).mono fun _ _ ⟨v, he, ho, hb⟩ => ⟨v, 0, he, ho, hb⟩
    · have e : pnR xs V z = [] := if_neg (fun hh => h2 hh.2)
      rw [e]
      exact (PutNumber_many h1.1 h1.2.1 h1.2.2 hV (by omega) h.max).mono fun _ _ ⟨he, hw⟩ => ⟨_, 4, he, hid (Ow.nil _ _), hid (hw ▸ Below.refl _ _)⟩
  · have e : pnR xs V z = [] := if_neg (fun hh => h1 hh.1)
    rw [e]
    exact (PutNumber_arg (by rw [Int.toNat_natCast]; omega) hV).mono fun _ _ ⟨he, hw⟩ => ⟨_, 2, he, hid (Ow.nil _ _), hid (hw ▸ Below.refl _ _)⟩
open Classical in
noncomputable def pdR (xs : List Nat) (d : Ddy) : List Nat := if DMay d.s d.n d.f (d.x : Int) ∧ xs.length + (4 + 4 * d.n) ≤ 3900 then xs ++ dfx d else []
theorem PutDyad_r {w : World} {n c : Nat} {A : Option Addr} {xs : List Nat} (h : By w w.heap.size A n c xs) {D : Dy} {d : Ddy} (hd : DV D d) (hr : Rd w w.heap.size D.A D.n D.c D.f) :
    Calls Tryz.prog 47 #[.slice A n c, dyv D] w fun e w' => ∃ (v : Value) (er : Int), e = .returned (.tuple #[v, .int .i64 er]) ∧ Hid (Ow w' w.heap.size v (pdR xs d)) ∧ Hid (Below w.heap.size w w') := by
  obtain ⟨h1, h2, h3, h4⟩ := hd
  obtain ⟨s, B, m, e, x, f⟩ := D
  obtain ⟨s', m', f', x'⟩ := d
  dsimp only at h1 h2 h3 h4 hr ⊢
  subst h1 h2 h3 h4
  have hlen := h.len
  by_cases hm : DMay s m f (x' : Int)
  · by_cases h2 : xs.length + (4 + 4 * m) ≤ 3900
    · have e : pdR xs ⟨s, m, f, x'⟩ = xs ++ dfx ⟨s, m, f, x'⟩ := if_pos ⟨hm, h2⟩
      rw [e]
      exact (PutDyad_fits h hr hm (by omega)).mono fun _ _ ⟨v, he, ho, hb⟩ => ⟨v, 0, he, ho, hb⟩
    · have e : pdR xs ⟨s, m, f, x'⟩ = [] := if_neg (fun hh => h2 hh.2)
      rw [e]
      exact (PutDyad_many hr hm (by omega) h.max).mono fun _ _ ⟨he, hb⟩ => ⟨_, 4, he, hid (Ow.nil _ _), hb⟩
  · have e : pdR xs ⟨s, m, f, x'⟩ = [] := if_neg (fun hh => hm hh.1)
    rw [e]
    exact (PutDyad_bad hr hm).mono fun _ _ ⟨he, hb⟩ => ⟨_, 8, he, hid (Ow.nil _ _), hb⟩
noncomputable def Wwr : Walker (List Nat) := ⟨fun xs V z => (V, pnR xs V z), fun xs b => (b, pnR xs (flg b) 1), fun xs d => (d, pdR xs d)⟩
def Wri (g : Nat) (xs : List Nat) (w : World) : Prop := ∃ v, w.heap[g]? = some (.cells #[v] 52 (0, 0)) ∧ Ow w (g + 1) v xs
theorem Ow.blocks {w w' : World} {B : Nat} {v : Value} {xs : List Nat} (h : Ow w B v xs) (hb : ∀ b cs, B ≤ b → w.heap[b]? = some (.cells cs 5 (0, 0)) → w'.heap[b]? = w.heap[b]?) : Ow w' B v xs := by
  refine ⟨⟨h.1.1, ?_⟩, h.2⟩
  rcases h.1.2 with h0 | ⟨k, cap, cur, e, hk, hh, hr⟩
  · exact .inl h0
  · exact .inr ⟨k, cap, cur, e, hk, (hb k cur hk hh).trans hh, hr⟩
theorem wri_ex {g : Nat} {w w1 : World} {xs : List Nat} {u v : Value} (hg : w.heap[g]? = some (.cells #[u] 52 (0, 0))) (hb : Below w.heap.size w w1) (hO : Ow w1 w.heap.size v xs) :
    Wri g xs (w1.setCell ⟨g, 0, none⟩ v) ∧ Ex (fun b => b = g) w (w1.setCell ⟨g, 0, none⟩ v) := by
  have hl := lt_of_heap hg
  have h1 : w1.heap[g]? = some (.cells #[u] 52 (0, 0)) := (hb.block g hl).trans hg
  refine ⟨⟨v, heap_setCell_same w1 g 0 _ _ v h1, (hO.mono (by omega)).blocks fun b cs hb1 _ => Below.heap_setCell _ _ _ b (by show b ≠ g; omega)⟩, ?_⟩
  exact ⟨hb.os, hb.tape, hb.output, by simpa [World.setCell] using hb.size, fun b hbl hne => (Below.heap_setCell w1 ⟨g, 0, none⟩ v b hne).trans (hb.block b hbl)⟩
set_option maxHeartbeats 3200000 in
theorem wnum_any {g : Nat} {w : World} {xs : List Nat} (h : Wri g xs w) (V z : Nat) (hV : V < 4294967296) (zi : Int) (hzi : (z : Int) = zi) :
    Calls Tryz.prog 18 #[.pointer (some ⟨g, 0, none⟩), .int .u64 (V : Int), .int .i64 zi] w fun e w' => e = .returned (.int .u64 (V : Int)) ∧ Hid (Wri g (pnR xs V z) w') ∧ Hid (Ex (fun b => b = g) w w') := by
  obtain ⟨v, hg, hO⟩ := h
  obtain ⟨A, c, rfl, hB⟩ := hO.shape
  have C := hid (PutNumber_r hB V z (by omega) zi hzi)
  have c0 := row_c hg 0
  have Hg := hid hg
  have f0 : Hid (∀ w1, Below w.heap.size w w1 → w1.frozen? ⟨g, 0, none⟩ = false ∧ w1.cell? ⟨g, 0, none⟩ = some (.slice A xs.length c)) := hid fun w1 hb => by
    have h1 := (hb.block g (lt_of_heap hg)).trans hg
    exact ⟨row_f h1 0, row_c h1 0⟩
  clear hg hO hB
  go_enter Tryz.func18, Tryz.ntmps18
  go_wp2_with fail
  refine C.out.mono ?_
  rintro e w1 ⟨v, er, rfl, hO1, hb1⟩
  obtain ⟨f1, f2⟩ := f0.out _ hb1.out
  obtain ⟨A', c', rfl, _⟩ := hO1.out.shape
  have HR := hid (wri_ex Hg.out hb1.out hO1.out)
  clear f0 c0
  go_wp2
  go_ret
  exact ⟨rfl, hid HR.out.1, hid HR.out.2⟩
theorem Wri.far {g k : Nat} {w w' : World} {xs : List Nat} {s : Bool} {v : Value} {x : Int} (h : Wri g xs w) (hk : Dbox w k s v x) (hne : k ≠ g) (hb : ∀ b, b ≠ k → w'.heap[b]? = w.heap[b]?) : Wri g xs w' := by
  obtain ⟨u, hg, hO⟩ := h
  refine ⟨u, (hb g (Ne.symm hne)).trans hg, hO.blocks fun b cs _ hbb => hb b ?_⟩
  rintro rfl
  unfold Dbox at hk
  rw [hk] at hbb
  injection hbb with hbb
  injection hbb with _ ht
  exact absurd ht (by decide)
set_option maxHeartbeats 3200000 in
theorem wflag_any {g : Nat} {w : World} {xs : List Nat} (h : Wri g xs w) (b : Bool) :
    Calls Tryz.prog 19 #[.pointer (some ⟨g, 0, none⟩), .bool b] w fun e w' => e = .returned (.bool b) ∧ Hid (Wri g (pnR xs (flg b) 1) w') ∧ Hid (Ex (fun b => b = g) w w') := by
  cases b with
  | false =>
    have C := hid (wnum_any h 0 1 (by omega) 1 rfl)
    clear h
    go_enter Tryz.func19, Tryz.ntmps19
    go_wp2_with fail
    refine C.out.mono ?_
    rintro e w1 ⟨rfl, h1, h2⟩
    go_wp2
    go_ret
    exact ⟨rfl, h1, h2⟩
  | true =>
    have C := hid (wnum_any h 1 1 (by omega) 1 rfl)
    clear h
    go_enter Tryz.func19, Tryz.ntmps19
    go_wp2_with fail
    refine C.out.mono ?_
    rintro e w1 ⟨rfl, h1, h2⟩
    go_wp2
    go_ret
    exact ⟨rfl, h1, h2⟩
set_option maxHeartbeats 6400000 in
theorem wdyad_any {g : Nat} {w : World} {xs : List Nat} (h : Wri g xs w) {D : Dy} {d : Ddy} (hd : DV D d) (hr : Rd w w.heap.size D.A D.n D.c D.f) :
    Calls Tryz.prog 20 #[.pointer (some ⟨g, 0, none⟩), dyv D] w fun e w' => e = .returned (dyv D) ∧ Hid (Wri g (pdR xs d) w') ∧ Hid (Ex (fun b => b = g) w w') := by
  obtain ⟨v, hg, hO⟩ := h
  obtain ⟨A, c, rfl, hB⟩ := hO.shape
  have hgl := lt_of_heap hg
  obtain ⟨w1, hw1⟩ : ∃ w1, w1 = (w.alloc (.cells #[.bool D.s, .slice D.A D.n D.c, .int .i64 D.x] 24)).alloc (.cells #[.bool false, .slice none 0 0, .int .i64 0] 24) := ⟨_, rfl⟩
  have B0 := hid (show Below w.heap.size w w1 from hw1 ▸ ((Below.refl _ w).alloc (Nat.le_refl _) _).alloc (by simp) _)
  have P0 : Hid (Dbox w1 w.heap.size D.s (.slice D.A D.n D.c) D.x) := hid (hw1 ▸ (Below.heap_alloc _ _ _ (by simp)).trans (heap_alloc_new w _))
  have P1 : Hid (Dbox w1 (w.heap.size + 1) false (.slice none 0 0) 0) := hid (hw1 ▸ heap_alloc2_new w _ _)
  have hg1 := (B0.out.block g hgl).trans hg
  have BX := hid (show Below w1.heap.size w1 w1.drew from (Below.refl _ w1).drew)
  have C := hid (show ∀ X, Below w1.heap.size w1 X → _ from fun X hb => PutDyad_r (w := X) ((hB.below (B0.out.trans (hb.mono B0.out.size))).mono (Nat.le_trans B0.out.size hb.size)) hd ((hr.below (B0.out.trans (hb.mono B0.out.size))).mono (Nat.le_trans B0.out.size hb.size)))
  have HW := hid hw1
  have Hg := hid hg
  have Hgl := hid hgl
  have c0 := row_c hg1 0
  have b0 := P0.out.c0
  have b1 := P0.out.c1
  have b2 := P0.out.c2
  have HR := hid (show ∀ X Y v, Below w1.heap.size w1 X → Below X.heap.size X Y → Ow Y X.heap.size v (pdR xs d) → Wri g (pdR xs d) (Y.setCell ⟨g, 0, none⟩ v) ∧ Ex (fun b => b = g) X (Y.setCell ⟨g, 0, none⟩ v) from fun X Y v hb hy ho => wri_ex ((hb.block g (lt_of_heap hg1)).trans hg1) hy ho)
  have HF := hid (show ∀ X, Below w1.heap.size w1 X → X.frozen? ⟨g, 0, none⟩ = false ∧ X.cell? ⟨g, 0, none⟩ = some (.slice A xs.length c) from fun X hb => have h1 := (hb.block g (lt_of_heap hg1)).trans hg1; ⟨row_f h1 0, row_c h1 0⟩)
  clear hw1 hg hO hB hgl hr hd hg1
  go_enter Tryz.func20, Tryz.ntmps20
  go_upto_region 1 with fail
  rw [← HW.out]
  clear HW
  go_region_law (first
    | (go_simp
       go_at_call 47
       refine (C.out _ BX.out).mono ?_
       rintro e w2 ⟨v, er, rfl, hO1, hb1⟩
       obtain ⟨A', c', rfl, _⟩ := hO1.out.shape
       obtain ⟨f1, f2⟩ := HF.out _ (BX.out.trans (hb1.out.mono BX.out.size))
       have HQ := hid (HR.out _ _ _ BX.out hb1.out hO1.out))
    | fail)
  all_goals
    have hgl := Hgl.out
    have KB := BX.out.trans (hb1.out.mono BX.out.size)
    have Q0 : Hid (Dbox _ w.heap.size D.s (.slice D.A D.n D.c) D.x) := hid (far1 (P0.out.below KB P0.out.lt) (show w.heap.size ≠ g by omega) 0 (.slice A' (pdR xs d).length c'))
    have Q1 : Hid (Dbox _ (w.heap.size + 1) false (.slice none 0 0) 0) := hid (far1 (P1.out.below KB P1.out.lt) (show w.heap.size + 1 ≠ g by omega) 0 (.slice A' (pdR xs d).length c'))
    have HQ1 := hid HQ.out.1
    have HQ2 := hid (((Ex.of_below B0.out).trans (Ex.refl _ w1).drew).trans HQ.out.2)
    clear KB HQ hO1 hb1 f1 f2 b0 b1 b2 c0 C HR HF
    generalize w2.setCell ⟨g, 0, none⟩ (.slice A' (pdR xs d).length c') = W2 at *
    have b0 := Q0.out.c0
    have b1 := Q0.out.c1
    have b2 := Q0.out.c2
    have e0 := Q1.out.c0
    have e1 := Q1.out.c1
    have e2 := Q1.out.c2
    have f0 := Q1.out.frozen 0
    have f1 := Q1.out.frozen 1
    have f2 := Q1.out.frozen 2
    go_wp2
    refine ret_one rfl (by rfl) rfl Q1.out.store ⟨rfl, ?_, ?_⟩
    · exact hid (HQ1.out.far Q1.out (by omega) (fun b hb => oth3 hb 0 1 2 _ _ _))
    · exact hid (ex_put3 HQ2.out (g := w.heap.size + 1) (by omega) 0 1 2 _ _ _)
theorem wlk_wr {g : Nat} (Ba : Nat) (hBa : Ba ≤ g) : Wlk Wwr (fun b => b = g) Ba (g + 1) (fun xs w => Wri g xs w ∧ Ba ≤ w.heap.size) (fun _ _ => True) 18 19 20 #[.pointer (some ⟨g, 0, none⟩)] where
  gB := fun b h => by subst h; omega
  ab := by omega
  dz := fun _ => trivial
  en := enters_of Tryz.func18 (by kernel_rfl) rfl
  ef := enters_of Tryz.func19 (by kernel_rfl) rfl
  ed := enters_of Tryz.func20 (by kernel_rfl) rfl
  inv := fun s w w' h ha => ⟨by
    obtain ⟨⟨v, hg, hO⟩, _⟩ := h
    exact ⟨v, (ha.block g (lt_of_heap hg) (.inl (by omega))).trans hg, hO.blocks fun b cs _ hb => ha.block b (lt_of_heap hb) (.inr fun cs' t ht e => by rw [hb] at e; injection e with e; injection e with _ e2; exact wty_u8 (e2 ▸ ht))⟩, Nat.le_trans h.2 ha.size⟩
  dal := fun _ _ _ _ _ => trivial
  dex := fun _ _ _ _ _ => trivial
  num := fun s w V z h _ hV _ _ => (wnum_any h.1 V z hV z rfl).mono (by rintro e w' ⟨rfl, h1, h2⟩; exact ⟨V, rfl, hid ⟨rfl, hV⟩, hid ⟨h1.out, Nat.le_trans h.2 h2.out.size⟩, h2⟩)
  flag := fun s w b h _ => (wflag_any h.1 b).mono (by rintro e w' ⟨rfl, h1, h2⟩; exact ⟨b, rfl, hid rfl, hid ⟨h1.out, Nat.le_trans h.2 h2.out.size⟩, h2⟩)
  dyad := fun s w D d h hB hd hr => (wdyad_any h.1 hd (hr.mono h.2)).mono (by rintro e w' ⟨rfl, h1, h2⟩; exact ⟨D, rfl, hid hd, hid trivial, hid ⟨h1.out, Nat.le_trans h.2 h2.out.size⟩, h2⟩)
open Go.RowKit Go.Shelf Go.Lib
set_option maxRecDepth 100000
def Wid : Walker Unit := ⟨fun s V _ => (V, s), fun s b => (b, s), fun s d => (d, s)⟩
theorem used1_any (V z : Int) (w : World) : Calls Tryz.prog 79 #[.int .u64 V, .int .i64 z] w fun e w' => e = .returned (.int .u64 V) ∧ w = w' := by
  go_enter Tryz.func79, Tryz.ntmps79
  go_wp2
  go_ret
  exact ⟨rfl, rfl⟩
theorem used2_any (b : Bool) (w : World) : Calls Tryz.prog 80 #[.bool b] w fun e w' => e = .returned (.bool b) ∧ w = w' := by
  go_enter Tryz.func80, Tryz.ntmps80
  go_wp2
  go_ret
  exact ⟨rfl, rfl⟩
set_option maxHeartbeats 1600000 in
theorem used3_any (D : Dy) (w : World) : Calls Tryz.prog 81 #[dyv D] w fun e w' => e = .returned (dyv D) ∧ Hid (Below w.heap.size w w') := by
  obtain ⟨w1, hw1⟩ : ∃ w1, w1 = (w.alloc (.cells #[.bool D.s, .slice D.A D.n D.c, .int .i64 D.x] 24)).alloc (.cells #[.bool false, .slice none 0 0, .int .i64 0] 24) := ⟨_, rfl⟩
  have B0 := hid (show Below w.heap.size w w1 from hw1 ▸ ((Below.refl _ w).alloc (Nat.le_refl _) _).alloc (by simp) _)
  have P0 : Hid (Dbox w1 w.heap.size D.s (.slice D.A D.n D.c) D.x) := hid (hw1 ▸ (Below.heap_alloc _ _ _ (by simp)).trans (heap_alloc_new w _))
  have P1 : Hid (Dbox w1 (w.heap.size + 1) false (.slice none 0 0) 0) := hid (hw1 ▸ heap_alloc2_new w _ _)
  have HW := hid hw1
  have b0 := P0.out.c0
  have b1 := P0.out.c1
  have b2 := P0.out.c2
  have e0 := P1.out.c0
  have e1 := P1.out.c1
  have e2 := P1.out.c2
  have f0 := P1.out.frozen 0
  have f1 := P1.out.frozen 1
  have f2 := P1.out.frozen 2
  clear hw1
  go_enter Tryz.func81, Tryz.ntmps81
  go_upto_region 1 with fail
  rw [← HW.out]
  clear HW
  go_wp2
  refine ret_one rfl (by rfl) rfl P1.out.store ⟨rfl, ?_⟩
  exact hid (below_put3 B0.out (by omega))
theorem lt_of_cell {w : World} {b j : Nat} {v : Value} (h : w.cell? ⟨b, j, none⟩ = some v) : b < w.heap.size := by
  rcases Nat.lt_or_ge b w.heap.size with hl | hl
  · exact hl
  · have e : w.heap[b]? = none := Array.getElem?_eq_none hl
    simp [World.cell?, e] at h
theorem Rd.blocks {w w' : World} {B n c : Nat} {A : Option Addr} {f : Nat → Nat} (h : Rd w B A n c f) (hb : ∀ b, b < B → b < w.heap.size → w'.heap[b]? = w.heap[b]?) : Rd w' B A n c f :=
  ⟨h.cap, h.max, h.lt, h.out, fun hn => by
    obtain ⟨b, off, rfl, hB, hc⟩ := h.at_ hn
    exact ⟨b, off, rfl, hB, fun j hj => (World.cell?_of_block (a := ⟨b, off + j, none⟩) (hb b hB (lt_of_cell (hc j hj)))).trans (hc j hj)⟩⟩
theorem wlk_id (B : Nat) : Wlk Wid (fun _ => False) B B (fun _ _ => True) (fun w D => Rd w B D.A D.n D.c D.f) 79 80 81 #[] where
  gB := fun b h => h.elim
  ab := Nat.le_refl _
  dz := fun w => Rd.nil w B
  en := enters_of Tryz.func79 (by kernel_rfl) rfl
  ef := enters_of Tryz.func80 (by kernel_rfl) rfl
  ed := enters_of Tryz.func81 (by kernel_rfl) rfl
  inv := fun _ _ _ h _ => h
  dal := fun w w' D h ha => h.blocks fun b hb hl => ha.block b hl (.inl hb)
  dex := fun w w' D h hx => h.blocks fun b _ hl => hx.block b hl (fun h => h)
  num := fun s w V z _ _ hV _ _ => (used1_any V z w).mono (by rintro e w' ⟨rfl, rfl⟩; exact ⟨V, rfl, hid ⟨rfl, hV⟩, hid trivial, hid (Ex.refl _ _)⟩)
  flag := fun s w b _ _ => (used2_any b w).mono (by rintro e w' ⟨rfl, rfl⟩; exact ⟨b, rfl, hid rfl, hid trivial, hid (Ex.refl _ _)⟩)
  dyad := fun s w D d _ _ hd hr => (used3_any D w).mono (by rintro e w' ⟨rfl, hb⟩; exact ⟨D, rfl, hid hd, hid (hr.blocks fun b _ hl => hb.out.block b hl), hid trivial, hid (Ex.of_below hb.out)⟩)
open Go.RowKit Go.Shelf Go.Lib
def ddy (d : Dy) : Ddy := ⟨d.s, d.n, d.f, d.x.toNat⟩
def mlOf (m : Md) (l : List De) (t : Nat → Nat) : Ml := ⟨m.kd, m.fr, m.tu, m.ep, m.nu, m.ab, ddy (m.D 0), ddy (m.D 1), ddy (m.D 2), ddy (m.D 3), m.wa, l, m.ha, m.mn, m.mx, (List.range m.k).map t⟩
def UseOk (M : Ml) : Prop := (M.kd = 3 ∨ M.kd = 4 ∨ M.ab = 0) ∧ (M.kd = 1 ∨ (M.S = d0z ∧ M.W = d0z)) ∧ (M.kd = 2 ∨ M.kd = 3 ∨ (M.C = d0z ∧ M.A = d0z)) ∧ (M.kd = 5 ∨ (M.wa = false ∧ M.ls = [])) ∧ (M.kd = 6 ∨ (M.ha = false ∧ M.mn = 0 ∧ M.mx = 0 ∧ M.le = []))
theorem dy_ext {D E : Ddy} (h1 : D.s = E.s) (h2 : D.n = E.n) (h3 : ∀ j, D.f j = E.f j) (h4 : D.x = E.x) : D = E := by
  obtain ⟨s, n, f, x⟩ := D
  obtain ⟨s', n', f', x'⟩ := E
  dsimp only at h1 h2 h3 h4
  subst h1 h2 h4
  obtain rfl : f = f' := funext h3
  rfl
theorem ddy_zero {w : World} {B : Nat} {d : Dy} (h : Rd w B d.A d.n d.c d.f) (hx : 0 ≤ d.x) : ddy d = d0z ↔ Zd d := by
  constructor
  · intro e
    have e1 := congrArg Ddy.s e
    have e2 := congrArg Ddy.n e
    have e3 := congrArg Ddy.x e
    simp only [ddy, d0z] at e1 e2 e3
    exact ⟨e1, by omega, e2⟩
  · rintro ⟨h1, h2, h3⟩
    exact dy_ext h1 h3 (fun j => h.out j (by rw [h3]; exact Nat.zero_le _)) (by show d.x.toNat = 0; omega)
theorem range_map_get (n : Nat) (t : Nat → Nat) (ht : ∀ j, n ≤ j → t j = 0) (j : Nat) : (((List.range n).map t)[j]?).getD 0 = t j := by
  rcases Nat.lt_or_ge j n with h | h
  · rw [List.getElem?_map, List.getElem?_range h]
    rfl
  · rw [List.getElem?_eq_none (by simpa using h), ht j h]
    rfl
theorem pmay_iff {w : World} {B : Nat} {m : Md} {l : List De} {t : Nat → Nat} (h : Prd w B m l t) : PMay m l t ↔
    (((1 ≤ m.kd ∧ m.kd ≤ 6) ∧ (0 ≤ m.fr ∧ m.fr ≤ 7) ∧ (0 ≤ m.tu ∧ m.tu ≤ 7) ∧ (0 ≤ m.ep ∧ m.ep ≤ 65535) ∧ (0 ≤ m.nu ∧ m.nu ≤ 1048575)) ∧ ((0 ≤ m.ab ∧ m.ab ≤ 1048575) ∧ MMay m.D ∧ kchk l = 0 ∧ EMay m.ha m.mn m.mx ∧ LMay m.k t)) ∧ UseOk (mlOf m l t) := by
  have key : MMay m.D → ∀ k, k < 4 → (ddy (m.D k) = d0z ↔ Zd (m.D k)) := fun hm k hk => ddy_zero (h.ms k hk) (hm k hk).2.1
  have hl : l = [] ↔ m.n = 0 := ⟨fun e => by rw [← h.ls.len, e]; rfl, fun e => List.length_eq_zero_iff.1 (h.ls.len.trans e)⟩
  have ht : (List.range m.k).map t = [] ↔ m.k = 0 := by simp
  constructor
  · rintro ⟨h1, ⟨h2, h3, h4, h5, h6⟩, h7, h8, h9, h10, h11, h12, h13, h14, h15⟩
    refine ⟨⟨⟨h1, by omega, by omega, by omega, by omega⟩, by omega, h8, h9, h10, h11⟩, h7, ?_, ?_, ?_, ?_⟩
    · exact h12.imp id fun ⟨a, b⟩ => ⟨(key h8 0 (by omega)).2 a, (key h8 1 (by omega)).2 b⟩
    · exact h13.imp id fun h13 => h13.imp id fun ⟨a, b⟩ => ⟨(key h8 2 (by omega)).2 a, (key h8 3 (by omega)).2 b⟩
    · exact h14.imp id fun ⟨a, b⟩ => ⟨a, hl.2 b⟩
    · refine h15.imp id fun ⟨a, b⟩ => ?_
      unfold EMay at h10
      rw [if_neg (by rw [a]; decide)] at h10
      exact ⟨a, h10.1, h10.2, ht.2 b⟩
  · rintro ⟨⟨⟨h1, h2, h3, h4, h5⟩, h6, h8, h9, h10, h11⟩, h7, h12, h13, h14, h15⟩
    refine ⟨h1, ⟨by omega, by omega, by omega, by omega, by omega⟩, h7, h8, h9, h10, h11, ?_, ?_, ?_, ?_⟩
    · exact h12.imp id fun ⟨a, b⟩ => ⟨(key h8 0 (by omega)).1 a, (key h8 1 (by omega)).1 b⟩
    · exact h13.imp id fun h13 => h13.imp id fun ⟨a, b⟩ => ⟨(key h8 2 (by omega)).1 a, (key h8 3 (by omega)).1 b⟩
    · exact h14.imp id fun ⟨a, b⟩ => ⟨a, hl.1 b⟩
    · exact h15.imp id fun ⟨a, _, _, b⟩ => ⟨a, ht.1 b⟩
open Go.RowKit Go.Shelf Go.Lib
set_option maxRecDepth 100000
theorem Ot.rd {w : World} {B n c : Nat} {A : Option Addr} {l : List Nat} (h : Ot w B (.slice A n c) l) : l.length = n ∧ Rd w w.heap.size A n c (fun j => (l[j]?).getD 0) := by
  obtain ⟨A', n', c', e, _, hu, _, _⟩ := h.form
  injection e with e1 e2 e3
  subst e1 e2 e3
  refine ⟨hu.len, hu.cap, hu.max, fun j => ?_, fun j hj => ?_, fun hn => ?_⟩
  · cases hj : l[j]? with
    | none => show 0 < 4294967296; omega
    | some x => exact h.fit x (List.mem_of_getElem? hj)
  · show (l[j]?).getD 0 = 0
    rw [List.getElem?_eq_none (by rw [hu.len]; exact hj)]
    rfl
  · obtain ⟨b, off, rfl, hb, hc⟩ := hu.at_ hn
    refine ⟨b, off, rfl, hb, fun j hj => ?_⟩
    have hx : l[j]? = some (l[j]'(by rw [hu.len]; exact hj)) := List.getElem?_eq_getElem _
    have hy := hc j _ hx
    rw [hy, hx]
    rfl
theorem Od.ds {w : World} {B n c : Nat} {A : Option Addr} {l : List De} (h : Od w B (.slice A n c) l) : Ds w w.heap.size A n c l := by
  obtain ⟨A', c', e, hd, _, _⟩ := h.form
  injection e with e1 e2 e3
  subst e1 e2 e3
  exact hd
theorem Out.prd {Dv : World → Dy → Prop} {w : World} {B : Nat} {m : Md} {M : Ml} (h : Out Dv w B m M) (hk : M.kd < 256) (hd : ∀ D, Dv w D → Rd w w.heap.size D.A D.n D.c D.f) : Prd w w.heap.size m M.ls (fun j => (M.le[j]?).getD 0) :=
  ⟨by rw [h.kd]; exact hk, fun k hk4 => hd _ (h.dv k hk4), h.ls.ds, h.tg.rd.2⟩
theorem Arg.of {w : World} {B : Nat} {m : Md} {l : List De} {t : Nat → Nat} (h : Prd w B m l t) (hx : ∀ k, k < 4 → 0 ≤ (m.D k).x) : Arg w B m (mlOf m l t) :=
  have dd : ∀ k, k < 4 → DV (m.D k) (ddy (m.D k)) := fun k hk => ⟨rfl, rfl, rfl, by have := hx k hk; show (m.D k).x = ((m.D k).x.toNat : Int); omega⟩
  ⟨rfl, rfl, rfl, rfl, rfl, rfl, h.ms, dd 0 (by omega), dd 1 (by omega), dd 2 (by omega), dd 3 (by omega), rfl, h.ls, rfl, rfl, rfl, ⟨t, h.tg, fun j => (range_map_get m.k t h.tg.out j).symm⟩, by show ((List.range m.k).map t).length = m.k; simp⟩
theorem lis_id {l : List De} (h : ∀ d ∈ l, 0 ≤ d.1 ∧ d.1 < 4294967296 ∧ 0 ≤ d.2 ∧ d.2 < 4294967296) : ∀ k, k ≤ l.length → (lisP Wid l () k).1 = l.take k
  | 0, _ => rfl
  | k + 1, hk => by
    show (lisP Wid l () k).1 ++ [_] = _
    rw [lis_id h k (by omega), List.take_add_one, List.getElem?_eq_getElem (show k < l.length by omega)]
    obtain ⟨h1, _, h2, _⟩ := h _ (List.getElem_mem (show k < l.length by omega))
    refine congrArg (fun d => l.take k ++ [d]) (Prod.ext ?_ ?_)
    · show ((((l[k]'(by omega)).1.toNat : Nat)) : Int) = (l[k]'(by omega)).1
      omega
    · show ((((l[k]'(by omega)).2.toNat : Nat)) : Int) = (l[k]'(by omega)).2
      omega
theorem tgs_id (l : List Nat) : ∀ k, k ≤ l.length → (tgsP Wid l () k).1 = l.take k
  | 0, _ => rfl
  | k + 1, hk => by
    show (tgsP Wid l () k).1 ++ [_] = _
    rw [tgs_id l k (by omega), List.take_add_one, List.getElem?_eq_getElem (show k < l.length by omega)]
    rfl
theorem toNat_cast {x : Int} (h : 0 ≤ x) : ((x.toNat : Nat) : Int) = x := by omega
theorem used_iff {M : Ml} (h : AlOk Wid () M) (h6 : 1 ≤ M.kd ∧ M.kd ≤ 6) : (alongP Wid () M).1 = M ↔ UseOk M := by
  obtain ⟨kd, fr, tu, ep, nu, ab, S, W, C, A, wa, ls, ha, mn, mx, le⟩ := M
  obtain ⟨_, ⟨f1, _⟩, ⟨t1, _⟩, ⟨e1, _⟩, ⟨n1, _⟩, ⟨a1, _⟩, hls, _, ⟨m1, _⟩, ⟨x1, _⟩, _, _⟩ := h
  dsimp only at *
  have hL := lis_id hls ls.length (Nat.le_refl _)
  have hT := tgs_id le le.length (Nat.le_refl _)
  rw [List.take_length] at hL hT
  have hh : headP Wid () ⟨kd, fr, tu, ep, nu, ab, S, W, C, A, wa, ls, ha, mn, mx, le⟩ = ((fr.toNat, tu.toNat, ep.toNat, nu.toNat), ()) := rfl
  have hc : kd = 1 ∨ kd = 2 ∨ kd = 3 ∨ kd = 4 ∨ kd = 5 ∨ kd = 6 := by omega
  unfold alongP kindP hedP UseOk
  rw [hh]
  have cfr := toNat_cast f1
  have ctu := toNat_cast t1
  have cep := toNat_cast e1
  have cnu := toNat_cast n1
  have cab := toNat_cast a1
  rcases hc with rfl | rfl | rfl | rfl | rfl | rfl
  · simp [Wid, mz, cfr, ctu, cep, cnu, eq_comm, and_assoc]
  · simp [Wid, mz, cfr, ctu, cep, cnu, eq_comm, and_assoc]
  · simp [Wid, mz, cfr, ctu, cep, cnu, cab, eq_comm, and_assoc]
  · simp [Wid, mz, cfr, ctu, cep, cnu, cab, eq_comm, and_assoc]
  · simp only [Wid] at hL
    simp [Wid, mz, cfr, ctu, cep, cnu, hL, eq_comm, and_assoc]
  · simp only [Wid] at hT
    simp [Wid, mz, cfr, ctu, cep, cnu, hT, edgP, eq_comm, and_assoc]
    intros
    omega
set_option maxHeartbeats 6400000 in
theorem used_any {w : World} {m : Md} {M : Ml} (ha : Arg w w.heap.size m M) (hk : AlOk Wid () M) :
    Calls Tryz.prog 37 #[.agg (mdc m)] w fun e w' => ∃ m', e = .returned (.agg (mdc m')) ∧ Hid (Out (fun X D => Rd X w.heap.size D.A D.n D.c D.f) w' w.heap.size m' (alongP Wid () M).1) ∧ Hid (Below w.heap.size w w') := by
  obtain ⟨w1, hw1⟩ : ∃ w1, w1 = (w.alloc (.cells (mdc m) 31)).alloc (.cells (mdc (Mz 0)) 31) := ⟨_, rfl⟩
  have B0 := hid (show Below w.heap.size w w1 from hw1 ▸ ((Below.refl _ w).alloc (Nat.le_refl _) _).alloc (by simp) _)
  have P0 := hid (show Pbox w1 w.heap.size m from hw1 ▸ (Below.heap_alloc _ _ _ (by simp)).trans (heap_alloc_new w _))
  have P1 := hid (show Pbox w1 (w.heap.size + 1) (Mz 0) from hw1 ▸ heap_alloc2_new w _ _)
  have HW := hid hw1
  have HS1 := hid (show w1.heap.size = w.heap.size + 2 by rw [hw1]; simp)
  have HA : Arg w1 w.heap.size m M := ⟨ha.kd, ha.fr, ha.tu, ha.ep, ha.nu, ha.ab, fun k hk => (ha.rd k hk).below B0.out, ha.S, ha.W, ha.C, ha.A, ha.wa, ha.ls.below B0.out, ha.ha, ha.mn, ha.mx, by obtain ⟨t, h1, h2⟩ := ha.tg; exact ⟨t, h1.below B0.out, h2⟩, ha.tn⟩
  have CA := hid (along_any (wlk_id w.heap.size) (s := ()) (w := w1) trivial B0.out.size HA hk)
  clear hw1 HA ha hk
  go_enter Tryz.func37, Tryz.ntmps37
  go_upto_region 1 with fail
  change Code.wp _ _ _ _ ((w.alloc (.cells (mdc m) 31)).alloc (.cells (mdc (Mz 0)) 31))
  rw [← HW.out]
  clear HW
  go_wp2_with (first | (refine wp_pload rfl (.tmp 1) (by with_reducible rfl) w.heap.size m (by rfl) P0.out ?_) | fail)
  refine CA.out.mono ?_
  rintro e w2 ⟨m', rfl, hO, _, hE⟩
  have hb := hE.out.below (Nat.le_refl _) (fun b hb => hb.elim)
  have P2 := hid (P1.out.below hb P1.out.lt)
  have B2 := hid (B0.out.trans (hb.mono B0.out.size))
  clear hE
  go_wp2_with (first | (refine wp_pstore rfl (.tmp 2) (.tmp 5) (by with_reducible rfl) (w.heap.size + 1) (Mz 0) m' (by rfl) (by rfl) P2.out ?_) | fail)
  have hw := wr_pstore w2 (w.heap.size + 1) m'
  have hs1 := HS1.out
  have h1 := (hO.out.wr (wlk_id w.heap.size) hw (by omega) (by omega) P2.out).mono (show w.heap.size ≤ w1.heap.size by omega)
  have h2 := hw.ex (G := fun _ => False) (Ex.of_below B2.out) (by omega)
  refine ret_mail1 rfl (by rfl) rfl (P2.out.store m') ⟨_, rfl, hid h1, hid (h2.below (Nat.le_refl _) (fun b hb => hb.elim))⟩
end Go.Proofs.YtbankbehfjogpaaGreat
