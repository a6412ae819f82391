/- Package dyad: Cmp. -/
import Derived.Test.YtjppogmhibmebaaDoorDcmp
import Derived.Deep.RegionHeld3
namespace Go.Proofs.YtjppogmhibmebaaDoor
open Go.RowKit

section
variable {w : World} {A D : Option Addr} {n c k d : Nat} {f h : Nat → Nat} {s t : Bool}
set_option maxHeartbeats 6400000 in
theorem dcmp_ok {X Y : Nat} (ha : Rd w w.heap.size A n c f) (hb : Rd w w.heap.size D k d h) (hf : Fit n f) (hh : Fit k h) (hc : Canon s (vl f n) X) (hX : X ≤ 1024) (hc2 : Canon t (vl h k) Y) (hY : Y ≤ 1024) :
    Calls Tryd.prog 15 #[.agg #[.bool s, .slice A n c, .int .i64 (X : Int)], .agg #[.bool t, .slice D k d, .int .i64 (Y : Int)]] w fun e w' => e = .returned (.tuple #[.int .i64 (cmpI (dv s (vl f n) X) (dv t (vl h k) Y)), .int .i64 0]) ∧ Hid (Below w.heap.size w w') := by
  have hm1 := canon_may hf hc hX
  have hm2 := canon_may hh hc2 hY
  have B0 := hid ((((Below.refl w.heap.size w).alloc (Nat.le_refl _) (.cells #[.bool s, .slice A n c, .int .i64 (X : Int)] 24)).alloc (by simp) (.cells #[.bool t, .slice D k d, .int .i64 (Y : Int)] 24)).alloc (by simp <;> omega) (.cells #[.bool s, .slice A n c, .int .i64 (X : Int), .bool t, .slice D k d, .int .i64 (Y : Int)] 24))
  have P0 : Hid (Dbox _ w.heap.size s (.slice A n c) (X : Int)) := heap3_0 w (.cells #[.bool s, .slice A n c, .int .i64 (X : Int)] 24) (.cells #[.bool t, .slice D k d, .int .i64 (Y : Int)] 24) (.cells #[.bool s, .slice A n c, .int .i64 (X : Int), .bool t, .slice D k d, .int .i64 (Y : Int)] 24)
  have P1 : Hid (Dbox _ (w.heap.size + 1) t (.slice D k d) (Y : Int)) := heap3_1 w (.cells #[.bool s, .slice A n c, .int .i64 (X : Int)] 24) (.cells #[.bool t, .slice D k d, .int .i64 (Y : Int)] 24) (.cells #[.bool s, .slice A n c, .int .i64 (X : Int), .bool t, .slice D k d, .int .i64 (Y : Int)] 24)
  have hrow := heap3_2 w (.cells #[.bool s, .slice A n c, .int .i64 (X : Int)] 24) (.cells #[.bool t, .slice D k d, .int .i64 (Y : Int)] 24) (.cells #[.bool s, .slice A n c, .int .i64 (X : Int), .bool t, .slice D k d, .int .i64 (Y : Int)] 24)
  have Q1 := hid ((ha.asks s (X : Int)).below B0.out)
  have Q2 := hid ((hb.asks t (Y : Int)).below B0.out)
  rw [bool_of_not (not_not_intro hm1)] at Q1
  rw [bool_of_not (not_not_intro hm2)] at Q2
  have C1 := hid (danybad_two (w.heap.size + 2) _ _ _ _ _ _ _ _ _ ((cell_of_row _ _ 0 _ _ (0, 0) hrow).trans rfl) ((cell_of_row _ _ 1 _ _ (0, 0) hrow).trans rfl) ((cell_of_row _ _ 2 _ _ (0, 0) hrow).trans rfl) ((cell_of_row _ _ 3 _ _ (0, 0) hrow).trans rfl) ((cell_of_row _ _ 4 _ _ (0, 0) hrow).trans rfl) ((cell_of_row _ _ 5 _ _ (0, 0) hrow).trans rfl) Q1 Q2)
  have VA := hid (show Val w (vl f n) (.slice A n c) from ⟨A, n, c, f, rfl, ha, hf, rfl⟩)
  have VB := hid (show Val w (vl h k) (.slice D k d) from ⟨D, k, d, h, rfl, hb, hh, rfl⟩)
  have hn := vl_zero_iff hf
  have hk := vl_zero_iff hh
  have ham := ha.max
  have hbm := hb.max
  have hs1 : vl f n = 0 → s = false := fun e => (hc.1 e).1
  have hs2 : vl h k = 0 → t = false := fun e => (hc2.1 e).1
  have hx1 : vl f n = 0 → X = 0 := fun e => (hc.1 e).2
  have hx2 : vl h k = 0 → Y = 0 := fun e => (hc2.1 e).2
  have Hfacts := hid (And.intro hn (And.intro hk (And.intro hs1 (And.intro hs2 (And.intro hx1 hx2)))))
  clear ha hb hf hh hc hc2 hm1 hm2 Q1 Q2 hrow hn hk hs1 hs2 hx1 hx2
  obtain ⟨V, hV⟩ : ∃ V, V = vl f n := ⟨_, rfl⟩
  obtain ⟨U, hU⟩ : ∃ U, U = vl h k := ⟨_, rfl⟩
  rw [← hV] at VA Hfacts ⊢
  rw [← hU] at VB Hfacts ⊢
  clear hV hU
  obtain ⟨r, hr⟩ : ∃ r, r = cmpI (dv s V X) (dv t U Y) := ⟨_, rfl⟩
  rw [← hr]
  have Hr := hid hr
  clear hr
  go_enter Tryd.func15, Tryd.ntmps15
  go_wp2_with fail
  refine C1.out.mono ?_
  rintro e w1 ⟨rfl, J⟩
  have R0 := hid (P0.out.below J P0.out.lt)
  have R1 := hid (P1.out.below J P1.out.lt)
  have K := hid (B0.out.trans (J.mono B0.out.size))
  clear J B0 C1 P0 P1
  have a0 := R0.out.c0
  have a1 := R0.out.c1
  have a2 := R0.out.c2
  have b0 := R1.out.c0
  have b1 := R1.out.c1
  have b2 := R1.out.c2
  have L0 := hid R0.out.lt
  have L1 := hid R1.out.lt
  have HBz := hid ((Below.refl w1.heap.size w1).drew)
  go_upto_region 3 with fail
  go_region_held3 (fun w' => w'.cell? ⟨w.heap.size, 0, none⟩ = some (.bool s) ∧ w'.cell? ⟨w.heap.size, 1, none⟩ = some (.slice A n c) ∧ w'.cell? ⟨w.heap.size, 2, none⟩ = some (.int .i64 (X : Int)) ∧
      w'.cell? ⟨w.heap.size + 1, 0, none⟩ = some (.bool t) ∧ w'.cell? ⟨w.heap.size + 1, 1, none⟩ = some (.slice D k d) ∧ w'.cell? ⟨w.heap.size + 1, 2, none⟩ = some (.int .i64 (Y : Int)))
    (exact ⟨(HBz.out.cell (p := ⟨_, 0, none⟩) L0.out).trans a0, (HBz.out.cell (p := ⟨_, 1, none⟩) L0.out).trans a1, (HBz.out.cell (p := ⟨_, 2, none⟩) L0.out).trans a2, (HBz.out.cell (p := ⟨_, 0, none⟩) L1.out).trans b0, (HBz.out.cell (p := ⟨_, 1, none⟩) L1.out).trans b1, (HBz.out.cell (p := ⟨_, 2, none⟩) L1.out).trans b2⟩)
    (first
    | (go_at_call_of 40 (Value.agg #[Value.bool s, Value.slice A n c, Value.int IntKind.i64 (X : Int)])
       refine (side_any s A n c _ _ ham).mono ?_
       rintro e wa ⟨rfl, Ba⟩
       have HBz := hid (HBz.out.trans (Ba.out.mono HBz.out.size)))
    | (go_at_call_of 40 (Value.agg #[Value.bool t, Value.slice D k d, Value.int IntKind.i64 (Y : Int)])
       refine (side_any t D k d _ _ hbm).mono ?_
       rintro e wa ⟨rfl, Ba⟩
       have HBz := hid (HBz.out.trans (Ba.out.mono HBz.out.size))))
  all_goals
    have S0 := hid (R0.out.below HBz.out R0.out.lt)
    have S1 := hid (R1.out.below HBz.out R1.out.lt)
    have K := hid (K.out.trans (HBz.out.mono K.out.size))
    clear a0 a1 a2 b0 b1 b2 L0 L1 HBz R0 R1
    by_cases hside : sideI s n = sideI t k
    · obtain ⟨hst, hz⟩ := same_side (fun e => Hfacts.out.2.2.1 (Hfacts.out.1.2 e)) (fun e => Hfacts.out.2.2.2.1 (Hfacts.out.2.1.2 e)) hside
      subst hst
      have h0 : (V = 0 ∧ U = 0 ∧ X = 0 ∧ Y = 0) ∨ (0 < V ∧ 0 < U) := by
        obtain ⟨h1, h2, _, _, h5, h6⟩ := Hfacts.out
        rcases Nat.eq_zero_or_pos V with e | e
        · have e2 := h2.2 (hz.1 (h1.1 e))
          exact .inl ⟨e, e2, h5 e, h6 e2⟩
        · rcases Nat.eq_zero_or_pos U with e2 | e2
          · have e3 := h1.2 (hz.2 (h2.1 e2))
            omega
          · exact .inr ⟨e, e2⟩
      have H0 := hid h0
      rw [hside]
      generalize sideI s k = i1 at *
      clear h0 hz Hfacts hside
      have a0 := S0.out.c0
      have a1 := S0.out.c1
      have a2 := S0.out.c2
      have b0 := S1.out.c0
      have b1 := S1.out.c1
      have b2 := S1.out.c2
      cases s with
      | false =>
        have hr : r = cmpN (V * tp (4000 - X)) (U * tp (4000 - Y)) := by
          rw [Hr.out, ← cmpI_nat]
          rfl
        have Cz := sizes_any (s := false) (t := false) (VA.out.below K.out) (VB.out.below K.out) hX hY H0.out
        rw [← hr] at Cz
        have Cz := hid Cz
        clear hr
        go_wp2_with fail
        refine Cz.out.mono ?_
        rintro e w9 ⟨rfl, J⟩
        have K := hid (K.out.trans (J.out.mono K.out.size))
        clear J Cz
        go_wp2
        go_ret2
        exact ⟨rfl, K⟩
      | true =>
        have hr : r = cmpN (U * tp (4000 - Y)) (V * tp (4000 - X)) := by
          rw [Hr.out, ← neg_cmp]
          rfl
        have i0 := S0.out.frozen 0
        have i1' := S0.out.frozen 1
        have i2 := S0.out.frozen 2
        have j0 := S1.out.frozen 0
        have j1 := S1.out.frozen 1
        have j2 := S1.out.frozen 2
        have Kz : ∀ wz, Below w.heap.size w wz → Calls Tryd.prog 42 #[.agg #[.bool true, .slice D k d, .int .i64 (Y : Int)], .agg #[.bool true, .slice A n c, .int .i64 (X : Int)]] wz fun e w' => e = .returned (.int .i64 r) ∧ Hid (Below wz.heap.size wz w') := fun wz hb => by
          rw [hr]
          exact sizes_any (VB.out.below hb) (VA.out.below hb) hY hX (by rcases H0.out with ⟨e1, e2, e3, e4⟩ | ⟨e1, e2⟩; exact .inl ⟨e2, e1, e4, e3⟩; exact .inr ⟨e2, e1⟩)
        have Kz := hid Kz
        have K2 := hid (below_put3 (s := true) (v := .slice A n c) (x := (X : Int)) (g := w.heap.size + 1) (below_put3 (s := true) (v := .slice D k d) (x := (Y : Int)) K.out (Nat.le_refl w.heap.size)) (by omega))
        clear hr
        go_wp2_with fail
        refine (Kz.out _ K2.out).mono ?_
        rintro e w9 ⟨rfl, J⟩
        have K := hid (K2.out.trans (J.out.mono K2.out.size))
        clear J Kz
        go_wp2
        go_ret2
        exact ⟨rfl, K⟩
    · have hne : (sideI s n == sideI t k) = false := by simp [hside]
      have hne2 : (sideI s n != sideI t k) = true := by simp [hside]
      have hr : cmpI (sideI s n) (sideI t k) = r := by
        rw [Hr.out]
        exact side_cmp Hfacts.out.1 Hfacts.out.2.1 Hfacts.out.2.2.1 Hfacts.out.2.2.2.1 hside
      have Hr2 := hid hr
      clear hr hside Hfacts
      generalize sideI s n = i1 at *
      generalize sideI t k = i2 at *
      go_wp2_with fail
      refine (compare_int _ _ _).mono ?_
      rintro e w9 ⟨rfl, J⟩
      rw [Hr2.out]
      have K := hid (K.out.trans (J.out.mono K.out.size))
      clear J
      go_wp2
      go_ret2
      exact ⟨rfl, K⟩

set_option maxHeartbeats 3200000 in
theorem dcmp_bad {x y : Int} (ha : Rd w w.heap.size A n c f) (hb : Rd w w.heap.size D k d h) (hbad : ¬ (DMay s n f x ∧ DMay t k h y)) :
    Calls Tryd.prog 15 #[.agg #[.bool s, .slice A n c, .int .i64 x], .agg #[.bool t, .slice D k d, .int .i64 y]] w fun e w' => e = .returned (.tuple #[.int .i64 0, .int .i64 8]) ∧ Hid (Below w.heap.size w w') := by
  have B0 := hid ((((Below.refl w.heap.size w).alloc (Nat.le_refl _) (.cells #[.bool s, .slice A n c, .int .i64 x] 24)).alloc (by simp) (.cells #[.bool t, .slice D k d, .int .i64 y] 24)).alloc (by simp <;> omega) (.cells #[.bool s, .slice A n c, .int .i64 x, .bool t, .slice D k d, .int .i64 y] 24))
  have hrow := heap3_2 w (.cells #[.bool s, .slice A n c, .int .i64 x] 24) (.cells #[.bool t, .slice D k d, .int .i64 y] 24) (.cells #[.bool s, .slice A n c, .int .i64 x, .bool t, .slice D k d, .int .i64 y] 24)
  have Q1 := hid ((ha.asks s x).below B0.out)
  have Q2 := hid ((hb.asks t y).below B0.out)
  have C1 := danybad_two (w.heap.size + 2) _ _ _ _ _ _ _ _ _ ((cell_of_row _ _ 0 _ _ (0, 0) hrow).trans rfl) ((cell_of_row _ _ 1 _ _ (0, 0) hrow).trans rfl) ((cell_of_row _ _ 2 _ _ (0, 0) hrow).trans rfl) ((cell_of_row _ _ 3 _ _ (0, 0) hrow).trans rfl) ((cell_of_row _ _ 4 _ _ (0, 0) hrow).trans rfl) ((cell_of_row _ _ 5 _ _ (0, 0) hrow).trans rfl) Q1 Q2
  rw [show (decide (¬ DMay s n f x) || decide (¬ DMay t k h y)) = true by
    by_cases h1 : DMay s n f x
    · by_cases h2 : DMay t k h y
      · exact absurd ⟨h1, h2⟩ hbad
      · simp [h2]
    · simp [h1]] at C1
  have C1 := hid C1
  clear ha hb hbad Q1 Q2 hrow
  go_enter Tryd.func15, Tryd.ntmps15
  go_wp2_with fail
  refine C1.out.mono ?_
  rintro e w1 ⟨rfl, J⟩
  have K := hid (B0.out.trans (J.mono B0.out.size))
  clear J B0 C1
  go_wp2
  go_ret2
  exact ⟨rfl, K⟩
end

/-- What Cmp hands back. -/
def CRes (w : World) (p : Prop) (M N : Int) (e : Ending) (w' : World) : Prop := ∃ r er, e = .returned (.tuple #[.int .i64 r, .int .i64 er]) ∧ Hid ((p → er = 0 ∧ r = cmpI M N) ∧ (¬ p → er = 8 ∧ r = 0)) ∧ Hid (Below w.heap.size w w')
theorem dcmp_any {w : World} {p q : Prop} {M N : Int} {v u : Value} (h1 : DArg w p M v) (h2 : DArg w q N u) : Calls Tryd.prog 15 #[v, u] w (CRes w (p ∧ q) M N) := by
  obtain ⟨s, A, n, c, f, x, rfl, hr, hp, hM⟩ := h1
  obtain ⟨t, D, k, d, h, y, rfl, hs, hp2, hN⟩ := h2
  by_cases hpq : p ∧ q
  · obtain ⟨X, rfl, rfl⟩ := hM hpq.1
    obtain ⟨Y, rfl, rfl⟩ := hN hpq.2
    have m1 := hp.1 hpq.1
    have m2 := hp2.1 hpq.2
    obtain ⟨X', e1, c1, l1⟩ := may_canon m1 hr.out
    obtain ⟨Y', e2, c2, l2⟩ := may_canon m2 hs.out
    obtain rfl : X = X' := by omega
    obtain rfl : Y = Y' := by omega
    refine (dcmp_ok hr hs m1.1 m2.1 c1 l1 c2 l2).mono ?_
    rintro e w' ⟨rfl, HB⟩
    exact ⟨_, _, rfl, ⟨fun _ => ⟨rfl, rfl⟩, fun hn => absurd hpq hn⟩, HB⟩
  · refine (dcmp_bad hr hs (fun hm => hpq ⟨hp.2 hm.1, hp2.2 hm.2⟩)).mono ?_
    rintro e w' ⟨rfl, HB⟩
    exact ⟨_, _, rfl, ⟨fun h => absurd h hpq, fun _ => ⟨rfl, rfl⟩⟩, HB⟩

end Go.Proofs.YtjppogmhibmebaaDoor
