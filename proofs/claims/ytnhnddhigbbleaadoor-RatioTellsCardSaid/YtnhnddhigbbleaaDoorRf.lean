/- Package dyad: sum. -/
/- Package dyad: Add, Sub. -/
/- Package dyad: Half, Of, Same. -/
import Derived.Test.YtnhnddhigbbleaaDoorDswap
import Derived.Test.YtnhnddhigbbleaaDoorRd
import Derived.Deep.RegionWith

namespace Go.Proofs.YtnhnddhigbbleaaDoor
open Go.RowKit

theorem dplus_any {w : World} {V U l m : Nat} {s t : Bool} {v u : Value} {x y : Int} (hv : Val w V v) (hu : Val w U u) (hl : l ≤ 1) (hm : m ≤ 1) :
    Calls Tryd.prog 58 #[.agg #[.bool s, v, .int .i64 x, .int .u32 (l : Int)], .agg #[.bool t, u, .int .i64 y, .int .u32 (m : Int)]] w (PRes w s t x (2 * V + l) (2 * U + m)) := by
  by_cases h : s = t
  · subst h
    exact dplus_like hv hu hl hm
  · obtain rfl : t = !s := by cases s <;> cases t <;> simp at h ⊢
    rcases Nat.lt_or_ge (2 * V + l) (2 * U + m) with h2 | h2
    · exact dplus_swap hv hu hl hm h2
    · exact dplus_unlike hv hu hl hm h2

set_option maxHeartbeats 800000 in
theorem sign_any (s t : Bool) (w : World) (q : Nat) (hc : w.cell? ⟨q, 0, none⟩ = some (.bool t)) :
    Calls Tryd.prog 60 #[.bool s, .pointer (some ⟨q, 0, none⟩)] w fun e w' => e = .returned (.bool (s != t)) ∧ w = w' := by
  go_enter Tryd.func60, Tryd.ntmps60
  go_wp2
  go_ret
  exact ⟨rfl, rfl⟩
set_option maxHeartbeats 800000 in
theorem signs_any (t : Bool) (w : World) :
    Calls Tryd.prog 47 #[.bool t] w fun e w' => e = .returned (.func (.func 60) #[] #[.pointer (some ⟨w.heap.size, 0, none⟩)]) ∧ w.alloc (.cells #[.bool t] 4) = w' := by
  go_enter Tryd.func47, Tryd.ntmps47
  go_wp2
  go_ret
  exact ⟨rfl, rfl⟩

theorem Wbox.alloc {w : World} {g l : Nat} {s : Bool} {v : Value} {x : Int} (h : Wbox w g s v x l) (o : Obj) : Wbox (w.alloc o) g s v x l := (Below.heap_alloc w o g h.lt).trans h
section
variable {w : World} {A D : Option Addr} {n c k d : Nat} {f h : Nat → Nat} {s t tn : Bool}
set_option maxHeartbeats 3200000 in
theorem dsum_ok {X Y q : Nat} {M : Int} (ha : Rd w w.heap.size A n c f) (hb : Rd w w.heap.size D k d h) (hf : Fit n f) (hh : Fit k h) (hc : Canon s (vl f n) X) (hX : X ≤ 1024) (hc2 : Canon t (vl h k) Y) (hY : Y ≤ 1024)
    (hT : Tab w) (hq : w.cell? ⟨q, 0, none⟩ = some (.bool tn)) (HM : Hid (M = dv s (vl f n) X + dv (t != tn) (vl h k) Y)) :
    Calls Tryd.prog 46 #[.agg #[.bool s, .slice A n c, .int .i64 (X : Int)], .agg #[.bool t, .slice D k d, .int .i64 (Y : Int)], .func (.func 60) #[] #[.pointer (some ⟨q, 0, none⟩)]] w (DRes w (Derr M) M) := by
  have hm1 := canon_may hf hc hX
  have hm2 := canon_may hh hc2 hY
  obtain ⟨E, hE⟩ : ∃ E : Nat, E = max X Y := ⟨_, rfl⟩
  have hmax : max (X : Int) (Y : Int) = (E : Int) := by omega
  have hXE : X ≤ E := by omega
  have hYE : Y ≤ E := by omega
  have hor : X = E ∨ Y = E := by omega
  have hE4 : E ≤ 1024 := by omega
  have B0 := hid (below4 w (.cells #[.bool s, .slice A n c, .int .i64 (X : Int)] 24) (.cells #[.bool t, .slice D k d, .int .i64 (Y : Int)] 24) (.cells #[.bool false, .slice none 0 0, .int .i64 0] 24) (.cells #[.bool s, .slice A n c, .int .i64 (X : Int), .bool t, .slice D k d, .int .i64 (Y : Int)] 24))
  have D0 : Hid (Dbox _ w.heap.size s (.slice A n c) (X : Int)) := heap4_0 w _ (.cells #[.bool t, .slice D k d, .int .i64 (Y : Int)] 24) (.cells #[.bool false, .slice none 0 0, .int .i64 0] 24) (.cells #[.bool s, .slice A n c, .int .i64 (X : Int), .bool t, .slice D k d, .int .i64 (Y : Int)] 24)
  have D1 : Hid (Dbox _ (w.heap.size + 1) t (.slice D k d) (Y : Int)) := heap4_1 w (.cells #[.bool s, .slice A n c, .int .i64 (X : Int)] 24) _ (.cells #[.bool false, .slice none 0 0, .int .i64 0] 24) (.cells #[.bool s, .slice A n c, .int .i64 (X : Int), .bool t, .slice D k d, .int .i64 (Y : Int)] 24)
  have D2 : Hid (Dbox _ (w.heap.size + 2) false (.slice none 0 0) 0) := heap4_2 w (.cells #[.bool s, .slice A n c, .int .i64 (X : Int)] 24) (.cells #[.bool t, .slice D k d, .int .i64 (Y : Int)] 24) _ (.cells #[.bool s, .slice A n c, .int .i64 (X : Int), .bool t, .slice D k d, .int .i64 (Y : Int)] 24)
  have hrow := heap4_3 w (.cells #[.bool s, .slice A n c, .int .i64 (X : Int)] 24) (.cells #[.bool t, .slice D k d, .int .i64 (Y : Int)] 24) (.cells #[.bool false, .slice none 0 0, .int .i64 0] 24) (.cells #[.bool s, .slice A n c, .int .i64 (X : Int), .bool t, .slice D k d, .int .i64 (Y : Int)] 24)
  have Q1 := hid ((ha.asks s (X : Int)).below B0.out)
  have Q2 := hid ((hb.asks t (Y : Int)).below B0.out)
  rw [bool_of_not (not_not_intro hm1)] at Q1
  rw [bool_of_not (not_not_intro hm2)] at Q2
  have C1 := hid (danybad_two (w.heap.size + 3) _ _ _ _ _ _ _ _ _ ((cell_of_row _ _ 0 _ _ (0, 0) hrow).trans rfl) ((cell_of_row _ _ 1 _ _ (0, 0) hrow).trans rfl) ((cell_of_row _ _ 2 _ _ (0, 0) hrow).trans rfl) ((cell_of_row _ _ 3 _ _ (0, 0) hrow).trans rfl) ((cell_of_row _ _ 4 _ _ (0, 0) hrow).trans rfl) ((cell_of_row _ _ 5 _ _ (0, 0) hrow).trans rfl) Q1 Q2)
  have HA := hid ha
  have HB := hid hb
  have HT := hid hT
  have Hq := hid hq
  have Hf := hid hf
  have Hh := hid hh
  have Hc := hid hc
  have Hc2 := hid hc2
  have HV := hid (vl_pw40 ha hf)
  have HU := hid (vl_pw40 hb hh)
  clear ha hb hf hh hc hc2 hT hq hm1 hm2 Q1 Q2 hrow hE
  go_enter Tryd.func46, Tryd.ntmps46
  go_wp2_with fail
  refine C1.out.mono ?_
  rintro e w1 ⟨rfl, hb1⟩
  have E0 := hid (D0.out.below hb1 D0.out.lt)
  have E1 := hid (D1.out.below hb1 D1.out.lt)
  have E2 := hid (D2.out.below hb1 D2.out.lt)
  have B1 := hid (B0.out.trans (hb1.mono B0.out.size))
  clear B0 D0 D1 D2 C1 hb1
  have a0 := E0.out.c0
  have a1 := E0.out.c1
  have a2 := E0.out.c2
  have b2 := E1.out.c2
  have C2 := hid (dwidened_any (s := s) ((HA.out.below B1.out).mono B1.out.size) Hf.out rfl hE4 hXE)
  go_wp2_with fail
  refine C2.out.mono ?_
  rintro e w2 ⟨v2, er2, V2, l2, rfl, hl2, Hn2, Hor2, Hb2⟩
  obtain ⟨A2, n2, d2, rfl⟩ := Hn2.out.shape
  have F0 := hid (E0.out.below Hb2.out E0.out.lt)
  have F1 := hid (E1.out.below Hb2.out E1.out.lt)
  have F2 := hid (E2.out.below Hb2.out E2.out.lt)
  have B2 := hid (B1.out.trans (Hb2.out.mono B1.out.size))
  clear a0 a1 a2 b2 C2 E0 E1
  have BX := hid (B2.out.alloc B2.out.size (.cells #[.bool s, .slice A2 n2 d2, .int .i64 (E : Int), .int .u32 (l2 : Int)] 91))
  have G1 := hid (F1.out.alloc (.cells #[.bool s, .slice A2 n2 d2, .int .i64 (E : Int), .int .u32 (l2 : Int)] 91))
  have G2 := hid (F2.out.alloc (.cells #[.bool s, .slice A2 n2 d2, .int .i64 (E : Int), .int .u32 (l2 : Int)] 91))
  have GX : Hid (Wbox (w2.alloc (.cells #[.bool s, .slice A2 n2 d2, .int .i64 (E : Int), .int .u32 (l2 : Int)] 91)) w2.heap.size s (.slice A2 n2 d2) (E : Int) l2) := heap_alloc_new _ _
  have NX := hid (Hn2.out.alloc (.cells #[.bool s, .slice A2 n2 d2, .int .i64 (E : Int), .int .u32 (l2 : Int)] 91))
  have L2 := hid E2.out.lt
  clear F0 F1 F2 B2 E2 Hn2 Hb2
  rcases Hor2.out with ⟨rfl, h2⟩ | ⟨rfl, h2, h3⟩
  · have H2 := hid h2
    clear h2 Hor2
    have b0 := G1.out.c0
    have b1 := G1.out.c1
    have b2 := G1.out.c2
    have C3 := hid (dwidened_any (s := t) ((HB.out.below BX.out).mono BX.out.size) Hh.out rfl hE4 hYE)
    go_wp2_with fail
    refine C3.out.mono ?_
    rintro e w3 ⟨v3, er3, V3, l3, rfl, hl3, Hn3, Hor3, Hb3⟩
    obtain ⟨A3, n3, d3, rfl⟩ := Hn3.out.shape
    have HX := hid ((GX.out.below Hb3.out GX.out.lt).alloc (.cells #[.bool (t != tn), .slice A3 n3 d3, .int .i64 (E : Int), .int .u32 (l3 : Int)] 91))
    have HY : Hid (Wbox (w3.alloc (.cells #[.bool (t != tn), .slice A3 n3 d3, .int .i64 (E : Int), .int .u32 (l3 : Int)] 91)) w3.heap.size (t != tn) (.slice A3 n3 d3) (E : Int) l3) := heap_alloc_new _ _
    have J2 := hid ((G2.out.below Hb3.out G2.out.lt).alloc (.cells #[.bool (t != tn), .slice A3 n3 d3, .int .i64 (E : Int), .int .u32 (l3 : Int)] 91))
    have J2' := hid ((G2.out.below Hb3.out G2.out.lt).alloc (.cells #[.bool t, .slice A3 n3 d3, .int .i64 (E : Int), .int .u32 (l3 : Int)] 91))
    have B3 := hid (BX.out.trans (Hb3.out.mono BX.out.size))
    have BY := hid (B3.out.alloc B3.out.size (.cells #[.bool (t != tn), .slice A3 n3 d3, .int .i64 (E : Int), .int .u32 (l3 : Int)] 91))
    have BY' := hid (B3.out.alloc B3.out.size (.cells #[.bool t, .slice A3 n3 d3, .int .i64 (E : Int), .int .u32 (l3 : Int)] 91))
    have NX2 := hid (((NX.out.below Hb3.out (Nat.le_refl _)).alloc (.cells #[.bool (t != tn), .slice A3 n3 d3, .int .i64 (E : Int), .int .u32 (l3 : Int)] 91)).val)
    have NY2 := hid ((Hn3.out.alloc (.cells #[.bool (t != tn), .slice A3 n3 d3, .int .i64 (E : Int), .int .u32 (l3 : Int)] 91)).val)
    have cq := (BY'.out.cell (p := ⟨q, 0, none⟩) (block_lt_of_cell Hq.out)).trans Hq.out
    have LX := hid (Nat.lt_of_lt_of_le GX.out.lt Hb3.out.size)
    clear B3 G1 G2 GX BX NX b0 b1 b2 C3 Hn3 Hb3
    rcases Hor3.out with ⟨rfl, h3⟩ | ⟨rfl, h3, h4⟩
    · have H3 := hid h3
      clear h3 Hor3 BY' J2'
      have Cs := hid (sign_any t tn _ q cq)
      have x0 := HX.out.c0
      have x1 := HX.out.c1
      have x2 := HX.out.c2
      have x3 := HX.out.c3
      have C5 := hid (dplus_any (s := s) (t := t != tn) (x := (E : Int)) (y := (E : Int)) NX2.out NY2.out hl2 hl3)
      go_wp2_with fail
      refine Cs.out.mono ?_
      rintro e w' ⟨rfl, rfl⟩
      go_wp2_with fail
      refine C5.out.mono ?_
      rintro e w5 ⟨r5, v5, er5, V5, l5, rfl, hl5, Hn5, Hor5, Hb5⟩
      obtain ⟨A5, n5, d5, rfl⟩ := Hn5.out.shape
      have K2 := hid ((J2.out.below Hb5.out J2.out.lt).alloc (.cells #[.bool r5, .slice A5 n5 d5, .int .i64 (E : Int), .int .u32 (l5 : Int)] 91))
      have B5 := hid (BY.out.trans (Hb5.out.mono BY.out.size))
      have BO := hid (B5.out.alloc B5.out.size (.cells #[.bool r5, .slice A5 n5 d5, .int .i64 (E : Int), .int .u32 (l5 : Int)] 91))
      have NO := hid ((Hn5.out.alloc (.cells #[.bool r5, .slice A5 n5 d5, .int .i64 (E : Int), .int .u32 (l5 : Int)] 91)).val)
      have LJ := hid (Nat.lt_of_lt_of_le J2.out.lt Hb5.out.size)
      have hMs := sum_scaled (s := s) (t := t != tn) (V := vl f n) (U := vl h k) hXE hYE (by omega : E ≤ 4000)
      rw [← HM.out, ← H2.out, ← H3.out] at hMs
      have HMs := hid hMs
      clear hMs C5 HX HY J2 BY NX2 NY2 cq x0 x1 x2 x3 Hn5 Hb5 B5 Cs
      rcases Hor5.out with ⟨rfl, h5⟩ | ⟨rfl, h5, h6⟩
      · have hM2 := HMs.out
        rw [← h5, ← num_mul] at hM2
        have HM2 := hid hM2
        have C6 := hid (dsettled_any (s := r5) NO.out hl5 (by omega : E ≤ 1025) (HT.out.below BO.out HT.out.lt) HM2)
        clear h5 hM2 Hor5
        go_wp2_with fail
        refine C6.out.mono ?_
        rintro e w6 ⟨dd, er6, rfl, HE6, HD6, Hb6⟩
        obtain ⟨s6, v6, x6, V6, rfl, hn6, hc6, hx6, hd6⟩ := HD6.out
        obtain ⟨A6, n6, d6, rfl⟩ := hn6.shape
        have P2 := hid (K2.out.below Hb6.out K2.out.lt)
        have B6 := hid (BO.out.trans (Hb6.out.mono BO.out.size))
        have N6 := hid hn6
        have Hd6 := hid (And.intro hc6 (And.intro hx6 hd6))
        have g0 := P2.out.frozen 0
        have g1 := P2.out.frozen 1
        have g2 := P2.out.frozen 2
        have b0 := P2.out.c0
        have b1 := P2.out.c1
        have b2 := P2.out.c2
        clear C6 HD6 hn6 hc6 hx6 hd6 K2 BO Hb6
        go_wp2
        refine ret_dyad rfl rfl rfl rfl (P2.out.store (t := s6) (u := .slice A6 n6 d6) (y := (x6 : Int))) ?_
        refine ⟨_, er6, rfl, HE6.out, ⟨s6, _, x6, V6, rfl, ?_, Hd6.out.1, Hd6.out.2.1, Hd6.out.2.2⟩, below_put3 B6.out (by omega)⟩
        exact (N6.out.put3 (by
          have := LJ.out
          simp
          omega)).mono (by
            have := LJ.out
            simp
            omega)
      · have hN : ¬ Okay M := by
          have e1 := h5
          rw [H2.out, H3.out] at h6
          have e2 := HM.out
          rw [← e1] at e2
          rw [e2]
          exact like_not HV.out HU.out Hc.out.2 Hc2.out.2 hXE hYE hor hE4 h6
        have HN := hid hN
        clear h5 h6 hN Hor5
        have g0 := K2.out.frozen 0
        have g1 := K2.out.frozen 1
        have g2 := K2.out.frozen 2
        have b0 := K2.out.c0
        have b1 := K2.out.c1
        have b2 := K2.out.c2
        go_wp2
        refine ret_dyad rfl rfl rfl rfl (K2.out.store (t := false) (u := .slice none 0 0) (y := 0)) ?_
        refine ⟨_, 10, rfl, .inr ⟨HN.out, rfl⟩, ?_, below_put3 BO.out (by omega)⟩
        rw [resD_bad (by decide)]
        exact Dn.zero _ _
    · have h1 : X = E := by omega
      have hN := wide_not (s := t != tn) (t := s) (V := vl h k) (U := vl f n) HV.out Hc.out.2 h1 h3 hE4 h4
      rw [Int.add_comm, ← HM.out] at hN
      have HN := hid hN
      clear h1 h3 h4 hN Hor3
      have g0 := J2'.out.frozen 0
      have g1 := J2'.out.frozen 1
      have g2 := J2'.out.frozen 2
      have b0 := J2'.out.c0
      have b1 := J2'.out.c1
      have b2 := J2'.out.c2
      go_wp2
      refine ret_dyad rfl rfl rfl rfl (J2'.out.store (t := false) (u := .slice none 0 0) (y := 0)) ?_
      refine ⟨_, 10, rfl, .inr ⟨HN.out, rfl⟩, ?_, below_put3 BY'.out (by omega)⟩
      rw [resD_bad (by decide)]
      exact Dn.zero _ _
  · have h1 : Y = E := by omega
    have hN := wide_not (s := s) (t := t != tn) (V := vl f n) (U := vl h k) HU.out Hc2.out.2 h1 h2 hE4 h3
    rw [← HM.out] at hN
    have HN := hid hN
    clear h1 h2 h3 hN Hor2
    have g0 := G2.out.frozen 0
    have g1 := G2.out.frozen 1
    have g2 := G2.out.frozen 2
    have b0 := G2.out.c0
    have b1 := G2.out.c1
    have b2 := G2.out.c2
    go_wp2
    refine ret_dyad rfl rfl rfl rfl (G2.out.store (t := false) (u := .slice none 0 0) (y := 0)) ?_
    refine ⟨_, 10, rfl, .inr ⟨HN.out, rfl⟩, ?_, below_put3 BX.out (by omega)⟩
    rw [resD_bad (by decide)]
    exact Dn.zero _ _
end


section
variable {w : World} {A D : Option Addr} {n c k d : Nat} {f h : Nat → Nat} {s t : Bool}
set_option maxHeartbeats 3200000 in
theorem dsum_bad {x y : Int} {cl : Value} (ha : Rd w w.heap.size A n c f) (hb : Rd w w.heap.size D k d h) (hbad : ¬ (DMay s n f x ∧ DMay t k h y)) (hcl : ∃ u cs, cl = .func u #[] cs) :
    Calls Tryd.prog 46 #[.agg #[.bool s, .slice A n c, .int .i64 x], .agg #[.bool t, .slice D k d, .int .i64 y], cl] w (DRes w (· = 8) 0) := by
  obtain ⟨u, cs, rfl⟩ := hcl
  have B0 := hid (below4 w (.cells #[.bool s, .slice A n c, .int .i64 x] 24) (.cells #[.bool t, .slice D k d, .int .i64 y] 24) (.cells #[.bool false, .slice none 0 0, .int .i64 0] 24) (.cells #[.bool s, .slice A n c, .int .i64 x, .bool t, .slice D k d, .int .i64 y] 24))
  have D2 : Hid (Dbox _ (w.heap.size + 2) false (.slice none 0 0) 0) := heap4_2 w (.cells #[.bool s, .slice A n c, .int .i64 x] 24) (.cells #[.bool t, .slice D k d, .int .i64 y] 24) _ (.cells #[.bool s, .slice A n c, .int .i64 x, .bool t, .slice D k d, .int .i64 y] 24)
  have hrow := heap4_3 w (.cells #[.bool s, .slice A n c, .int .i64 x] 24) (.cells #[.bool t, .slice D k d, .int .i64 y] 24) (.cells #[.bool false, .slice none 0 0, .int .i64 0] 24) (.cells #[.bool s, .slice A n c, .int .i64 x, .bool t, .slice D k d, .int .i64 y] 24)
  have Q1 := hid ((ha.asks s x).below B0.out)
  have Q2 := hid ((hb.asks t y).below B0.out)
  have C1 := danybad_two (w.heap.size + 3) _ _ _ _ _ _ _ _ _ ((cell_of_row _ _ 0 _ _ (0, 0) hrow).trans rfl) ((cell_of_row _ _ 1 _ _ (0, 0) hrow).trans rfl) ((cell_of_row _ _ 2 _ _ (0, 0) hrow).trans rfl) ((cell_of_row _ _ 3 _ _ (0, 0) hrow).trans rfl) ((cell_of_row _ _ 4 _ _ (0, 0) hrow).trans rfl) ((cell_of_row _ _ 5 _ _ (0, 0) hrow).trans rfl) Q1 Q2
  rw [show (decide (¬ DMay s n f x) || decide (¬ DMay t k h y)) = true by
    by_cases h1 : DMay s n f x
    · by_cases h2 : DMay t k h y
      · exact absurd ⟨h1, h2⟩ hbad
      · simp [h2]
    · simp [h1]] at C1
  have C1 := hid C1
  clear ha hb hbad Q1 Q2 hrow
  go_enter Tryd.func46, Tryd.ntmps46
  go_wp2_with fail
  refine C1.out.mono ?_
  rintro e w1 ⟨rfl, hb1⟩
  have E2 := hid (D2.out.below hb1 D2.out.lt)
  have B1 := hid (B0.out.trans (hb1.mono B0.out.size))
  have g0 := E2.out.frozen 0
  have g1 := E2.out.frozen 1
  have g2 := E2.out.frozen 2
  have b0 := E2.out.c0
  have b1 := E2.out.c1
  have b2 := E2.out.c2
  clear B0 D2 C1 hb1
  go_wp2
  refine ret_dyad rfl rfl rfl rfl (E2.out.store (t := false) (u := .slice none 0 0) (y := 0)) ?_
  refine ⟨_, 8, rfl, rfl, ?_, below_put3 B1.out (by omega)⟩
  rw [resD_bad (by decide)]
  exact Dn.zero _ _
end

set_option maxHeartbeats 3200000 in
theorem dsum_any {w : World} {p q : Prop} {M N : Int} {v u : Value} (tn : Bool) {g : Nat} (h1 : DArg w p M v) (h2 : DArg w q N u) (hT : Tab w) (hq : w.cell? ⟨g, 0, none⟩ = some (.bool tn)) :
    Calls Tryd.prog 46 #[v, u, .func (.func 60) #[] #[.pointer (some ⟨g, 0, none⟩)]] w (DRes w (Derrs (p ∧ q) (if tn then M - N else M + N)) (if tn then M - N else M + N)) := by
  obtain ⟨s, A, n, c, f, x, rfl, hr, hp, hM⟩ := h1
  obtain ⟨t, D, k, d, h, y, rfl, hs, hp2, hN⟩ := h2
  by_cases hpq : p ∧ q
  · obtain ⟨X, rfl, rfl⟩ := hM hpq.1
    obtain ⟨Y, rfl, rfl⟩ := hN hpq.2
    have m1 := hp.1 hpq.1
    have m2 := hp2.1 hpq.2
    obtain ⟨X', e1, c1, l1⟩ := may_canon m1 hr.out
    obtain ⟨Y', e2, c2, l2⟩ := may_canon m2 hs.out
    obtain rfl : X = X' := by omega
    obtain rfl : Y = Y' := by omega
    refine (dsum_ok (M := if tn then dv s (vl f n) X - dv t (vl h k) Y else dv s (vl f n) X + dv t (vl h k) Y) hr hs m1.1 m2.1 c1 l1 c2 l2 hT hq ?_).mono ?_
    · cases tn with
      | false => show _ = dv s (vl f n) X + dv (t != false) (vl h k) Y; simp
      | true =>
        show dv s (vl f n) X - dv t (vl h k) Y = dv s (vl f n) X + dv (t != true) (vl h k) Y
        rw [show (t != true) = !t by cases t <;> rfl]
        unfold dv
        rw [num_neg]
        omega
    · rintro e w' ⟨d, er, rfl, HE, HD, HB⟩
      exact ⟨d, er, rfl, ⟨fun _ => HE.out, fun hn => absurd hpq hn⟩, HD, HB⟩
  · refine (dsum_bad hr hs (fun hm => hpq ⟨hp.2 hm.1, hp2.2 hm.2⟩) ⟨_, _, rfl⟩).mono ?_
    rintro e w' ⟨d, er, rfl, ⟨rfl⟩, HD, HB⟩
    exact ⟨d, 8, rfl, ⟨fun h => absurd h hpq, fun _ => rfl⟩, HD, HB⟩

end Go.Proofs.YtnhnddhigbbleaaDoor


namespace Go.Proofs.YtnhnddhigbbleaaDoor
open Go.RowKit

set_option maxHeartbeats 3200000 in
theorem dadd_any {w : World} {p q : Prop} {M N : Int} {v u : Value} (h1 : DArg w p M v) (h2 : DArg w q N u) (hT : Tab w) :
    Calls Tryd.prog 28 #[v, u] w (DRes w (Derrs (p ∧ q) (M + N)) (M + N)) := by
  have CS : Hid (∀ (w' : World) (g : Nat), Below w.heap.size w w' → w'.cell? ⟨g, 0, none⟩ = some (.bool false) → Calls Tryd.prog 46 #[v, u, .func (.func 60) #[] #[.pointer (some ⟨g, 0, none⟩)]] w' (DRes w' (Derrs (p ∧ q) (M + N)) (M + N))) :=
    fun w' g hb hq => dsum_any false (h1.below hb) (h2.below hb) (hT.below hb hT.lt) hq
  obtain ⟨s, A, n, c, f, x, rfl, _, _, _⟩ := h1
  obtain ⟨t, D, k, d, h, y, rfl, _, _, _⟩ := h2
  generalize M + N = R at *
  have B4 := hid (below4 w (.cells #[.bool s, .slice A n c, .int .i64 x] 24) (.cells #[.bool t, .slice D k d, .int .i64 y] 24) (.cells #[.bool false, .slice none 0 0, .int .i64 0] 24) (.cells #[.bool false] 4))
  have D2 : Hid (Dbox _ (w.heap.size + 2) false (.slice none 0 0) 0) := heap4_2 w (.cells #[.bool s, .slice A n c, .int .i64 x] 24) (.cells #[.bool t, .slice D k d, .int .i64 y] 24) _ (.cells #[.bool false] 4)
  have H3 := hid (cell_of_row _ _ 0 _ _ (0, 0) (heap4_3 w (.cells #[.bool s, .slice A n c, .int .i64 x] 24) (.cells #[.bool t, .slice D k d, .int .i64 y] 24) (.cells #[.bool false, .slice none 0 0, .int .i64 0] 24) (.cells #[.bool false] 4)))
  clear hT
  go_enter Tryd.func28, Tryd.ntmps28
  go_wp2_with fail
  go_region_with (first
    | (go_at_call 47
       refine (signs_any false _).mono ?_
       rintro e w' ⟨rfl, rfl⟩)
    | (go_at_call 46
       refine (CS.out _ (w.heap.size + 3) B4.out.drew H3.out).mono ?_
       rintro e w1 ⟨dd, er, rfl, HE, HD, Hb⟩
       obtain ⟨s1, v1, x1, V1, rfl, hn1, hc1, hx1, hd1⟩ := HD.out
       obtain ⟨A1, n1, d1, rfl⟩ := hn1.shape
       have P2 := hid ((Dbox.drew D2.out).below Hb.out D2.out.lt)
       have g0 := P2.out.frozen 0
       have g1 := P2.out.frozen 1
       have g2 := P2.out.frozen 2
       have b0 := P2.out.c0
       have b1 := P2.out.c1
       have b2 := P2.out.c2))
  all_goals
    have B1 := hid (B4.out.drew.trans (Hb.out.mono B4.out.size))
    clear g0 g1 g2 b0 b1 b2 CS
    go_wp2
    refine ret_dyad rfl rfl rfl rfl (P2.out.store (t := s1) (u := .slice A1 n1 d1) (y := (x1 : Int))) ?_
    refine ⟨_, er, rfl, HE.out, ⟨s1, _, x1, V1, rfl, (hn1.put3 ?_).mono B4.out.size, hc1, hx1, hd1⟩, below_put3 B1.out (by omega)⟩
    exact D2.out.lt

end Go.Proofs.YtnhnddhigbbleaaDoor


namespace Go.Proofs.YtnhnddhigbbleaaDoor
open Go.RowKit

theorem half_scaled {s : Bool} {V X : Nat} (hX : X ≤ 1024) : 2 * num s (V * tp (4000 - (X + 1))) = dv s V X := by
  unfold dv
  rw [show 4000 - X = (4000 - (X + 1)) + 1 by omega, tp_succ, ← Nat.mul_assoc, num_mul s (V * _) 2]
  omega

section
variable {w : World} {A : Option Addr} {n c : Nat} {f : Nat → Nat} {s : Bool}
end

end Go.Proofs.YtnhnddhigbbleaaDoor

