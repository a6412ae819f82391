/- Package dyad: Half, Of, Same. -/
import Derived.Test.YtjppogmhibmebaaDoorDsum
namespace Go.Proofs.YtjppogmhibmebaaDoor
open Go.RowKit

theorem half_scaled {s : Bool} {V X : Nat} (hX : X ≤ 1024) : 2 * num s (V * tp (4000 - (X + 1))) = dv s V X := by
  unfold dv
  rw [show 4000 - X = (4000 - (X + 1)) + 1 by omega, tp_succ, ← Nat.mul_assoc, num_mul s (V * _) 2]
  omega

section
variable {w : World} {A : Option Addr} {n c : Nat} {f : Nat → Nat} {s : Bool}
set_option maxHeartbeats 3200000 in
theorem dhalf_ok {X : Nat} {H : Int} (ha : Rd w w.heap.size A n c f) (hf : Fit n f) (hc : Canon s (vl f n) X) (hX : X ≤ 1024) (hT : Tab w) (HH : Hid (H = num s (vl f n * tp (4000 - (X + 1))))) :
    Calls Tryd.prog 11 #[.agg #[.bool s, .slice A n c, .int .i64 (X : Int)]] w (DRes w (Derr H) H) := by
  have hm1 := canon_may hf hc hX
  have B0 := hid ((((Below.refl w.heap.size w).alloc (Nat.le_refl _) (.cells #[.bool s, .slice A n c, .int .i64 (X : Int)] 24)).alloc (by simp) (.cells #[.bool false, .slice none 0 0, .int .i64 0] 24)).alloc (by simp <;> omega) (.cells #[.bool s, .slice A n c, .int .i64 (X : Int)] 24))
  have D0 : Hid (Dbox _ w.heap.size s (.slice A n c) (X : Int)) := heap3_0 w (.cells #[.bool s, .slice A n c, .int .i64 (X : Int)] 24) (.cells #[.bool false, .slice none 0 0, .int .i64 0] 24) (.cells #[.bool s, .slice A n c, .int .i64 (X : Int)] 24)
  have D1 : Hid (Dbox _ (w.heap.size + 1) false (.slice none 0 0) 0) := heap3_1 w (.cells #[.bool s, .slice A n c, .int .i64 (X : Int)] 24) (.cells #[.bool false, .slice none 0 0, .int .i64 0] 24) (.cells #[.bool s, .slice A n c, .int .i64 (X : Int)] 24)
  have D2 : Dbox _ (w.heap.size + 2) s (.slice A n c) (X : Int) := heap3_2 w (.cells #[.bool s, .slice A n c, .int .i64 (X : Int)] 24) (.cells #[.bool false, .slice none 0 0, .int .i64 0] 24) (.cells #[.bool s, .slice A n c, .int .i64 (X : Int)] 24)
  have Q1 := hid ((ha.asks s (X : Int)).below B0.out)
  rw [bool_of_not (not_not_intro hm1)] at Q1
  have C1 := hid (danybad_one (w.heap.size + 2) _ _ _ _ _ D2.c0 D2.c1 D2.c2 Q1)
  have HA := hid ha
  have HT := hid hT
  have Hf := hid hf
  have Hc := hid hc
  clear ha hf hc hT hm1 Q1 D2
  go_enter Tryd.func11, Tryd.ntmps11
  go_wp2_with fail
  refine C1.out.mono ?_
  rintro e w1 ⟨rfl, hb1⟩
  have E0 := hid (D0.out.below hb1 D0.out.lt)
  have E1 := hid (D1.out.below hb1 D1.out.lt)
  have B1 := hid (B0.out.trans (hb1.mono B0.out.size))
  clear B0 D0 D1 C1 hb1
  have a0 := E0.out.c0
  have a1 := E0.out.c1
  have a2 := E0.out.c2
  have C2 := hid (dwidened_any (s := s) ((HA.out.below B1.out).mono B1.out.size) Hf.out rfl hX (Nat.le_refl X))
  go_wp2_with fail
  refine C2.out.mono ?_
  rintro e w2 ⟨v2, er2, V2, l2, rfl, hl2, Hn2, Hor2, Hb2⟩
  obtain ⟨A2, n2, d2, rfl⟩ := Hn2.out.shape
  rcases Hor2.out with ⟨rfl, h2⟩ | ⟨rfl, h2, h3⟩
  · rw [Nat.sub_self, tp_zero, Nat.mul_one] at h2
    have F1 := hid ((E1.out.below Hb2.out E1.out.lt).alloc (.cells #[.bool s, .slice A2 n2 d2, .int .i64 ((X : Int) + 1), .int .u32 (l2 : Int)] 50))
    have B2 := hid (B1.out.trans (Hb2.out.mono B1.out.size))
    have BX := hid (B2.out.alloc B2.out.size (.cells #[.bool s, .slice A2 n2 d2, .int .i64 ((X : Int) + 1), .int .u32 (l2 : Int)] 50))
    have NX := hid ((Hn2.out.alloc (.cells #[.bool s, .slice A2 n2 d2, .int .i64 ((X : Int) + 1), .int .u32 (l2 : Int)] 50)).val)
    have hM := HH.out
    rw [← h2] at hM
    have C3 := dsettled_any (x := X + 1) (s := s) NX.out hl2 (by omega : X + 1 ≤ 1025) (HT.out.below BX.out HT.out.lt) hM
    rw [show ((X + 1 : Nat) : Int) = (X : Int) + 1 by omega] at C3
    have C3 := hid C3
    have LJ := hid (Nat.lt_of_lt_of_le E1.out.lt Hb2.out.size)
    clear h2 hM Hor2 a0 a1 a2 C2 E0 E1 B1 Hb2 B2 Hn2 NX
    go_wp2_with fail
    refine C3.out.mono ?_
    rintro e w6 ⟨dd, er6, rfl, HE6, HD6, Hb6⟩
    obtain ⟨s6, v6, x6, V6, rfl, hn6, hc6, hx6, hd6⟩ := HD6.out
    obtain ⟨A6, n6, d6, rfl⟩ := hn6.shape
    have P2 := hid (F1.out.below Hb6.out F1.out.lt)
    have B6 := hid (BX.out.trans (Hb6.out.mono BX.out.size))
    have N6 := hid hn6
    have Hd6 := hid (And.intro hc6 (And.intro hx6 hd6))
    have g0 := P2.out.frozen 0
    have g1 := P2.out.frozen 1
    have g2 := P2.out.frozen 2
    have b0 := P2.out.c0
    have b1 := P2.out.c1
    have b2 := P2.out.c2
    clear C3 HD6 hn6 hc6 hx6 hd6 F1 BX Hb6
    go_wp2
    refine ret_dyad rfl rfl rfl rfl (P2.out.store (t := s6) (u := .slice A6 n6 d6) (y := (x6 : Int))) ?_
    refine ⟨_, er6, rfl, HE6.out, ⟨s6, _, x6, V6, rfl, ?_, Hd6.out.1, Hd6.out.2.1, Hd6.out.2.2⟩, below_put3 B6.out (by omega)⟩
    exact (N6.out.put3 (by
      have := LJ.out
      simp
      omega)).mono (by
        have := LJ.out
        simp
        omega)
  · exact absurd h2 (Nat.lt_irrefl X)

set_option maxHeartbeats 3200000 in
theorem dhalf_bad {x : Int} (ha : Rd w w.heap.size A n c f) (hbad : ¬ DMay s n f x) :
    Calls Tryd.prog 11 #[.agg #[.bool s, .slice A n c, .int .i64 x]] w (DRes w (· = 8) 0) := by
  have B0 := hid ((((Below.refl w.heap.size w).alloc (Nat.le_refl _) (.cells #[.bool s, .slice A n c, .int .i64 x] 24)).alloc (by simp) (.cells #[.bool false, .slice none 0 0, .int .i64 0] 24)).alloc (by simp <;> omega) (.cells #[.bool s, .slice A n c, .int .i64 x] 24))
  have D1 : Hid (Dbox _ (w.heap.size + 1) false (.slice none 0 0) 0) := heap3_1 w (.cells #[.bool s, .slice A n c, .int .i64 x] 24) (.cells #[.bool false, .slice none 0 0, .int .i64 0] 24) (.cells #[.bool s, .slice A n c, .int .i64 x] 24)
  have D2 : Dbox _ (w.heap.size + 2) s (.slice A n c) x := heap3_2 w (.cells #[.bool s, .slice A n c, .int .i64 x] 24) (.cells #[.bool false, .slice none 0 0, .int .i64 0] 24) (.cells #[.bool s, .slice A n c, .int .i64 x] 24)
  have Q1 := hid ((ha.asks s x).below B0.out)
  rw [bool_of_dec hbad] at Q1
  have C1 := hid (danybad_one (w.heap.size + 2) _ _ _ _ _ D2.c0 D2.c1 D2.c2 Q1)
  clear ha hbad Q1 D2
  go_enter Tryd.func11, Tryd.ntmps11
  go_wp2_with fail
  refine C1.out.mono ?_
  rintro e w1 ⟨rfl, hb1⟩
  have E1 := hid (D1.out.below hb1 D1.out.lt)
  have B1 := hid (B0.out.trans (hb1.mono B0.out.size))
  have g0 := E1.out.frozen 0
  have g1 := E1.out.frozen 1
  have g2 := E1.out.frozen 2
  have b0 := E1.out.c0
  have b1 := E1.out.c1
  have b2 := E1.out.c2
  clear B0 D1 C1 hb1
  go_wp2
  refine ret_dyad rfl rfl rfl rfl (E1.out.store (t := false) (u := .slice none 0 0) (y := 0)) ?_
  refine ⟨_, 8, rfl, rfl, ?_, below_put3 B1.out (by omega)⟩
  rw [resD_bad (by decide)]
  exact Dn.zero _ _
end

theorem dhalf_any {w : World} {p : Prop} {M : Int} {v : Value} (h1 : DArg w p M v) (hT : Tab w) :
    Calls Tryd.prog 11 #[v] w fun e w' => ∃ H : Int, (p → 2 * H = M) ∧ DRes w (Derrs p H) H e w' := by
  obtain ⟨s, A, n, c, f, x, rfl, hr, hp, hM⟩ := h1
  by_cases hp0 : p
  · obtain ⟨X, rfl, rfl⟩ := hM hp0
    have m1 := hp.1 hp0
    obtain ⟨X', e1, c1, l1⟩ := may_canon m1 hr.out
    obtain rfl : X = X' := by omega
    refine (dhalf_ok hr m1.1 c1 l1 hT rfl).mono ?_
    rintro e w' ⟨d, er, rfl, HE, HD, HB⟩
    exact ⟨_, fun _ => half_scaled l1, d, er, rfl, ⟨fun _ => HE.out, fun hn => absurd hp0 hn⟩, HD, HB⟩
  · refine (dhalf_bad hr (fun h => hp0 (hp.2 h))).mono ?_
    rintro e w' ⟨d, er, rfl, ⟨rfl⟩, HD, HB⟩
    exact ⟨0, fun h => absurd h hp0, d, 8, rfl, ⟨fun h => absurd h hp0, fun _ => rfl⟩, HD, HB⟩

end Go.Proofs.YtjppogmhibmebaaDoor
