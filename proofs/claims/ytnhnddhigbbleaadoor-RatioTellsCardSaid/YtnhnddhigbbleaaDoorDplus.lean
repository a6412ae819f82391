/- Package dyad: smaller, plus. -/
import Derived.Test.YtnhnddhigbbleaaDoorRe
import Derived.Deep.RegionHeld3
import Derived.Deep.RegionWith
namespace Go.Proofs.YtnhnddhigbbleaaDoor
open Go.RowKit

set_option maxHeartbeats 1600000 in
theorem dsmaller_any {w : World} {V U l m : Nat} {s t : Bool} {v u : Value} {x y : Int} (hv : Val w V v) (hu : Val w U u) (hl : l ≤ 1) (hm : m ≤ 1) :
    Calls Tryd.prog 71 #[.agg #[.bool s, v, .int .i64 x, .int .u32 (l : Int)], .agg #[.bool t, u, .int .i64 y, .int .u32 (m : Int)]] w fun e w' => e = .returned (.bool (decide (2 * V + l < 2 * U + m))) ∧ Below w.heap.size w w' := by
  obtain ⟨A, n, c, rfl⟩ := hv.shape
  obtain ⟨D, k, d, rfl⟩ := hu.shape
  have B0 := hid (((Below.refl w.heap.size w).alloc (Nat.le_refl _) (.cells #[.bool s, .slice A n c, .int .i64 x, .int .u32 (l : Int)] 91)).alloc (by simp) (.cells #[.bool t, .slice D k d, .int .i64 y, .int .u32 (m : Int)] 91))
  have W1 : Hid (Wbox _ (w.heap.size + 1) t (.slice D k d) y m) := heap_alloc2_new w (.cells #[.bool s, .slice A n c, .int .i64 x, .int .u32 (l : Int)] 91) (.cells #[.bool t, .slice D k d, .int .i64 y, .int .u32 (m : Int)] 91)
  have W0 : Hid (Wbox _ w.heap.size s (.slice A n c) x l) := (Below.heap_alloc _ (.cells #[.bool t, .slice D k d, .int .i64 y, .int .u32 (m : Int)] 91) _ (by simp)).trans (heap_alloc_new w (.cells #[.bool s, .slice A n c, .int .i64 x, .int .u32 (l : Int)] 91))
  have C1 := hid (dcmp_val (hv.below B0.out) (hu.below B0.out))
  clear hv hu
  rcases Nat.lt_trichotomy V U with h | h | h
  · rw [cmpN_lt h] at C1
    rw [bool_of_dec (by omega : 2 * V + l < 2 * U + m)]
    clear h
    go_enter Tryd.func71, Tryd.ntmps71
    go_wp2_with fail
    refine C1.out.mono ?_
    rintro e w1 ⟨rfl, hb⟩
    have B1 := hid (B0.out.trans (hb.mono B0.out.size))
    clear hb
    go_wp2
    go_ret
    exact ⟨rfl, B1.out⟩
  · rw [cmpN_eq h] at C1
    have hcase : (l < m ∧ decide (2 * V + l < 2 * U + m) = true) ∨ (m ≤ l ∧ decide (2 * V + l < 2 * U + m) = false) := by
      rcases Nat.lt_or_ge l m with h2 | h2
      · exact .inl ⟨h2, bool_of_dec (by omega)⟩
      · exact .inr ⟨h2, bool_of_not (by omega)⟩
    clear h
    rcases hcase with ⟨hlm, hdec⟩ | ⟨hlm, hdec⟩
    all_goals
      rw [hdec]
      clear hdec
      go_enter Tryd.func71, Tryd.ntmps71
      go_wp2_with fail
      refine C1.out.mono ?_
      rintro e w1 ⟨rfl, hb⟩
      have B1 := hid (B0.out.trans (hb.mono B0.out.size))
      have a3 := (W0.out.below hb W0.out.lt).c3
      have b3 := (W1.out.below hb W1.out.lt).c3
      clear hb
      go_wp2
      go_ret
      exact ⟨by simp <;> omega, B1.out⟩
  · rw [cmpN_gt h] at C1
    rw [bool_of_not (by omega : ¬ 2 * V + l < 2 * U + m)]
    clear h
    go_enter Tryd.func71, Tryd.ntmps71
    go_wp2_with fail
    refine C1.out.mono ?_
    rintro e w1 ⟨rfl, hb⟩
    have B1 := hid (B0.out.trans (hb.mono B0.out.size))
    clear hb
    go_wp2
    go_ret
    exact ⟨rfl, B1.out⟩

/-- What plus tells. -/
def PRes (w : World) (s t : Bool) (x : Int) (N M : Nat) (e : Ending) (w' : World) : Prop := ∃ r v er V' l, e = .returned (.tuple #[.agg #[.bool r, v, .int .i64 x, .int .u32 ((l : Nat) : Int)], .int .i64 er]) ∧ l ≤ 1 ∧
  Hid (Num 63 w.heap.size w' V' v) ∧ Hid ((er = 0 ∧ num r (2 * V' + l) = num s N + num t M) ∨ (er = 10 ∧ s = t ∧ 2 * pw 40 ≤ N + M)) ∧ Hid (Below w.heap.size w w')

set_option maxHeartbeats 3200000 in
theorem dplus_like {w : World} {V U l m : Nat} {s : Bool} {v u : Value} {x y : Int} (hv : Val w V v) (hu : Val w U u) (hl : l ≤ 1) (hm : m ≤ 1) :
    Calls Tryd.prog 58 #[.agg #[.bool s, v, .int .i64 x, .int .u32 (l : Int)], .agg #[.bool s, u, .int .i64 y, .int .u32 (m : Int)]] w (PRes w s s x (2 * V + l) (2 * U + m)) := by
  obtain ⟨A, n, c, rfl⟩ := hv.shape
  obtain ⟨D, k, d, rfl⟩ := hu.shape
  obtain ⟨o, p, hop, ho1, hp1, hxo, hpa⟩ : ∃ o p : Nat, l + m = 2 * p + o ∧ o ≤ 1 ∧ p ≤ 1 ∧ bits BinOp.xor IntKind.u32 (l : Int) (m : Int) = (o : Int) ∧ bits BinOp.and IntKind.u32 (l : Int) (m : Int) = (p : Int) := by
    have h1 : l = 0 ∨ l = 1 := by omega
    have h2 : m = 0 ∨ m = 1 := by omega
    rcases h1 with rfl | rfl <;> rcases h2 with rfl | rfl
    · exact ⟨0, 0, by omega, by omega, by omega, by decide, by decide⟩
    · exact ⟨1, 0, by omega, by omega, by omega, by decide, by decide⟩
    · exact ⟨1, 0, by omega, by omega, by omega, by decide, by decide⟩
    · exact ⟨0, 1, by omega, by omega, by omega, by decide, by decide⟩
  have B0 := hid (below4 w (.cells #[.bool s, .slice A n c, .int .i64 x, .int .u32 (l : Int)] 91) (.cells #[.bool s, .slice D k d, .int .i64 y, .int .u32 (m : Int)] 91) (.cells #[.bool false, .slice none 0 0, .int .i64 0, .int .u32 0] 91) (.cells #[.bool s, .slice none 0 0, .int .i64 x, .int .u32 (o : Int)] 91))
  have W0 : Hid (Wbox _ w.heap.size s (.slice A n c) x l) := heap4_0 w _ (.cells #[.bool s, .slice D k d, .int .i64 y, .int .u32 (m : Int)] 91) (.cells #[.bool false, .slice none 0 0, .int .i64 0, .int .u32 0] 91) (.cells #[.bool s, .slice none 0 0, .int .i64 x, .int .u32 (o : Int)] 91)
  have W1 : Hid (Wbox _ (w.heap.size + 1) s (.slice D k d) y m) := heap4_1 w (.cells #[.bool s, .slice A n c, .int .i64 x, .int .u32 (l : Int)] 91) _ (.cells #[.bool false, .slice none 0 0, .int .i64 0, .int .u32 0] 91) (.cells #[.bool s, .slice none 0 0, .int .i64 x, .int .u32 (o : Int)] 91)
  have W2 : Hid (Wbox _ (w.heap.size + 2) false (.slice none 0 0) 0 0) := heap4_2 w (.cells #[.bool s, .slice A n c, .int .i64 x, .int .u32 (l : Int)] 91) (.cells #[.bool s, .slice D k d, .int .i64 y, .int .u32 (m : Int)] 91) _ (.cells #[.bool s, .slice none 0 0, .int .i64 x, .int .u32 (o : Int)] 91)
  have W3 : Hid (Wbox _ (w.heap.size + 3) s (.slice none 0 0) x o) := heap4_3 w (.cells #[.bool s, .slice A n c, .int .i64 x, .int .u32 (l : Int)] 91) (.cells #[.bool s, .slice D k d, .int .i64 y, .int .u32 (m : Int)] 91) (.cells #[.bool false, .slice none 0 0, .int .i64 0, .int .u32 0] 91) _
  have C1 := hid (add_val (hv.below B0.out) (hu.below B0.out))
  have Hop := hid hop
  clear hv hu hop
  by_cases hO : V + U < pw 40
  · rw [over_ok hO] at C1
    have HO := hid hO
    clear hO
    go_enter Tryd.func58, Tryd.ntmps58
    go_wp2
    go_step3
    go_wp2_with fail
    refine C1.out.mono ?_
    rintro e w1 ⟨v1, er, rfl, ⟨rfl⟩, Hn1, Hb1⟩
    obtain ⟨A1, n1, d1, rfl⟩ := Hn1.out.shape
    have U0 := hid (W0.out.below Hb1.out W0.out.lt)
    have U1 := hid (W1.out.below Hb1.out W1.out.lt)
    have U2 := hid (W2.out.below Hb1.out W2.out.lt)
    have U3 := hid (W3.out.below Hb1.out W3.out.lt)
    have B1 := hid (B0.out.trans (Hb1.out.mono B0.out.size))
    have f1 := U3.out.frozen 1
    have k1 := U3.out.c1
    have a3 := U0.out.c3
    have b3 := U1.out.c3
    go_upto_region 6 with fail
    obtain ⟨wx, hwx⟩ : ∃ wx, wx = w1.setCell ⟨w.heap.size + 1 + 1 + 1, 1, none⟩ (.slice A1 n1 d1) := ⟨_, rfl⟩
    have X0 : Hid (Wbox wx w.heap.size s (.slice A n c) x l) := by rw [hwx]; exact U0.out.far (by omega) _ _
    have X1 : Hid (Wbox wx (w.heap.size + 1) s (.slice D k d) y m) := by rw [hwx]; exact U1.out.far (by omega) _ _
    have X2 : Hid (Wbox wx (w.heap.size + 2) false (.slice none 0 0) 0 0) := by rw [hwx]; exact U2.out.far (by omega) _ _
    have X3 : Hid (Wbox wx (w.heap.size + 3) s (.slice A1 n1 d1) x o) := by rw [hwx]; exact U3.out.set1 _
    have NX : Hid (Num 63 (w.heap.size + 4) wx (V + U) (.slice A1 n1 d1)) := by
      have h := Hn1.out.set (g := w.heap.size + 3) (by simp) 1 (.slice A1 n1 d1)
      rw [resV_ok rfl] at h
      rw [hwx]
      exact h.mono (by simp)
    have BX : Hid (Below w.heap.size w wx) := by rw [hwx]; exact B1.out.setCell (p := ⟨w.heap.size + 3, 1, none⟩) (by show w.heap.size ≤ w.heap.size + 3; omega) _
    rw [← hwx]
    clear hwx f1 k1 a3 b3 U0 U1 U2 U3 B1 B0 W0 W1 W2 W3 C1 Hn1 Hb1
    have a3 := X0.out.c3
    have b3 := X1.out.c3
    have k1 := X3.out.c1
    have CAdd := hid (fun (w2 : World) (v2 : Value) (B : Nat) (h2 : Num 63 B w2 p v2) (hb : Below wx.heap.size wx w2) => add_val (NX.out.val.below hb) h2.val)
    have DX := hid ((Below.refl wx.heap.size wx).drew)
    have hwp : IntKind.u64.wrap (p : Int) = (p : Int) := by
      have h01 : p = 0 ∨ p = 1 := by omega
      rcases h01 with h | h <;> subst h <;> decide
    go_region_with (first
      | (go_at_call 49
         refine (of_val p (by omega) _).mono ?_
         rintro e w2 ⟨v2, rfl, Hv2, Hb2⟩
         have HB2 := hid (DX.out.trans Hb2.out)
         have k2 := (X3.out.below HB2.out X3.out.lt).c1
         have C3 := hid (CAdd.out w2 v2 _ Hv2.out HB2.out))
      | (go_at_call 70
         refine C3.out.mono ?_
         rintro e w3 ⟨v3, er3, rfl, ⟨rfl⟩, Hv3, Hb3⟩
         obtain ⟨A3, n3, d3, rfl⟩ := Hv3.out.shape
         have HB3 := hid (HB2.out.trans (Hb3.out.mono HB2.out.size))
         have f3 := (X3.out.below HB3.out X3.out.lt).frozen 1
         have k3 := (X3.out.below HB3.out X3.out.lt).c1))
    all_goals
      have Y2 := hid (X2.out.below HB3.out X2.out.lt)
      have Y3 := hid (X3.out.below HB3.out X3.out.lt)
      have BY := hid (BX.out.trans (HB3.out.mono BX.out.size))
      have NY := hid ((Hv3.out.set (g := w.heap.size + 3) (Nat.lt_of_lt_of_le X3.out.lt HB2.out.size) 1 (.slice A3 n3 d3)).put4 (g := w.heap.size + 2) (s := s) (u := .slice A3 n3 d3) (x := x) (l := o) (Nat.lt_of_lt_of_le X2.out.lt HB2.out.size))
      have SY := hid (Nat.le_trans BX.out.size HB2.out.size)
      have z0 := Y3.out.c0
      have z2 := Y3.out.c2
      have z3 := Y3.out.c3
      have g0 := Y2.out.frozen 0
      have g1 := Y2.out.frozen 1
      have g2 := Y2.out.frozen 2
      have g3 := Y2.out.frozen 3
      have b0 := Y2.out.c0
      have b1 := Y2.out.c1
      have b2 := Y2.out.c2
      have b3 := Y2.out.c3
      obtain ⟨er3, her3⟩ : ∃ er3, er3 = overErr (V + U + p) := ⟨_, rfl⟩
      rw [← her3] at NY ⊢
      have Her3 := hid her3
      clear Hv3 Hv2 Hb2 Hb3 HB3 HB2 X0 X1 X2 X3 NX CAdd C3  her3 DX
      go_wp2
      refine ret_wide rfl rfl rfl rfl ((Y2.out.far (k := w.heap.size + 3) (by omega) 1 (.slice A3 n3 d3)).store (t := s) (u := .slice A3 n3 d3) (y := x) (m := o)) ?_
      refine ⟨s, _, er3, _, o, rfl, ho1, NY.out.mono SY.out, ?_, below_put4 (BY.out.setCell (p := ⟨w.heap.size + 3, 1, none⟩) (by show w.heap.size ≤ w.heap.size + 3; omega) _) (by omega)⟩
      rw [Her3.out, ← num_like]
      have h1 := Hop.out
      by_cases ho : V + U + p < pw 40
      · rw [over_ok ho, resV_ok rfl]
        exact .inl ⟨rfl, congrArg (num s) (by omega)⟩
      · rw [over_bad ho]
        have h2 := HO.out
        exact .inr ⟨rfl, rfl, by omega⟩
  · rw [over_bad hO] at C1
    have HO := hid hO
    clear hO
    go_enter Tryd.func58, Tryd.ntmps58
    go_wp2
    go_step3
    go_wp2_with fail
    refine C1.out.mono ?_
    rintro e w1 ⟨v1, er, rfl, ⟨rfl⟩, Hn1, Hb1⟩
    obtain ⟨A1, n1, d1, rfl⟩ := Hn1.out.shape
    have U2 := hid (W2.out.below Hb1.out W2.out.lt)
    have U3 := hid (W3.out.below Hb1.out W3.out.lt)
    have B1 := hid (B0.out.trans (Hb1.out.mono B0.out.size))
    have f1 := U3.out.frozen 1
    have z0 := U3.out.c0
    have z1 := U3.out.c1
    have z2 := U3.out.c2
    have z3 := U3.out.c3
    have g0 := U2.out.frozen 0
    have g1 := U2.out.frozen 1
    have g2 := U2.out.frozen 2
    have g3 := U2.out.frozen 3
    have b0 := U2.out.c0
    have b1 := U2.out.c1
    have b2 := U2.out.c2
    have b3 := U2.out.c3
    clear C1 W0 W1 W2 W3 B0 Hb1
    go_wp2
    refine ret_wide rfl rfl rfl rfl ((U2.out.far (k := w.heap.size + 3) (by omega) 1 (.slice A1 n1 d1)).store (t := s) (u := .slice A1 n1 d1) (y := x) (m := o)) ?_
    refine ⟨s, _, 10, _, o, rfl, ho1, ((Hn1.out.set (g := w.heap.size + 3) (by simp) 1 _).put4 (by simp)).mono (by simp <;> omega), .inr ⟨rfl, rfl, ?_⟩, below_put4 (B1.out.setCell (p := ⟨w.heap.size + 3, 1, none⟩) (by show w.heap.size ≤ w.heap.size + 3; omega) _) (by omega)⟩
    have h2 := HO.out
    omega

end Go.Proofs.YtnhnddhigbbleaaDoor
