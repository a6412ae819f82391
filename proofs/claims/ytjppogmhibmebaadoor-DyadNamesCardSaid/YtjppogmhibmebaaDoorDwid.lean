/- Package dyad: widened. -/
import Derived.Test.YtjppogmhibmebaaDoorDset
namespace Go.Proofs.YtjppogmhibmebaaDoor
open Go.RowKit

/-- The world behind a wide number that is stored into its box. -/
def put4 (w : World) (g : Nat) (s : Bool) (v : Value) (x : Int) (l : Nat) : World := (((w.setCell ⟨g, 0, none⟩ (.bool s)).setCell ⟨g, 1, none⟩ v).setCell ⟨g, 2, none⟩ (.int .i64 x)).setCell ⟨g, 3, none⟩ (.int .u32 (l : Int))
theorem Wbox.store {w : World} {g l m : Nat} {s t : Bool} {v u : Value} {x y : Int} (h : Wbox w g s v x l) : Wbox (put4 w g t u y m) g t u y m := by
  have h0 := heap_setCell_same w g 0 _ _ (.bool t) h
  have h1 := heap_setCell_same _ g 1 _ _ u h0
  have h2 := heap_setCell_same _ g 2 _ _ (.int .i64 y) h1
  exact heap_setCell_same _ g 3 _ _ (.int .u32 (m : Int)) h2
theorem below_put4 {B : Nat} {w w' : World} {g l : Nat} {s : Bool} {v : Value} {x : Int} (h : Below B w w') (hg : B ≤ g) : Below B w (put4 w' g s v x l) :=
  (((h.setCell (p := ⟨g, 0, none⟩) hg _).setCell (p := ⟨g, 1, none⟩) hg _).setCell (p := ⟨g, 2, none⟩) hg _).setCell (p := ⟨g, 3, none⟩) hg _
theorem Num.put4 {t : TypeId} {B V g l : Nat} {w : World} {v u : Value} {s : Bool} {x : Int} (h : Num t B w V v) (hg : g < B) : Num t B (put4 w g s u x l) V v := (((h.set hg 0 _).set hg 1 _).set hg 2 _).set hg 3 _
theorem Wbox.far {w : World} {g k l : Nat} {s : Bool} {v : Value} {x : Int} (h : Wbox w g s v x l) (hk : g ≠ k) (j : Nat) (u : Value) : Wbox (w.setCell ⟨k, j, none⟩ u) g s v x l := (Below.heap_setCell w ⟨k, j, none⟩ u g hk).trans h

/-- What widened tells: the wide number, or that it is too great. -/
def WRes (w : World) (s : Bool) (x E V : Nat) (e : Ending) (w' : World) : Prop := ∃ v er V' l, e = .returned (.tuple #[.agg #[.bool s, v, .int .i64 (E : Int), .int .u32 ((l : Nat) : Int)], .int .i64 er]) ∧ l ≤ 1 ∧
  Hid (Num 26 w.heap.size w' V' v) ∧ Hid ((er = 0 ∧ 2 * V' + l = V * tp (E - x)) ∨ (er = 10 ∧ x < E ∧ 2 * pw 40 ≤ V * tp (E - x))) ∧ Hid (Below w.heap.size w w')

set_option maxHeartbeats 3200000 in
theorem dwidened_any {w : World} {V x E n c : Nat} {A : Option Addr} {f : Nat → Nat} {s : Bool} (hr : Rd w w.heap.size A n c f) (hf : Fit n f) (hV : vl f n = V) (hE : E ≤ 1024) (hx : x ≤ E) :
    Calls Tryd.prog 35 #[.agg #[.bool s, .slice A n c, .int .i64 (x : Int)], .int .i64 (E : Int)] w (WRes w s x E V) := by
  have B0 := hid ((((Below.refl w.heap.size w).alloc (Nat.le_refl _) (.cells #[.bool s, .slice A n c, .int .i64 (x : Int)] 24)).alloc (by simp) (.cells #[.bool false, .slice none 0 0, .int .i64 0, .int .u32 0] 50)).alloc (by simp; omega) (.cells #[.bool s, .slice none 0 0, .int .i64 (E : Int), .int .u32 0] 50))
  have W1 : Hid (Wbox _ (w.heap.size + 1) false (.slice none 0 0) 0 0) := heap3_1 w (.cells #[.bool s, .slice A n c, .int .i64 (x : Int)] 24) (.cells #[.bool false, .slice none 0 0, .int .i64 0, .int .u32 0] 50) (.cells #[.bool s, .slice none 0 0, .int .i64 (E : Int), .int .u32 0] 50)
  have W2 : Hid (Wbox _ (w.heap.size + 2) s (.slice none 0 0) (E : Int) 0) := heap3_2 w (.cells #[.bool s, .slice A n c, .int .i64 (x : Int)] 24) (.cells #[.bool false, .slice none 0 0, .int .i64 0, .int .u32 0] 50) (.cells #[.bool s, .slice none 0 0, .int .i64 (E : Int), .int .u32 0] 50)
  have D0 : Hid (Dbox _ w.heap.size s (.slice A n c) (x : Int)) := heap3_0 w (.cells #[.bool s, .slice A n c, .int .i64 (x : Int)] 24) (.cells #[.bool false, .slice none 0 0, .int .i64 0, .int .u32 0] 50) (.cells #[.bool s, .slice none 0 0, .int .i64 (E : Int), .int .u32 0] 50)
  have hval : Val w V (.slice A n c) := ⟨A, n, c, f, rfl, hr, hf, hV⟩
  have V0 := hid (hval.below B0.out)
  have C2 := hid (fun w' (hb : Below w.heap.size w w') => lowest_any (hr.below hb))
  rcases Nat.lt_or_ge x E with hlt | hge
  · have C1 := hid (left_val V0.out (E - x - 1) (by omega))
    rw [show ((E - x - 1 : Nat) : Int) = (E : Int) - (x : Int) - 1 by omega] at C1
    have hd : ((x : Nat) : Int) < (E : Int) := by omega
    obtain ⟨er0, her0⟩ : ∃ er0, er0 = overErr (V * tp (E - x - 1)) := ⟨_, rfl⟩
    rw [← her0] at C1
    have Her0 := hid her0
    clear hr hf hV hval C2 V0 her0 D0
    go_enter Tryd.func35, Tryd.ntmps35
    go_wp2_with fail
    refine C1.out.mono ?_
    rintro e w1 ⟨v1, er, rfl, ⟨rfl⟩, Hn1, Hb1⟩
    obtain ⟨A1, n1, d1, rfl⟩ := Hn1.out.shape
    have U1 := hid (W1.out.below Hb1.out W1.out.lt)
    have U2 := hid (W2.out.below Hb1.out W2.out.lt)
    have B1 := hid (B0.out.trans (Hb1.out.mono B0.out.size))
    have a0 := U2.out.c0
    have a1 := U2.out.c1
    have a2 := U2.out.c2
    have a3 := U2.out.c3
    have f1 := U2.out.frozen 1
    have g0 := U1.out.frozen 0
    have g1 := U1.out.frozen 1
    have g2 := U1.out.frozen 2
    have g3 := U1.out.frozen 3
    have b0 := U1.out.c0
    have b1 := U1.out.c1
    have b2 := U1.out.c2
    have b3 := U1.out.c3
    clear C1 W1 W2 B0 Hb1
    go_wp2
    refine ret_wide rfl rfl rfl rfl ((U1.out.far (k := w.heap.size + 2) (by omega) 1 (.slice A1 n1 d1)).store (t := s) (u := .slice A1 n1 d1) (y := (E : Int)) (m := 0)) ?_
    refine ⟨_, _, _, 0, rfl, by omega, ((Hn1.out.set (by simp) 1 _).put4 (by simp)).mono (by simp; omega), ?_, below_put4 (B1.out.setCell (p := ⟨w.heap.size + 2, 1, none⟩) (by show w.heap.size ≤ w.heap.size + 2; omega) _) (by omega)⟩
    have hd2 : tp (E - x) = tp (E - x - 1) * 2 := by
      rw [← tp_succ]
      congr 1
      omega
    rw [hd2, Nat.add_zero, Her0.out, ← Nat.mul_assoc]
    by_cases ho : V * tp (E - x - 1) < pw 40
    · rw [over_ok ho, resV_ok rfl]
      exact .inl ⟨rfl, by omega⟩
    · rw [over_bad ho]
      exact .inr ⟨rfl, hlt, by omega⟩
  · obtain rfl : x = E := by omega
    have C1 := hid (right_val V0.out 1 (by omega))
    have hm2 : vl f n % 2 = f 0 % 2 := by
      rcases Nat.eq_zero_or_pos n with h0 | h0
      · subst h0
        rw [hr.out 0 (Nat.le_refl _)]
        rfl
      · rw [show n = 1 + (n - 1) by omega, vl_shift]
        have : pw 1 % 2 = 0 := by decide
        rw [show vl f 1 = f 0 by simp [vl, pw], show pw 1 = 2 * 2147483648 by decide, Nat.mul_assoc]
        omega
    have hfl : f 0 % 2 ≤ 1 := by omega
    have Hm2 := hid hm2
    have HV := hid hV
    have hd : ¬ (((x : Nat) : Int) < (x : Int)) := by omega
    clear hr hf hV hval V0 hm2
    generalize f 0 % 2 = l at *
    go_enter Tryd.func35, Tryd.ntmps35
    go_wp2_with fail
    refine C1.out.mono ?_
    rintro e w1 ⟨v1, er, rfl, ⟨rfl⟩, Hn1, Hb1⟩
    obtain ⟨A1, n1, d1, rfl⟩ := Hn1.out.shape
    have U1 := hid (W1.out.below Hb1.out W1.out.lt)
    have U2 := hid (W2.out.below Hb1.out W2.out.lt)
    have B1 := hid (B0.out.trans (Hb1.out.mono B0.out.size))
    have a0 := U2.out.c0
    have a1 := U2.out.c1
    have a2 := U2.out.c2
    have a3 := U2.out.c3
    have f1 := U2.out.frozen 1
    have f3 := U2.out.frozen 3
    have g0 := U1.out.frozen 0
    have g1 := U1.out.frozen 1
    have g2 := U1.out.frozen 2
    have g3 := U1.out.frozen 3
    have b0 := U1.out.c0
    have b1 := U1.out.c1
    have b2 := U1.out.c2
    have b3 := U1.out.c3
    have i1 := (D0.out.below Hb1.out D0.out.lt).c1
    have C3 := hid (C2.out _ (B1.out.setCell (p := ⟨w.heap.size + 2, 1, none⟩) (by show w.heap.size ≤ w.heap.size + 2; omega) (.slice A1 n1 d1)))
    clear C1 C2 D0 W1 W2 B0 Hb1
    go_wp2_with fail
    refine C3.out.mono ?_
    rintro e w' ⟨rfl, rfl⟩
    go_wp2
    refine ret_wide rfl rfl rfl rfl (((U1.out.far (k := w.heap.size + 2) (by omega) 1 (.slice A1 n1 d1)).far (k := w.heap.size + 2) (by omega) 3 (.int .u32 (l : Int))).store (t := s) (u := .slice A1 n1 d1) (y := (x : Int)) (m := l)) ?_
    refine ⟨_, _, _, l, rfl, hfl, (((Hn1.out.set (by simp) 1 _).set (by simp) 3 _).put4 (by simp)).mono (by simp; omega), ?_, below_put4 ((B1.out.setCell (p := ⟨w.heap.size + 2, 1, none⟩) (by show w.heap.size ≤ w.heap.size + 2; omega) _).setCell (p := ⟨w.heap.size + 2, 3, none⟩) (by show w.heap.size ≤ w.heap.size + 2; omega) _) (by omega)⟩
    rw [Nat.sub_self, tp_zero, Nat.mul_one, resV_ok rfl, tp_one]
    have a := Hm2.out
    rw [HV.out] at a
    exact .inl ⟨rfl, by omega⟩

end Go.Proofs.YtjppogmhibmebaaDoor
