/- Package dyad: plus, of unlike signs. -/
import Derived.Test.YtnhnddhigbbleaaDoorDplus
import Derived.ScopeJumps
namespace Go.Proofs.YtnhnddhigbbleaaDoor
open Go.RowKit

/-- A scope from which the run jumps to a label once at most, forward. -/
theorem wp_scope_once {P : Program} {a : Act} {w : World} {Q : Exit → Act → World → Prop} {c rest : Code} (l : Nat) (hf : findLabel c l = some rest)
    (first : c.wp P (Exit.jump l (fun a w => rest.wp P (Exit.noGoto Q) a w) Q) a w) : (Code.scope c).wp P Q a w := by
  refine wp_scope_jumps l (fun a w => rest.wp P (Exit.noGoto Q) a w) (fun _ _ => 0) hf first fun a w h => Code.wp_mono ?_ h
  intro e a w h
  cases e with
  | goto l' => exact h.elim
  | normal => exact h
  | exit id => exact h
  | ret => exact h
  | panic ch => exact h
  | outgrown => exact h

theorem unlike_math {V U l m : Nat} (hl : l ≤ 1) (hm : m ≤ 1) (h : 2 * U + m ≤ 2 * V + l) : ∃ o p : Nat, o ≤ 1 ∧ p ≤ 1 ∧ bits BinOp.xor IntKind.u32 (l : Int) (m : Int) = (o : Int) ∧ bits BinOp.xor IntKind.u32 (m : Int) (l : Int) = (o : Int) ∧ bits BinOp.andNot IntKind.u32 (m : Int) (l : Int) = (p : Int) ∧
    U ≤ V ∧ p ≤ V - U ∧ 2 * (V - U - p) + o = (2 * V + l) - (2 * U + m) := by
  have h1 : l = 0 ∨ l = 1 := by omega
  have h2 : m = 0 ∨ m = 1 := by omega
  rcases h1 with rfl | rfl <;> rcases h2 with rfl | rfl
  · exact ⟨0, 0, by omega, by omega, by decide, by decide, by decide, by omega, by omega, by omega⟩
  · exact ⟨1, 1, by omega, by omega, by decide, by decide, by decide, by omega, by omega, by omega⟩
  · exact ⟨1, 0, by omega, by omega, by decide, by decide, by decide, by omega, by omega, by omega⟩
  · exact ⟨0, 0, by omega, by omega, by decide, by decide, by decide, by omega, by omega, by omega⟩

theorem Wbox.set0 {w : World} {g l : Nat} {s : Bool} {v : Value} {x : Int} (h : Wbox w g s v x l) (t : Bool) : Wbox (w.setCell ⟨g, 0, none⟩ (.bool t)) g t v x l := heap_setCell_same w g 0 _ _ (.bool t) h
theorem Wbox.far4 {w : World} {g k l m : Nat} {s t : Bool} {v u : Value} {x y : Int} (h : Wbox w g s v x l) (hk : g ≠ k) : Wbox (put4 w k t u y m) g s v x l := (((h.far hk 0 _).far hk 1 _).far hk 2 _).far hk 3 _

set_option maxHeartbeats 3200000 in
theorem dplus_unlike {w : World} {V U l m : Nat} {s : Bool} {v u : Value} {x y : Int} (hv : Val w V v) (hu : Val w U u) (hl : l ≤ 1) (hm : m ≤ 1) (hle : 2 * U + m ≤ 2 * V + l) :
    Calls Tryd.prog 58 #[.agg #[.bool s, v, .int .i64 x, .int .u32 (l : Int)], .agg #[.bool (!s), u, .int .i64 y, .int .u32 (m : Int)]] w (PRes w s (!s) x (2 * V + l) (2 * U + m)) := by
  obtain ⟨A, n, c, rfl⟩ := hv.shape
  obtain ⟨D, k, d, rfl⟩ := hu.shape
  obtain ⟨o, p, ho1, hp1, hxo, hxo2, hpa, hUV, hpd, hop⟩ := unlike_math hl hm hle
  have B0 := hid (below4 w (.cells #[.bool s, .slice A n c, .int .i64 x, .int .u32 (l : Int)] 91) (.cells #[.bool (!s), .slice D k d, .int .i64 y, .int .u32 (m : Int)] 91) (.cells #[.bool false, .slice none 0 0, .int .i64 0, .int .u32 0] 91) (.cells #[.bool s, .slice none 0 0, .int .i64 x, .int .u32 (o : Int)] 91))
  have W0 : Hid (Wbox _ w.heap.size s (.slice A n c) x l) := heap4_0 w _ (.cells #[.bool (!s), .slice D k d, .int .i64 y, .int .u32 (m : Int)] 91) (.cells #[.bool false, .slice none 0 0, .int .i64 0, .int .u32 0] 91) (.cells #[.bool s, .slice none 0 0, .int .i64 x, .int .u32 (o : Int)] 91)
  have W1 : Hid (Wbox _ (w.heap.size + 1) (!s) (.slice D k d) y m) := heap4_1 w (.cells #[.bool s, .slice A n c, .int .i64 x, .int .u32 (l : Int)] 91) _ (.cells #[.bool false, .slice none 0 0, .int .i64 0, .int .u32 0] 91) (.cells #[.bool s, .slice none 0 0, .int .i64 x, .int .u32 (o : Int)] 91)
  have W2 : Hid (Wbox _ (w.heap.size + 2) false (.slice none 0 0) 0 0) := heap4_2 w (.cells #[.bool s, .slice A n c, .int .i64 x, .int .u32 (l : Int)] 91) (.cells #[.bool (!s), .slice D k d, .int .i64 y, .int .u32 (m : Int)] 91) _ (.cells #[.bool s, .slice none 0 0, .int .i64 x, .int .u32 (o : Int)] 91)
  have W3 : Hid (Wbox _ (w.heap.size + 3) s (.slice none 0 0) x o) := heap4_3 w (.cells #[.bool s, .slice A n c, .int .i64 x, .int .u32 (l : Int)] 91) (.cells #[.bool (!s), .slice D k d, .int .i64 y, .int .u32 (m : Int)] 91) (.cells #[.bool false, .slice none 0 0, .int .i64 0, .int .u32 0] 91) _
  have C1 := hid (dsmaller_any (s := s) (t := !s) (x := x) (y := y) (hv.below B0.out) (hu.below B0.out) hl hm)
  rw [bool_of_not (by omega : ¬ 2 * V + l < 2 * U + m)] at C1
  have VA := hid hv
  have VB := hid hu
  have Hmath := hid (And.intro hUV (And.intro hpd (And.intro hop hle)))
  clear hv hu hle hUV hpd hop
  go_enter Tryd.func58, Tryd.ntmps58
  go_wp2
  refine wp_scope_once 0 rfl ?_
  go_wp2
  go_step3
  refine ⟨rfl, ?_⟩
  show Code.wp _ _ _ _ _
  go_wp2_with fail
  refine C1.out.mono ?_
  rintro e w1 ⟨rfl, Hb1⟩
  have U0 := hid (W0.out.below Hb1 W0.out.lt)
  have U1 := hid (W1.out.below Hb1 W1.out.lt)
  have U2 := hid (W2.out.below Hb1 W2.out.lt)
  have U3 := hid (W3.out.below Hb1 W3.out.lt)
  have B1 := hid (B0.out.trans (Hb1.mono B0.out.size))
  clear W0 W1 W2 W3 B0 C1 Hb1
  have C2 := hid (sub_val (VA.out.below B1.out) (VB.out.below B1.out) Hmath.out.1)
  have a1 := U0.out.c1
  have b1 := U1.out.c1
  go_wp2_with fail
  refine C2.out.mono ?_
  rintro e w2 ⟨v2, er, rfl, ⟨rfl⟩, Hn2, Hb2⟩
  obtain ⟨A2, n2, d2, rfl⟩ := Hn2.out.shape
  have T3 := hid (U3.out.below Hb2.out U3.out.lt)
  have f1 := T3.out.frozen 1
  have k1 := T3.out.c1
  go_upto_region 12 with fail
  obtain ⟨wx, hwx⟩ : ∃ wx, wx = w2.setCell ⟨w.heap.size + 1 + 1 + 1, 1, none⟩ (.slice A2 n2 d2) := ⟨_, rfl⟩
  have X0 : Hid (Wbox wx w.heap.size s (.slice A n c) x l) := by rw [hwx]; exact (U0.out.below Hb2.out U0.out.lt).far (by omega) _ _
  have X1 : Hid (Wbox wx (w.heap.size + 1) (!s) (.slice D k d) y m) := by rw [hwx]; exact (U1.out.below Hb2.out U1.out.lt).far (by omega) _ _
  have X2 : Hid (Wbox wx (w.heap.size + 2) false (.slice none 0 0) 0 0) := by rw [hwx]; exact (U2.out.below Hb2.out U2.out.lt).far (by omega) _ _
  have X3 : Hid (Wbox wx (w.heap.size + 3) s (.slice A2 n2 d2) x o) := by rw [hwx]; exact T3.out.set1 _
  have NX : Hid (Num 63 (w.heap.size + 4) wx (V - U) (.slice A2 n2 d2)) := by
    have h := Hn2.out.set (g := w.heap.size + 3) U3.out.lt 1 (.slice A2 n2 d2)
    rw [resV_ok rfl] at h
    rw [hwx]
    exact h.mono U3.out.lt
  have BX : Hid (Below w.heap.size w wx) := by rw [hwx]; exact (B1.out.trans (Hb2.out.mono B1.out.size)).setCell (p := ⟨w.heap.size + 3, 1, none⟩) (by show w.heap.size ≤ w.heap.size + 3; omega) _
  rw [← hwx]
  clear hwx f1 k1 a1 b1 U0 U1 U2 U3 B1 C2 Hn2 Hb2 T3
  have a3 := X0.out.c3
  have b3 := X1.out.c3
  have k1 := X3.out.c1
  have CSub := hid (fun (w2 : World) (v2 : Value) (B : Nat) (h2 : Num 63 B w2 p v2) (hb : Below wx.heap.size wx w2) => sub_val (NX.out.val.below hb) h2.val Hmath.out.2.1)
  have DX := hid ((Below.refl wx.heap.size wx).drew)
  have hwp : IntKind.u64.wrap (p : Int) = (p : Int) := by
    have h01 : p = 0 ∨ p = 1 := by omega
    rcases h01 with h | h <;> subst h <;> decide
  go_region_with (first
      | (go_at_call 49
         refine (of_val p (by omega) _).mono ?_
         rintro e w2 ⟨v2, rfl, Hv2, Hb2⟩
         have HB2 := hid (DX.out.trans Hb2.out)
         have k2 := (X3.out.below HB2.out X3.out.lt).c1
         have C3 := hid (CSub.out w2 v2 _ Hv2.out HB2.out))
      | (go_at_call 72
         refine C3.out.mono ?_
         rintro e w3 ⟨v3, er3, rfl, ⟨rfl⟩, Hv3, Hb3⟩
         obtain ⟨A3, n3, d3, rfl⟩ := Hv3.out.shape
         have HB3 := hid (HB2.out.trans (Hb3.out.mono HB2.out.size))
         have f3 := (X3.out.below HB3.out X3.out.lt).frozen 1
         have k3 := (X3.out.below HB3.out X3.out.lt).c1))
  all_goals
    have Y2 := hid (X2.out.below HB3.out X2.out.lt)
    have Y3 := hid (X3.out.below HB3.out X3.out.lt)
    have BY := hid (BX.out.trans (HB3.out.mono BX.out.size))
    have NY := hid ((Hv3.out.set (g := w.heap.size + 3) (Nat.lt_of_lt_of_le X3.out.lt HB2.out.size) 1 (.slice A3 n3 d3)).put4 (g := w.heap.size + 2) (s := s) (u := .slice A3 n3 d3) (x := x) (l := o) (Nat.lt_of_lt_of_le X2.out.lt HB2.out.size))
    have SY := hid (Nat.le_trans BX.out.size HB2.out.size)
    have z0 := Y3.out.c0
    have z2 := Y3.out.c2
    have z3 := Y3.out.c3
    have g0 := Y2.out.frozen 0
    have g1 := Y2.out.frozen 1
    have g2 := Y2.out.frozen 2
    have g3 := Y2.out.frozen 3
    have b0 := Y2.out.c0
    have b1 := Y2.out.c1
    have b2 := Y2.out.c2
    have b3 := Y2.out.c3
    clear Hv3 Hv2 Hb2 Hb3 HB3 HB2 X0 X1 X2 X3 NX CSub C3 DX
    go_wp2
    refine ret_wide rfl rfl rfl rfl ((Y2.out.far (k := w.heap.size + 3) (by omega) 1 (.slice A3 n3 d3)).store (t := s) (u := .slice A3 n3 d3) (y := x) (m := o)) ?_
    refine ⟨s, _, 0, _, o, rfl, ho1, NY.out.mono SY.out, .inl ⟨rfl, ?_⟩, below_put4 (BY.out.setCell (p := ⟨w.heap.size + 3, 1, none⟩) (by show w.heap.size ≤ w.heap.size + 3; omega) _) (by omega)⟩
    obtain ⟨h1, h2, h3, h4⟩ := Hmath.out
    rw [resV_ok rfl, h3]
    exact num_unlike (by cases s <;> simp) h4

end Go.Proofs.YtnhnddhigbbleaaDoor
