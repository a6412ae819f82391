/- Package dyad: settled. -/
import Derived.Test.YtflegkefgbifcaaDoorDtake
import Derived.Laws.ResultCell
import Derived.Laws.Rows
namespace Go.Proofs.YtflegkefgbifcaaDoor
open Go.RowKit

/-- Block g is a dyad's. -/
def Dbox (w : World) (g : Nat) (s : Bool) (v : Value) (x : Int) : Prop := w.heap[g]? = some (.cells #[.bool s, v, .int .i64 x] 24 (0, 0))
section
variable {w w' : World} {g : Nat} {s : Bool} {v : Value} {x : Int}
theorem Dbox.lt (h : Dbox w g s v x) : g < w.heap.size := lt_of_heap h
theorem Dbox.c0 (h : Dbox w g s v x) : w.cell? ⟨g, 0, none⟩ = some (.bool s) := by rw [cell_of_row w g 0 _ _ (0, 0) h]; rfl
theorem Dbox.c1 (h : Dbox w g s v x) : w.cell? ⟨g, 1, none⟩ = some v := by rw [cell_of_row w g 1 _ _ (0, 0) h]; rfl
theorem Dbox.c2 (h : Dbox w g s v x) : w.cell? ⟨g, 2, none⟩ = some (.int .i64 x) := by rw [cell_of_row w g 2 _ _ (0, 0) h]; rfl
theorem Dbox.frozen (h : Dbox w g s v x) (j : Nat) : w.frozen? ⟨g, j, none⟩ = false := frozen_of_row w g j _ _ h
theorem Dbox.below {B : Nat} (h : Dbox w g s v x) (hb : Below B w w') (hg : g < B) : Dbox w' g s v x := (hb.block g hg).trans h
theorem Dbox.grown {k : Nat} (h : Dbox w g s v x) (hb : w.grownBy w' (some k)) (hg : g ≠ k) : Dbox w' g s v x := (hb.block g h.lt (by intro e; injection e with e; exact hg e)).trans h
end

/-- d is a dyad that may be, of the call's own, and M of it. -/
def Dn (B : Nat) (w : World) (M : Int) (d : Value) : Prop := ∃ s v x V, d = .agg #[.bool s, v, .int .i64 ((x : Nat) : Int)] ∧ Num 26 B w V v ∧ Canon s V x ∧ x ≤ 1024 ∧ dv s V x = M
/-- What is told beside an error. -/
def resD (er : Int) (M : Int) : Int := if er = 0 then M else 0
theorem resD_ok {er M : Int} (h : er = 0) : resD er M = M := if_pos h
theorem resD_bad {er M : Int} (h : er ≠ 0) : resD er M = 0 := if_neg h
/-- What a call hands back that answers a dyad and an error. -/
def DRes (w : World) (E : Int → Prop) (M : Int) (e : Ending) (w' : World) : Prop := ∃ d er, e = .returned (.tuple #[d, .int .i64 er]) ∧ Hid (E er) ∧ Hid (Dn w.heap.size w' (resD er M) d) ∧ Hid (Below w.heap.size w w')
theorem Dn.zero (B : Nat) (w : World) : Dn B w 0 (.agg #[.bool false, .slice none 0 0, .int .i64 0]) :=
  ⟨false, _, 0, 0, rfl, Num.zero _ _ _, ⟨fun _ => ⟨rfl, rfl⟩, fun h => absurd h (by omega)⟩, by omega, by simp [dv, num]⟩

theorem settle_math {s : Bool} {V l x : Nat} (hl : l ≤ 1) (hx : x ≤ 1025) (hor : x = 0 ∨ l = 1) (h0 : 2 * V + l ≠ 0) : Canon s (2 * V + l) x ∧ dv s (2 * V + l) x = num s ((2 * V + l) * tp (4000 - x)) :=
  ⟨⟨fun h => absurd h h0, fun h => by omega⟩, rfl⟩
theorem Val.len0 {w : World} {V n c : Nat} {A : Option Addr} (h : Val w V (.slice A n c)) : (n = 0 ↔ V = 0) := by
  obtain ⟨A', n', c', f, hv, hr, hf, rfl⟩ := h
  injection hv with _ hn _
  subst hn
  constructor
  · rintro rfl; rfl
  · intro hV
    rcases Nat.eq_zero_or_pos n with h0 | h0
    · exact h0
    · have a := vl_ge (f := f) h0 (hf.2 h0)
      have b := pw_pos (n - 1)
      omega
theorem Val.len {w : World} {V n c : Nat} {A : Option Addr} (h : Val w V (.slice A n c)) : n ≤ 40 ∧ n ≤ c := by
  obtain ⟨A', n', c', f, hv, hr, hf, rfl⟩ := h
  injection hv with _ hn hc
  subst hn hc
  exact ⟨hf.1, hr.cap⟩

/-- The world behind a dyad that is stored into its box. -/
def put3 (w : World) (g : Nat) (s : Bool) (v : Value) (x : Int) : World := ((w.setCell ⟨g, 0, none⟩ (.bool s)).setCell ⟨g, 1, none⟩ v).setCell ⟨g, 2, none⟩ (.int .i64 x)
theorem Dbox.store {w : World} {g : Nat} {s t : Bool} {v u : Value} {x y : Int} (h : Dbox w g s v x) : Dbox (put3 w g t u y) g t u y := by
  have h0 := heap_setCell_same w g 0 _ _ (.bool t) h
  have h1 := heap_setCell_same _ g 1 _ _ u h0
  exact heap_setCell_same _ g 2 _ _ (.int .i64 y) h1
theorem below_put3 {B : Nat} {w w' : World} {g : Nat} {s : Bool} {v : Value} {x : Int} (h : Below B w w') (hg : B ≤ g) : Below B w (put3 w' g s v x) :=
  ((h.setCell (p := ⟨g, 0, none⟩) hg _).setCell (p := ⟨g, 1, none⟩) hg _).setCell (p := ⟨g, 2, none⟩) hg _
theorem Num.put3 {t : TypeId} {B V g : Nat} {w : World} {v u : Value} {s : Bool} {x : Int} (h : Num t B w V v) (hg : g < B) : Num t B (put3 w g s u x) V v := ((h.set hg 0 _).set hg 1 _).set hg 2 _

theorem cells_agg_tmp {P : Program} {fn : Func} {p u : Tmp} {ty : TypeId} (h : fn.results = #[.cell p ty, .tmp u]) (tmps : Array Value) (w : World) (g : Nat) (t : TypeId) (cs : Array Value) (fr : Nat × Nat) (d : TypeDesc)
    (hp : tmps.getD p undef = .pointer (some ⟨g, 0, none⟩)) (hg : w.heap[g]? = some (.cells cs t fr))
    (hu : P.underlying ty = some d) (hd : (match d with | .struct _ | .array _ _ => true | _ => false) = true) (hi : (P.info? ty).map (·.size) = some cs.size) :
    (results fn tmps).run P w = .ok (.tuple #[.agg cs, tmps.getD u undef]) w := by
  rw [results_cell_tmp h, hp]
  simp [asAddr, Result.andThen, run_loadVar_row w g t ty cs fr d hg hu hd hi]
theorem dyad_size : (Tryd.prog.info? 24).map (·.size) = some 3 := by kernel_rfl
theorem wide_size : (Tryd.prog.info? 46).map (·.size) = some 4 := by kernel_rfl
theorem ret_dyad {fn : Func} {R : Ending → World → Prop} {a : Act} {w : World} {p u : Tmp} {g : Nat} {s : Bool} {v er : Value} {x : Int} (h : fn.results = #[.cell p 24, .tmp u]) (hp : a.tmps.getD p undef = .pointer (some ⟨g, 0, none⟩)) (hu : a.tmps.getD u undef = er)
    (hd : a.defers = []) (hg : Dbox w g s v x) (hR : R (.returned (.tuple #[.agg #[.bool s, v, .int .i64 x], er])) w) : bodyPost Tryd.prog fn R .ret a w := by
  refine bodyPost_ret ?_ hd hR
  rw [← hu]
  exact cells_agg_tmp h a.tmps w g _ _ _ _ hp hg Tryd.underlying24 rfl dyad_size
theorem ret_wide {fn : Func} {R : Ending → World → Prop} {a : Act} {w : World} {p u : Tmp} {g l : Nat} {s : Bool} {v er : Value} {x : Int} (h : fn.results = #[.cell p 46, .tmp u]) (hp : a.tmps.getD p undef = .pointer (some ⟨g, 0, none⟩)) (hu : a.tmps.getD u undef = er)
    (hd : a.defers = []) (hg : Wbox w g s v x l) (hR : R (.returned (.tuple #[.agg #[.bool s, v, .int .i64 x, .int .u32 (l : Int)], er])) w) : bodyPost Tryd.prog fn R .ret a w := by
  refine bodyPost_ret ?_ hd hR
  rw [← hu]
  exact cells_agg_tmp h a.tmps w g _ _ _ _ hp hg Tryd.underlying46 rfl wide_size

theorem settle_less {V q k y : Nat} (hy : y ≤ 1024) (hk : k ≤ y) (hV : V = q * tp k) : (2 * V + 0) * tp (4000 - (y + 1)) = q * tp (4000 - (y - k)) := by
  subst hV
  rw [show 4000 - (y - k) = (4000 - (y + 1)) + (k + 1) by omega, tp_add, tp_succ, Nat.add_zero, Nat.mul_comm (tp (4000 - (y + 1))), ← Nat.mul_assoc, Nat.mul_comm 2, Nat.mul_assoc q, Nat.mul_comm 2 (tp k), Nat.mul_assoc]

set_option maxHeartbeats 3200000 in
theorem dsettled_any {w : World} {V l x : Nat} {s : Bool} {v : Value} {M : Int} (hv : Val w V v) (hl : l ≤ 1) (hx : x ≤ 1025) (hT : Tab w) (HM : Hid (M = num s ((2 * V + l) * tp (4000 - x)))) :
    Calls Tryd.prog 26 #[.agg #[.bool s, v, .int .i64 (x : Int), .int .u32 (l : Int)]] w (DRes w (Derr M) M) := by
  obtain ⟨A, n, c, rfl⟩ := hv.shape
  have B0 := hid (((Below.refl w.heap.size w).alloc (Nat.le_refl _) (.cells #[.bool s, .slice A n c, .int .i64 (x : Int), .int .u32 (l : Int)] 46)).alloc (by simp) (.cells #[.bool false, .slice none 0 0, .int .i64 0] 24))
  have W0 : Hid (Wbox ((w.alloc (.cells #[.bool s, .slice A n c, .int .i64 (x : Int), .int .u32 (l : Int)] 46)).alloc (.cells #[.bool false, .slice none 0 0, .int .i64 0] 24)) w.heap.size s (.slice A n c) x l) :=
    (Below.heap_alloc _ _ _ (by simp)).trans (heap_alloc_new w _)
  have D0 : Hid (Dbox ((w.alloc (.cells #[.bool s, .slice A n c, .int .i64 (x : Int), .int .u32 (l : Int)] 46)).alloc (.cells #[.bool false, .slice none 0 0, .int .i64 0] 24)) (w.heap.size + 1) false (.slice none 0 0) 0) := by
    have h := heap_alloc_new (w.alloc (.cells #[.bool s, .slice A n c, .int .i64 (x : Int), .int .u32 (l : Int)] 46)) (.cells #[.bool false, .slice none 0 0, .int .i64 0] 24)
    have e : (w.alloc (.cells #[.bool s, .slice A n c, .int .i64 (x : Int), .int .u32 (l : Int)] 46)).heap.size = w.heap.size + 1 := by simp
    rw [e] at h
    exact h
  have V0 := hid (hv.below B0.out)
  have T0 := hid (hT.below B0.out hT.lt)
  by_cases h1 : 0 < x ∧ l = 0
  · obtain ⟨h1, rfl⟩ := h1
    obtain ⟨y, rfl⟩ : ∃ y, x = y + 1 := ⟨x - 1, by omega⟩
    have hy : (((y + 1 : Nat) : Nat) : Int) = (y : Int) + 1 := by omega
    rw [hy] at B0 W0 D0 V0 T0 ⊢
    have C1 := hid (dlessen_any W0.out V0.out (by omega) T0.out)
    clear hv hT
    go_enter Tryd.func26, Tryd.ntmps26
    go_wp2_with fail
    refine C1.out.mono ?_
    rintro e w1 ⟨k, q, rfl, Hk, HT⟩
    obtain ⟨v1, hw1, hn1, hg1⟩ := HT.out
    obtain ⟨A1, n1, d1, rfl⟩ := hn1.shape
    have D1 := hid (D0.out.grown hg1 (by omega))
    have W1 := hid hw1
    have N1 := hid hn1
    have B1 := hid (Below.grown B0.out hg1 B0.out.size (fun k hk => by injection hk with hk; omega))
    have a0 := hw1.c0
    have a1 := hw1.c1
    have a2 := hw1.c2
    have b0 := D1.out.frozen 0
    have b1 := D1.out.frozen 1
    have b2 := D1.out.frozen 2
    have e0 := D1.out.c0
    have e1 := D1.out.c1
    have e2 := D1.out.c2
    have hq0 := hn1.val.len0
    have hq1 := hn1.val.len
    clear hw1 hn1 hg1 HT C1 V0 T0 W0 D0
    have hq2 : (n1 = 0 ∧ q = 0) ∨ (((n1 : Int) == 0) = false ∧ q ≠ 0) := by
      rcases Nat.eq_zero_or_pos n1 with h | h
      · exact .inl ⟨h, hq0.1 h⟩
      · refine .inr ⟨by simp; omega, fun h2 => ?_⟩
        have := hq0.2 h2
        omega
    have Hq0 := hid hq0
    clear hq0
    have hM := HM.out
    rw [settle_less (V := V) (by omega : y ≤ 1024) Hk.out.1 Hk.out.2.1] at hM
    have HM := hid hM
    clear hM
    rcases hq2 with ⟨rfl, rfl⟩ | ⟨hn0, hq0⟩
    · go_wp2
      refine ret_dyad rfl rfl rfl rfl (D1.out.store (t := false) (u := .slice none 0 0) (y := 0)) ?_
      have hM := HM.out
      rw [Nat.zero_mul, num_zero] at hM
      subst hM
      exact ⟨_, 0, rfl, .inl ⟨okay_zero, rfl⟩, Dn.zero _ _, below_put3 B1.out (by omega)⟩
    · go_wp2
      refine ret_dyad rfl rfl rfl rfl (D1.out.store (t := s) (u := .slice A1 n1 d1) (y := ((y - k : Nat) : Int))) ?_
      have hM := HM.out
      subst hM
      have hc : Canon s q (y - k) := ⟨fun h => absurd h hq0, fun h => by
        obtain ⟨_, e1, e2⟩ := Hk.out
        have := Nat.mul_ne_zero hq0 (Nat.ne_of_gt (tp_pos k))
        omega⟩
      refine ⟨_, 0, rfl, .inl ⟨⟨s, q, y - k, hc, N1.out.val.lt, by omega, rfl⟩, rfl⟩, ⟨s, _, y - k, q, rfl, ?_, hc, by omega, rfl⟩, below_put3 B1.out (by omega)⟩
      exact (N1.out.put3 (by simp)).mono (by simp; omega)
  · have hor : x = 0 ∨ l = 1 := by omega
    have C1 := hid (dtake_any W0.out V0.out hl)
    have hO : 2 * V + l < pw 40 ∨ ¬ 2 * V + l < pw 40 := by omega
    have Hset := hid (settle_math (s := s) (V := V) hl hx hor)
    clear hv hT h1
    have hor2 : x = 0 ∨ 0 < x ∧ l = 1 := by omega
    clear hor
    have hov : x ≤ 1024 ∨ 1024 < x := by omega
    have HZ : Hid (∀ n1 : Nat, (n1 = 0 ↔ 2 * V + l = 0) → (n1 = 0 ∧ 2 * V + l = 0) ∨ (((n1 : Int) == 0) = false ∧ 2 * V + l ≠ 0)) := by
      intro n1 hq
      rcases Nat.eq_zero_or_pos n1 with h | h
      · exact .inl ⟨h, hq.1 h⟩
      · refine .inr ⟨by simp; omega, fun h2 => ?_⟩
        have := hq.2 h2
        omega
    rcases hO with hO | hO
    · rw [over_ok hO] at C1
      have HO := hid hO
      clear hO
      rcases hor2 with rfl | ⟨hx0, rfl⟩
      all_goals
        go_enter Tryd.func26, Tryd.ntmps26
        go_wp2_with fail
        refine C1.out.mono ?_
        rintro e w1 ⟨er, rfl, ⟨rfl⟩, HT, hg0⟩
        obtain ⟨v1, hw1, hn1, hg1⟩ := HT.out rfl
        obtain ⟨A1, n1, d1, rfl⟩ := hn1.shape
        have D1 := hid (D0.out.grown hg1 (by omega))
        have W1 := hid hw1
        have N1 := hid hn1
        have B1 := hid (Below.grown B0.out hg1 B0.out.size (fun k hk => by injection hk with hk; omega))
        have a0 := hw1.c0
        have a1 := hw1.c1
        have a2 := hw1.c2
        have b0 := D1.out.frozen 0
        have b1 := D1.out.frozen 1
        have b2 := D1.out.frozen 2
        have e0 := D1.out.c0
        have e1 := D1.out.c1
        have e2 := D1.out.c2
        have hq0 := hn1.val.len0
        have hq1 := hn1.val.len
        clear hw1 hn1 hg1 HT C1 V0 T0 W0 D0 hg0
        have hq2 := HZ.out n1 hq0
        clear hq0 HZ
        rcases hq2 with ⟨rfl, hz⟩ | ⟨hn0, hz⟩
        · have Hz := hid hz
          clear hz
          go_wp2
          refine ret_dyad rfl rfl rfl rfl (D1.out.store (t := false) (u := .slice none 0 0) (y := 0)) ?_
          have hM := HM.out
          rw [Hz.out, Nat.zero_mul, num_zero] at hM
          subst hM
          exact ⟨_, 0, rfl, .inl ⟨okay_zero, rfl⟩, Dn.zero _ _, below_put3 B1.out (by omega)⟩
        · obtain ⟨hc, hd⟩ := Hset.out hz
          have hM := HM.out
          rw [← hd] at hM
          have HM2 := hid hM
          have Hc := hid hc
          clear hd hc hM Hset hz HM
          rcases hov with hov | hov
          · go_wp2
            refine ret_dyad rfl rfl rfl rfl (D1.out.store (t := s) (u := .slice A1 n1 d1)) ?_
            have hM := HM2.out
            subst hM
            refine ⟨_, 0, rfl, .inl ⟨⟨s, _, _, Hc.out, N1.out.val.lt, hov, rfl⟩, rfl⟩, ⟨s, _, _, _, rfl, ?_, Hc.out, hov, rfl⟩, below_put3 B1.out (by omega)⟩
            exact (N1.out.put3 (by simp)).mono (by simp; omega)
          · first
              | (exfalso; omega)
              | (go_wp2
                 refine ret_dyad rfl rfl rfl rfl (D1.out.store (t := false) (u := .slice none 0 0) (y := 0)) ?_
                 have hM := HM2.out
                 subst hM
                 refine ⟨_, 10, rfl, .inr ⟨not_okay Hc.out (by omega) (.inr hov), rfl⟩, ?_, below_put3 B1.out (by omega)⟩
                 rw [resD_bad (by decide)]
                 exact Dn.zero _ _)
    · rw [over_bad hO] at C1
      have HO := hid hO
      clear hO
      rcases hor2 with rfl | ⟨hx0, rfl⟩
      all_goals
        go_enter Tryd.func26, Tryd.ntmps26
        go_wp2_with fail
        refine C1.out.mono ?_
        rintro e w1 ⟨er, rfl, ⟨rfl⟩, HT, hg0⟩
        have D1 := hid (D0.out.grown hg0 (by omega))
        have B1 := hid (Below.grown B0.out hg0 B0.out.size (fun k hk => by injection hk with hk; omega))
        have b0 := D1.out.frozen 0
        have b1 := D1.out.frozen 1
        have b2 := D1.out.frozen 2
        have e0 := D1.out.c0
        have e1 := D1.out.c1
        have e2 := D1.out.c2
        clear HT C1 V0 T0 W0 D0 hg0
        go_wp2
        refine ret_dyad rfl rfl rfl rfl (D1.out.store (t := false) (u := .slice none 0 0) (y := 0)) ?_
        have h0 := HO.out
        have hp := pw_pos 40
        obtain ⟨hc, hd⟩ := Hset.out (by omega)
        have hM := HM.out
        rw [← hd] at hM
        subst hM
        refine ⟨_, 10, rfl, .inr ⟨not_okay hc (by omega) (.inl (by omega)), rfl⟩, ?_, below_put3 B1.out (by omega)⟩
        rw [resD_bad (by decide)]
        exact Dn.zero _ _

end Go.Proofs.YtflegkefgbifcaaDoor
