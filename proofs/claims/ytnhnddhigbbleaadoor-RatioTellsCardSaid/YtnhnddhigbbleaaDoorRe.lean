/- Package dyad: takeLast, lessen. -/
/- Package dyad: settled. -/
/- Package dyad: widened. -/
import Derived.Test.YtnhnddhigbbleaaDoorRd

namespace Go.Proofs.YtnhnddhigbbleaaDoor
open Go.RowKit

/-- Block g is a number under way. -/
def Wbox (w : World) (g : Nat) (s : Bool) (v : Value) (x : Int) (l : Nat) : Prop := w.heap[g]? = some (.cells #[.bool s, v, .int .i64 x, .int .u32 (l : Int)] 91 (0, 0))
section
variable {w w' : World} {g : Nat} {s : Bool} {v : Value} {x : Int} {l : Nat}
theorem Wbox.lt (h : Wbox w g s v x l) : g < w.heap.size := lt_of_heap h
theorem Wbox.c0 (h : Wbox w g s v x l) : w.cell? ⟨g, 0, none⟩ = some (.bool s) := by rw [cell_of_row w g 0 _ _ (0, 0) h]; rfl
theorem Wbox.c1 (h : Wbox w g s v x l) : w.cell? ⟨g, 1, none⟩ = some v := by rw [cell_of_row w g 1 _ _ (0, 0) h]; rfl
theorem Wbox.c2 (h : Wbox w g s v x l) : w.cell? ⟨g, 2, none⟩ = some (.int .i64 x) := by rw [cell_of_row w g 2 _ _ (0, 0) h]; rfl
theorem Wbox.c3 (h : Wbox w g s v x l) : w.cell? ⟨g, 3, none⟩ = some (.int .u32 (l : Int)) := by rw [cell_of_row w g 3 _ _ (0, 0) h]; rfl
theorem Wbox.frozen (h : Wbox w g s v x l) (j : Nat) : w.frozen? ⟨g, j, none⟩ = false := frozen_of_row w g j _ _ h
theorem Wbox.below {B : Nat} (h : Wbox w g s v x l) (hb : Below B w w') (hg : g < B) : Wbox w' g s v x l := (hb.block g hg).trans h
theorem Wbox.set1 (h : Wbox w g s v x l) (u : Value) : Wbox (w.setCell ⟨g, 1, none⟩ u) g s u x l := heap_setCell_same w g 1 _ _ u h
theorem Wbox.set2 (h : Wbox w g s v x l) (y : Int) : Wbox (w.setCell ⟨g, 2, none⟩ (.int .i64 y)) g s v y l := heap_setCell_same w g 2 _ _ _ h
end

/-- All but block g stays. -/
theorem grown_of_below {w w' : World} (g : Nat) (h : Below w.heap.size w w') : w.grownBy w' (some g) := ⟨h.os, h.tape, h.output, h.size, fun i hi _ => h.block i hi⟩
theorem grown_set {w w' : World} {g : Nat} (h : w.grownBy w' (some g)) (j : Nat) (u : Value) : w.grownBy (w'.setCell ⟨g, j, none⟩ u) (some g) :=
  ⟨h.os, h.tape, h.output, by simpa [World.setCell] using h.size, fun i hi hne => (Below.heap_setCell _ _ _ i (by rintro rfl; exact hne rfl)).trans (h.block i hi hne)⟩

/-- What takeLast leaves, and lessen. -/
def Took (w : World) (g : Nat) (s : Bool) (x : Int) (l : Nat) (V : Nat) (w' : World) : Prop :=
  ∃ v, Wbox w' g s v x l ∧ Num 63 w.heap.size w' V v ∧ w.grownBy w' (some g)

set_option maxHeartbeats 1600000 in
theorem dtake_any {w : World} {g V l : Nat} {s : Bool} {v : Value} {x : Int} (hw : Wbox w g s v x l) (hv : Val w V v) (hl : l ≤ 1) :
    Calls Tryd.prog 74 #[.pointer (some ⟨g, 0, none⟩)] w fun e w' => ∃ er, e = .returned (.int .i64 er) ∧ Hid (er = overErr (2 * V + l)) ∧ Hid (er = 0 → Took w g s x l (2 * V + l) w') ∧ w.grownBy w' (some g) := by
  have c1 := hw.c1
  have f1 := hw.frozen 1
  have Hw := hid hw
  have C1 := hid (left_val hv 1 (by omega))
  clear hw hv
  by_cases h1 : V * tp 1 < pw 40
  · have hO : 2 * V + l < pw 40 := by
      rw [tp_one] at h1
      have : pw 40 % 2 = 0 := by unfold pw; decide
      omega
    rw [over_ok h1] at C1
    have HO := hid hO
    clear h1 hO
    go_enter Tryd.func74, Tryd.ntmps74
    go_wp2_with fail
    refine C1.out.mono ?_
    rintro e w1 ⟨v1, er, rfl, ⟨rfl⟩, Hv1, Hb1⟩
    have Hw1 := hid (Hw.out.below Hb1.out Hw.out.lt)
    have c3 := Hw1.out.c3
    have C2 := hid (of_val l (by omega) w1)
    go_wp2_with fail
    refine C2.out.mono ?_
    rintro e w2 ⟨v2, rfl, Hv2, Hb2⟩
    have Hv1' := hid (Hv1.out.val.below Hb2.out)
    have C3 := hid (add_val Hv1'.out Hv2.out.val)
    rw [resV_ok rfl, tp_one, Nat.mul_comm V 2, over_ok HO.out] at C3
    go_wp2_with fail
    refine C3.out.mono ?_
    rintro e w3 ⟨v3, er, rfl, ⟨rfl⟩, Hv3, Hb3⟩
    have Hw3 := hid ((Hw1.out.below Hb2.out Hw1.out.lt).below Hb3.out (Nat.lt_of_lt_of_le Hw1.out.lt Hb2.out.size))
    have f3 := Hw3.out.frozen 1
    have k3 := Hw3.out.c1
    obtain ⟨A3, n3, d3, rfl⟩ := Hv3.out.shape
    have HB3 := hid (grown_set (grown_of_below g ((Hb1.out.trans (Hb2.out.mono Hb1.out.size)).trans (Hb3.out.mono (Nat.le_trans Hb1.out.size Hb2.out.size)))) 1 (.slice A3 n3 d3))
    have HV3 := hid ((Hv3.out.set (g := g) (Nat.lt_of_lt_of_le Hw1.out.lt Hb2.out.size) 1 (.slice A3 n3 d3)).mono (Nat.le_trans Hb1.out.size Hb2.out.size))
    have HW3 := hid (Hw3.out.set1 (.slice A3 n3 d3))
    clear C1 C2 C3 Hv1 Hv1' Hv2 Hb1 Hb2 Hb3
    go_wp2
    go_ret
    exact ⟨0, rfl, hid (over_ok HO.out).symm, hid (fun _ => ⟨_, HW3.out, HV3.out, HB3.out⟩), HB3.out⟩
  · have hO : ¬ 2 * V + l < pw 40 := by
      rw [tp_one] at h1
      omega
    rw [over_bad h1] at C1
    have HO := hid hO
    clear h1 hO
    go_enter Tryd.func74, Tryd.ntmps74
    go_wp2_with fail
    refine C1.out.mono ?_
    rintro e w1 ⟨v1, er, rfl, ⟨rfl⟩, Hv1, Hb1⟩
    have HB1 := hid (grown_of_below g Hb1.out)
    clear Hv1 Hb1
    go_wp2
    go_ret
    exact ⟨10, rfl, hid (over_bad HO.out).symm, hid (fun h => by cases h), HB1.out⟩

theorem lessen_math {V k0 k x : Nat} (h : LowOf V k0) (hk : k = min k0 x) : ∃ q, V = q * tp k ∧ (V = 0 ∨ k = x ∨ q % 2 = 1) := by
  rcases h with ⟨rfl, _⟩ | ⟨m, rfl⟩
  · exact ⟨0, by rw [Nat.zero_mul], .inl rfl⟩
  · rcases Nat.lt_or_ge x k0 with hx | hx
    · obtain ⟨d, rfl⟩ : ∃ d, k0 = x + d := ⟨k0 - x, by omega⟩
      obtain rfl : k = x := by omega
      refine ⟨tp d * (2 * m + 1), ?_, .inr (.inl rfl)⟩
      show tp (k + d) * _ = _
      rw [tp_add, Nat.mul_assoc, Nat.mul_comm (tp k)]
    · obtain rfl : k = k0 := by omega
      exact ⟨2 * m + 1, Nat.mul_comm _ _, .inr (.inr (by omega))⟩

set_option maxHeartbeats 1600000 in
theorem dlessen_any {w : World} {g V l x : Nat} {s : Bool} {v : Value} (hw : Wbox w g s v ((x : Int) + 1) l) (hv : Val w V v) (hx : x ≤ 1024) (hT : Tab w) :
    Calls Tryd.prog 73 #[.pointer (some ⟨g, 0, none⟩)] w fun e w' => ∃ k q : Nat, e = .returned (.tuple #[]) ∧ Hid (k ≤ x ∧ V = q * tp k ∧ (V = 0 ∨ k = x ∨ q % 2 = 1)) ∧ Hid (Took w g s ((x - k : Nat) : Int) l q w') := by
  have c1 := hw.c1
  have Hw := hid hw
  have Hv := hid hv
  have C1 := hid (low_val hv hT)
  clear hw hv hT
  go_enter Tryd.func73, Tryd.ntmps73
  go_wp2_with fail
  refine C1.out.mono ?_
  rintro e w1 ⟨k0, rfl, Hk0, Hb1⟩
  have Hw1 := hid (Hw.out.below Hb1.out Hw.out.lt)
  have Hv1 := hid (Hv.out.below Hb1.out)
  have k1 := Hw1.out.c1
  have k2 := Hw1.out.c2
  obtain ⟨k, hk⟩ : ∃ k : Nat, k = min k0 x := ⟨_, rfl⟩
  have hmin : min (k0 : Int) (x : Int) = (k : Int) := by omega
  have hL := lessen_math Hk0.out hk
  have hkx : k ≤ x := by omega
  have HL := hid hL
  have C2 := hid (right_val Hv1.out k (by omega))
  clear C1 hL Hk0
  have Hk := hid hk
  clear hk
  go_wp2_with fail
  refine C2.out.mono ?_
  rintro e w2 ⟨v2, er, rfl, ⟨rfl⟩, Hv2, Hb2⟩
  obtain ⟨A2, n2, d2, rfl⟩ := Hv2.out.shape
  have Hw2 := hid (Hw1.out.below Hb2.out Hw1.out.lt)
  have f1 := Hw2.out.frozen 1
  have j1 := Hw2.out.c1
  have j2 := Hw2.out.c2
  have f2 := (Hw2.out.set1 (.slice A2 n2 d2)).frozen 2
  go_wp2
  go_end0
  obtain ⟨q, hq, hor⟩ := HL.out
  have hVq : V / tp k = q := by rw [hq, Nat.mul_div_cancel _ (tp_pos k)]
  have hv2 := Hv2.out
  rw [resV_ok rfl, hVq] at hv2
  have hlt := Nat.lt_of_lt_of_le Hw.out.lt Hb1.out.size
  refine ⟨k, q, rfl, hid ⟨hkx, hq, hor⟩, hid ⟨_, ?_, ((hv2.set hlt 1 _).set hlt 2 _).mono Hb1.out.size, grown_set (grown_set (grown_of_below g (Hb1.out.trans (Hb2.out.mono Hb1.out.size))) _ _) _ _⟩⟩
  have h := (Hw2.out.set1 (.slice A2 n2 d2)).set2 ((x : Int) + 1 - ((k : Int) + 1))
  rwa [show ((x - k : Nat) : Int) = (x : Int) + 1 - ((k : Int) + 1) by omega]

end Go.Proofs.YtnhnddhigbbleaaDoor


namespace Go.Proofs.YtnhnddhigbbleaaDoor
open Go.RowKit

theorem settle_math {s : Bool} {V l x : Nat} (hl : l ≤ 1) (hx : x ≤ 1025) (hor : x = 0 ∨ l = 1) (h0 : 2 * V + l ≠ 0) : Canon s (2 * V + l) x ∧ dv s (2 * V + l) x = num s ((2 * V + l) * tp (4000 - x)) :=
  ⟨⟨fun h => absurd h h0, fun h => by omega⟩, rfl⟩
theorem wide_size : (Tryd.prog.info? 91).map (·.size) = some 4 := by kernel_rfl
theorem ret_wide {fn : Func} {R : Ending → World → Prop} {a : Act} {w : World} {p u : Tmp} {g l : Nat} {s : Bool} {v er : Value} {x : Int} (h : fn.results = #[.cell p 91, .tmp u]) (hp : a.tmps.getD p undef = .pointer (some ⟨g, 0, none⟩)) (hu : a.tmps.getD u undef = er)
    (hd : a.defers = []) (hg : Wbox w g s v x l) (hR : R (.returned (.tuple #[.agg #[.bool s, v, .int .i64 x, .int .u32 (l : Int)], er])) w) : bodyPost Tryd.prog fn R .ret a w := by
  refine bodyPost_ret ?_ hd hR
  rw [← hu]
  exact cells_agg_tmp h a.tmps w g _ _ _ _ hp hg Tryd.underlying91 rfl wide_size

theorem settle_less {V q k y : Nat} (hy : y ≤ 1024) (hk : k ≤ y) (hV : V = q * tp k) : (2 * V + 0) * tp (4000 - (y + 1)) = q * tp (4000 - (y - k)) := by
  subst hV
  rw [show 4000 - (y - k) = (4000 - (y + 1)) + (k + 1) by omega, tp_add, tp_succ, Nat.add_zero, Nat.mul_comm (tp (4000 - (y + 1))), ← Nat.mul_assoc, Nat.mul_comm 2, Nat.mul_assoc q, Nat.mul_comm 2 (tp k), Nat.mul_assoc]

set_option maxHeartbeats 3200000 in
theorem dsettled_any {w : World} {V l x : Nat} {s : Bool} {v : Value} {M : Int} (hv : Val w V v) (hl : l ≤ 1) (hx : x ≤ 1025) (hT : Tab w) (HM : Hid (M = num s ((2 * V + l) * tp (4000 - x)))) :
    Calls Tryd.prog 59 #[.agg #[.bool s, v, .int .i64 (x : Int), .int .u32 (l : Int)]] w (DRes w (Derr M) M) := by
  obtain ⟨A, n, c, rfl⟩ := hv.shape
  have B0 := hid (((Below.refl w.heap.size w).alloc (Nat.le_refl _) (.cells #[.bool s, .slice A n c, .int .i64 (x : Int), .int .u32 (l : Int)] 91)).alloc (by simp) (.cells #[.bool false, .slice none 0 0, .int .i64 0] 24))
  have W0 : Hid (Wbox ((w.alloc (.cells #[.bool s, .slice A n c, .int .i64 (x : Int), .int .u32 (l : Int)] 91)).alloc (.cells #[.bool false, .slice none 0 0, .int .i64 0] 24)) w.heap.size s (.slice A n c) x l) :=
    (Below.heap_alloc _ _ _ (by simp)).trans (heap_alloc_new w _)
  have D0 : Hid (Dbox ((w.alloc (.cells #[.bool s, .slice A n c, .int .i64 (x : Int), .int .u32 (l : Int)] 91)).alloc (.cells #[.bool false, .slice none 0 0, .int .i64 0] 24)) (w.heap.size + 1) false (.slice none 0 0) 0) := by
    have h := heap_alloc_new (w.alloc (.cells #[.bool s, .slice A n c, .int .i64 (x : Int), .int .u32 (l : Int)] 91)) (.cells #[.bool false, .slice none 0 0, .int .i64 0] 24)
    have e : (w.alloc (.cells #[.bool s, .slice A n c, .int .i64 (x : Int), .int .u32 (l : Int)] 91)).heap.size = w.heap.size + 1 := by simp
    rw [e] at h
    exact h
  have V0 := hid (hv.below B0.out)
  have T0 := hid (hT.below B0.out hT.lt)
  by_cases h1 : 0 < x ∧ l = 0
  · obtain ⟨h1, rfl⟩ := h1
    obtain ⟨y, rfl⟩ : ∃ y, x = y + 1 := ⟨x - 1, by omega⟩
    have hy : (((y + 1 : Nat) : Nat) : Int) = (y : Int) + 1 := by omega
    rw [hy] at B0 W0 D0 V0 T0 ⊢
    have C1 := hid (dlessen_any W0.out V0.out (by omega) T0.out)
    clear hv hT
    go_enter Tryd.func59, Tryd.ntmps59
    go_wp2_with fail
    refine C1.out.mono ?_
    rintro e w1 ⟨k, q, rfl, Hk, HT⟩
    obtain ⟨v1, hw1, hn1, hg1⟩ := HT.out
    obtain ⟨A1, n1, d1, rfl⟩ := hn1.shape
    have D1 := hid (D0.out.grown hg1 (by omega))
    have W1 := hid hw1
    have N1 := hid hn1
    have B1 := hid (Below.grown B0.out hg1 B0.out.size (fun k hk => by injection hk with hk; omega))
    have a0 := hw1.c0
    have a1 := hw1.c1
    have a2 := hw1.c2
    have b0 := D1.out.frozen 0
    have b1 := D1.out.frozen 1
    have b2 := D1.out.frozen 2
    have e0 := D1.out.c0
    have e1 := D1.out.c1
    have e2 := D1.out.c2
    have hq0 := hn1.val.len0
    have hq1 := hn1.val.len
    clear hw1 hn1 hg1 HT C1 V0 T0 W0 D0
    have hq2 : (n1 = 0 ∧ q = 0) ∨ (((n1 : Int) == 0) = false ∧ q ≠ 0) := by
      rcases Nat.eq_zero_or_pos n1 with h | h
      · exact .inl ⟨h, hq0.1 h⟩
      · refine .inr ⟨by simp; omega, fun h2 => ?_⟩
        have := hq0.2 h2
        omega
    have Hq0 := hid hq0
    clear hq0
    have hM := HM.out
    rw [settle_less (V := V) (by omega : y ≤ 1024) Hk.out.1 Hk.out.2.1] at hM
    have HM := hid hM
    clear hM
    rcases hq2 with ⟨rfl, rfl⟩ | ⟨hn0, hq0⟩
    · go_wp2
      refine ret_dyad rfl rfl rfl rfl (D1.out.store (t := false) (u := .slice none 0 0) (y := 0)) ?_
      have hM := HM.out
      rw [Nat.zero_mul, num_zero] at hM
      subst hM
      exact ⟨_, 0, rfl, .inl ⟨okay_zero, rfl⟩, Dn.zero _ _, below_put3 B1.out (by omega)⟩
    · go_wp2
      refine ret_dyad rfl rfl rfl rfl (D1.out.store (t := s) (u := .slice A1 n1 d1) (y := ((y - k : Nat) : Int))) ?_
      have hM := HM.out
      subst hM
      have hc : Canon s q (y - k) := ⟨fun h => absurd h hq0, fun h => by
        obtain ⟨_, e1, e2⟩ := Hk.out
        have := Nat.mul_ne_zero hq0 (Nat.ne_of_gt (tp_pos k))
        omega⟩
      refine ⟨_, 0, rfl, .inl ⟨⟨s, q, y - k, hc, N1.out.val.lt, by omega, rfl⟩, rfl⟩, ⟨s, _, y - k, q, rfl, ?_, hc, by omega, rfl⟩, below_put3 B1.out (by omega)⟩
      exact (N1.out.put3 (by simp)).mono (by simp; omega)
  · have hor : x = 0 ∨ l = 1 := by omega
    have C1 := hid (dtake_any W0.out V0.out hl)
    have hO : 2 * V + l < pw 40 ∨ ¬ 2 * V + l < pw 40 := by omega
    have Hset := hid (settle_math (s := s) (V := V) hl hx hor)
    clear hv hT h1
    have hor2 : x = 0 ∨ 0 < x ∧ l = 1 := by omega
    clear hor
    have hov : x ≤ 1024 ∨ 1024 < x := by omega
    have HZ : Hid (∀ n1 : Nat, (n1 = 0 ↔ 2 * V + l = 0) → (n1 = 0 ∧ 2 * V + l = 0) ∨ (((n1 : Int) == 0) = false ∧ 2 * V + l ≠ 0)) := by
      intro n1 hq
      rcases Nat.eq_zero_or_pos n1 with h | h
      · exact .inl ⟨h, hq.1 h⟩
      · refine .inr ⟨by simp; omega, fun h2 => ?_⟩
        have := hq.2 h2
        omega
    rcases hO with hO | hO
    · rw [over_ok hO] at C1
      have HO := hid hO
      clear hO
      rcases hor2 with rfl | ⟨hx0, rfl⟩
      all_goals
        go_enter Tryd.func59, Tryd.ntmps59
        go_wp2_with fail
        refine C1.out.mono ?_
        rintro e w1 ⟨er, rfl, ⟨rfl⟩, HT, hg0⟩
        obtain ⟨v1, hw1, hn1, hg1⟩ := HT.out rfl
        obtain ⟨A1, n1, d1, rfl⟩ := hn1.shape
        have D1 := hid (D0.out.grown hg1 (by omega))
        have W1 := hid hw1
        have N1 := hid hn1
        have B1 := hid (Below.grown B0.out hg1 B0.out.size (fun k hk => by injection hk with hk; omega))
        have a0 := hw1.c0
        have a1 := hw1.c1
        have a2 := hw1.c2
        have b0 := D1.out.frozen 0
        have b1 := D1.out.frozen 1
        have b2 := D1.out.frozen 2
        have e0 := D1.out.c0
        have e1 := D1.out.c1
        have e2 := D1.out.c2
        have hq0 := hn1.val.len0
        have hq1 := hn1.val.len
        clear hw1 hn1 hg1 HT C1 V0 T0 W0 D0 hg0
        have hq2 := HZ.out n1 hq0
        clear hq0 HZ
        rcases hq2 with ⟨rfl, hz⟩ | ⟨hn0, hz⟩
        · have Hz := hid hz
          clear hz
          go_wp2
          refine ret_dyad rfl rfl rfl rfl (D1.out.store (t := false) (u := .slice none 0 0) (y := 0)) ?_
          have hM := HM.out
          rw [Hz.out, Nat.zero_mul, num_zero] at hM
          subst hM
          exact ⟨_, 0, rfl, .inl ⟨okay_zero, rfl⟩, Dn.zero _ _, below_put3 B1.out (by omega)⟩
        · obtain ⟨hc, hd⟩ := Hset.out hz
          have hM := HM.out
          rw [← hd] at hM
          have HM2 := hid hM
          have Hc := hid hc
          clear hd hc hM Hset hz HM
          rcases hov with hov | hov
          · go_wp2
            refine ret_dyad rfl rfl rfl rfl (D1.out.store (t := s) (u := .slice A1 n1 d1)) ?_
            have hM := HM2.out
            subst hM
            refine ⟨_, 0, rfl, .inl ⟨⟨s, _, _, Hc.out, N1.out.val.lt, hov, rfl⟩, rfl⟩, ⟨s, _, _, _, rfl, ?_, Hc.out, hov, rfl⟩, below_put3 B1.out (by omega)⟩
            exact (N1.out.put3 (by simp)).mono (by simp; omega)
          · first
              | (exfalso; omega)
              | (go_wp2
                 refine ret_dyad rfl rfl rfl rfl (D1.out.store (t := false) (u := .slice none 0 0) (y := 0)) ?_
                 have hM := HM2.out
                 subst hM
                 refine ⟨_, 10, rfl, .inr ⟨not_okay Hc.out (by omega) (.inr hov), rfl⟩, ?_, below_put3 B1.out (by omega)⟩
                 rw [resD_bad (by decide)]
                 exact Dn.zero _ _)
    · rw [over_bad hO] at C1
      have HO := hid hO
      clear hO
      rcases hor2 with rfl | ⟨hx0, rfl⟩
      all_goals
        go_enter Tryd.func59, Tryd.ntmps59
        go_wp2_with fail
        refine C1.out.mono ?_
        rintro e w1 ⟨er, rfl, ⟨rfl⟩, HT, hg0⟩
        have D1 := hid (D0.out.grown hg0 (by omega))
        have B1 := hid (Below.grown B0.out hg0 B0.out.size (fun k hk => by injection hk with hk; omega))
        have b0 := D1.out.frozen 0
        have b1 := D1.out.frozen 1
        have b2 := D1.out.frozen 2
        have e0 := D1.out.c0
        have e1 := D1.out.c1
        have e2 := D1.out.c2
        clear HT C1 V0 T0 W0 D0 hg0
        go_wp2
        refine ret_dyad rfl rfl rfl rfl (D1.out.store (t := false) (u := .slice none 0 0) (y := 0)) ?_
        have h0 := HO.out
        have hp := pw_pos 40
        obtain ⟨hc, hd⟩ := Hset.out (by omega)
        have hM := HM.out
        rw [← hd] at hM
        subst hM
        refine ⟨_, 10, rfl, .inr ⟨not_okay hc (by omega) (.inl (by omega)), rfl⟩, ?_, below_put3 B1.out (by omega)⟩
        rw [resD_bad (by decide)]
        exact Dn.zero _ _

end Go.Proofs.YtnhnddhigbbleaaDoor


namespace Go.Proofs.YtnhnddhigbbleaaDoor
open Go.RowKit

/-- The world behind a wide number that is stored into its box. -/
def put4 (w : World) (g : Nat) (s : Bool) (v : Value) (x : Int) (l : Nat) : World := (((w.setCell ⟨g, 0, none⟩ (.bool s)).setCell ⟨g, 1, none⟩ v).setCell ⟨g, 2, none⟩ (.int .i64 x)).setCell ⟨g, 3, none⟩ (.int .u32 (l : Int))
theorem Wbox.store {w : World} {g l m : Nat} {s t : Bool} {v u : Value} {x y : Int} (h : Wbox w g s v x l) : Wbox (put4 w g t u y m) g t u y m := by
  have h0 := heap_setCell_same w g 0 _ _ (.bool t) h
  have h1 := heap_setCell_same _ g 1 _ _ u h0
  have h2 := heap_setCell_same _ g 2 _ _ (.int .i64 y) h1
  exact heap_setCell_same _ g 3 _ _ (.int .u32 (m : Int)) h2
theorem below_put4 {B : Nat} {w w' : World} {g l : Nat} {s : Bool} {v : Value} {x : Int} (h : Below B w w') (hg : B ≤ g) : Below B w (put4 w' g s v x l) :=
  (((h.setCell (p := ⟨g, 0, none⟩) hg _).setCell (p := ⟨g, 1, none⟩) hg _).setCell (p := ⟨g, 2, none⟩) hg _).setCell (p := ⟨g, 3, none⟩) hg _
theorem Num.put4 {t : TypeId} {B V g l : Nat} {w : World} {v u : Value} {s : Bool} {x : Int} (h : Num t B w V v) (hg : g < B) : Num t B (put4 w g s u x l) V v := (((h.set hg 0 _).set hg 1 _).set hg 2 _).set hg 3 _
theorem Wbox.far {w : World} {g k l : Nat} {s : Bool} {v : Value} {x : Int} (h : Wbox w g s v x l) (hk : g ≠ k) (j : Nat) (u : Value) : Wbox (w.setCell ⟨k, j, none⟩ u) g s v x l := (Below.heap_setCell w ⟨k, j, none⟩ u g hk).trans h

/-- What widened tells: the wide number, or that it is too great. -/
def WRes (w : World) (s : Bool) (x E V : Nat) (e : Ending) (w' : World) : Prop := ∃ v er V' l, e = .returned (.tuple #[.agg #[.bool s, v, .int .i64 (E : Int), .int .u32 ((l : Nat) : Int)], .int .i64 er]) ∧ l ≤ 1 ∧
  Hid (Num 63 w.heap.size w' V' v) ∧ Hid ((er = 0 ∧ 2 * V' + l = V * tp (E - x)) ∨ (er = 10 ∧ x < E ∧ 2 * pw 40 ≤ V * tp (E - x))) ∧ Hid (Below w.heap.size w w')

set_option maxHeartbeats 3200000 in
theorem dwidened_any {w : World} {V x E n c : Nat} {A : Option Addr} {f : Nat → Nat} {s : Bool} (hr : Rd w w.heap.size A n c f) (hf : Fit n f) (hV : vl f n = V) (hE : E ≤ 1024) (hx : x ≤ E) :
    Calls Tryd.prog 57 #[.agg #[.bool s, .slice A n c, .int .i64 (x : Int)], .int .i64 (E : Int)] w (WRes w s x E V) := by
  have B0 := hid ((((Below.refl w.heap.size w).alloc (Nat.le_refl _) (.cells #[.bool s, .slice A n c, .int .i64 (x : Int)] 24)).alloc (by simp) (.cells #[.bool false, .slice none 0 0, .int .i64 0, .int .u32 0] 91)).alloc (by simp; omega) (.cells #[.bool s, .slice none 0 0, .int .i64 (E : Int), .int .u32 0] 91))
  have W1 : Hid (Wbox _ (w.heap.size + 1) false (.slice none 0 0) 0 0) := heap3_1 w (.cells #[.bool s, .slice A n c, .int .i64 (x : Int)] 24) (.cells #[.bool false, .slice none 0 0, .int .i64 0, .int .u32 0] 91) (.cells #[.bool s, .slice none 0 0, .int .i64 (E : Int), .int .u32 0] 91)
  have W2 : Hid (Wbox _ (w.heap.size + 2) s (.slice none 0 0) (E : Int) 0) := heap3_2 w (.cells #[.bool s, .slice A n c, .int .i64 (x : Int)] 24) (.cells #[.bool false, .slice none 0 0, .int .i64 0, .int .u32 0] 91) (.cells #[.bool s, .slice none 0 0, .int .i64 (E : Int), .int .u32 0] 91)
  have D0 : Hid (Dbox _ w.heap.size s (.slice A n c) (x : Int)) := heap3_0 w (.cells #[.bool s, .slice A n c, .int .i64 (x : Int)] 24) (.cells #[.bool false, .slice none 0 0, .int .i64 0, .int .u32 0] 91) (.cells #[.bool s, .slice none 0 0, .int .i64 (E : Int), .int .u32 0] 91)
  have hval : Val w V (.slice A n c) := ⟨A, n, c, f, rfl, hr, hf, hV⟩
  have V0 := hid (hval.below B0.out)
  have C2 := hid (fun w' (hb : Below w.heap.size w w') => lowest_any (hr.below hb))
  rcases Nat.lt_or_ge x E with hlt | hge
  · have C1 := hid (left_val V0.out (E - x - 1) (by omega))
    rw [show ((E - x - 1 : Nat) : Int) = (E : Int) - (x : Int) - 1 by omega] at C1
    have hd : ((x : Nat) : Int) < (E : Int) := by omega
    obtain ⟨er0, her0⟩ : ∃ er0, er0 = overErr (V * tp (E - x - 1)) := ⟨_, rfl⟩
    rw [← her0] at C1
    have Her0 := hid her0
    clear hr hf hV hval C2 V0 her0 D0
    go_enter Tryd.func57, Tryd.ntmps57
    go_wp2_with fail
    refine C1.out.mono ?_
    rintro e w1 ⟨v1, er, rfl, ⟨rfl⟩, Hn1, Hb1⟩
    obtain ⟨A1, n1, d1, rfl⟩ := Hn1.out.shape
    have U1 := hid (W1.out.below Hb1.out W1.out.lt)
    have U2 := hid (W2.out.below Hb1.out W2.out.lt)
    have B1 := hid (B0.out.trans (Hb1.out.mono B0.out.size))
    have a0 := U2.out.c0
    have a1 := U2.out.c1
    have a2 := U2.out.c2
    have a3 := U2.out.c3
    have f1 := U2.out.frozen 1
    have g0 := U1.out.frozen 0
    have g1 := U1.out.frozen 1
    have g2 := U1.out.frozen 2
    have g3 := U1.out.frozen 3
    have b0 := U1.out.c0
    have b1 := U1.out.c1
    have b2 := U1.out.c2
    have b3 := U1.out.c3
    clear C1 W1 W2 B0 Hb1
    go_wp2
    refine ret_wide rfl rfl rfl rfl ((U1.out.far (k := w.heap.size + 2) (by omega) 1 (.slice A1 n1 d1)).store (t := s) (u := .slice A1 n1 d1) (y := (E : Int)) (m := 0)) ?_
    refine ⟨_, _, _, 0, rfl, by omega, ((Hn1.out.set (by simp) 1 _).put4 (by simp)).mono (by simp; omega), ?_, below_put4 (B1.out.setCell (p := ⟨w.heap.size + 2, 1, none⟩) (by show w.heap.size ≤ w.heap.size + 2; omega) _) (by omega)⟩
    have hd2 : tp (E - x) = tp (E - x - 1) * 2 := by
      rw [← tp_succ]
      congr 1
      omega
    rw [hd2, Nat.add_zero, Her0.out, ← Nat.mul_assoc]
    by_cases ho : V * tp (E - x - 1) < pw 40
    · rw [over_ok ho, resV_ok rfl]
      exact .inl ⟨rfl, by omega⟩
    · rw [over_bad ho]
      exact .inr ⟨rfl, hlt, by omega⟩
  · obtain rfl : x = E := by omega
    have C1 := hid (right_val V0.out 1 (by omega))
    have hm2 : vl f n % 2 = f 0 % 2 := by
      rcases Nat.eq_zero_or_pos n with h0 | h0
      · subst h0
        rw [hr.out 0 (Nat.le_refl _)]
        rfl
      · rw [show n = 1 + (n - 1) by omega, vl_shift]
        have : pw 1 % 2 = 0 := by decide
        rw [show vl f 1 = f 0 by simp [vl, pw], show pw 1 = 2 * 2147483648 by decide, Nat.mul_assoc]
        omega
    have hfl : f 0 % 2 ≤ 1 := by omega
    have Hm2 := hid hm2
    have HV := hid hV
    have hd : ¬ (((x : Nat) : Int) < (x : Int)) := by omega
    clear hr hf hV hval V0 hm2
    generalize f 0 % 2 = l at *
    go_enter Tryd.func57, Tryd.ntmps57
    go_wp2_with fail
    refine C1.out.mono ?_
    rintro e w1 ⟨v1, er, rfl, ⟨rfl⟩, Hn1, Hb1⟩
    obtain ⟨A1, n1, d1, rfl⟩ := Hn1.out.shape
    have U1 := hid (W1.out.below Hb1.out W1.out.lt)
    have U2 := hid (W2.out.below Hb1.out W2.out.lt)
    have B1 := hid (B0.out.trans (Hb1.out.mono B0.out.size))
    have a0 := U2.out.c0
    have a1 := U2.out.c1
    have a2 := U2.out.c2
    have a3 := U2.out.c3
    have f1 := U2.out.frozen 1
    have f3 := U2.out.frozen 3
    have g0 := U1.out.frozen 0
    have g1 := U1.out.frozen 1
    have g2 := U1.out.frozen 2
    have g3 := U1.out.frozen 3
    have b0 := U1.out.c0
    have b1 := U1.out.c1
    have b2 := U1.out.c2
    have b3 := U1.out.c3
    have i1 := (D0.out.below Hb1.out D0.out.lt).c1
    have C3 := hid (C2.out _ (B1.out.setCell (p := ⟨w.heap.size + 2, 1, none⟩) (by show w.heap.size ≤ w.heap.size + 2; omega) (.slice A1 n1 d1)))
    clear C1 C2 D0 W1 W2 B0 Hb1
    go_wp2_with fail
    refine C3.out.mono ?_
    rintro e w' ⟨rfl, rfl⟩
    go_wp2
    refine ret_wide rfl rfl rfl rfl (((U1.out.far (k := w.heap.size + 2) (by omega) 1 (.slice A1 n1 d1)).far (k := w.heap.size + 2) (by omega) 3 (.int .u32 (l : Int))).store (t := s) (u := .slice A1 n1 d1) (y := (x : Int)) (m := l)) ?_
    refine ⟨_, _, _, l, rfl, hfl, (((Hn1.out.set (by simp) 1 _).set (by simp) 3 _).put4 (by simp)).mono (by simp; omega), ?_, below_put4 ((B1.out.setCell (p := ⟨w.heap.size + 2, 1, none⟩) (by show w.heap.size ≤ w.heap.size + 2; omega) _).setCell (p := ⟨w.heap.size + 2, 3, none⟩) (by show w.heap.size ≤ w.heap.size + 2; omega) _) (by omega)⟩
    rw [Nat.sub_self, tp_zero, Nat.mul_one, resV_ok rfl, tp_one]
    have a := Hm2.out
    rw [HV.out] at a
    exact .inl ⟨rfl, by omega⟩

end Go.Proofs.YtnhnddhigbbleaaDoor

