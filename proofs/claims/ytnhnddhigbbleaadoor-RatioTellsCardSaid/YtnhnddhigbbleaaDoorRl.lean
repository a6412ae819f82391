/- Package ratio: the digits of a quotient, put together: plain arithmetic. No code is walked here. -/
/- Package ratio: where the digits of a quotient begin, and what they tell together: plain arithmetic. No code is walked here. -/
/- Package ratio: what divide's loop keeps. No code is walked here. -/
/- Package ratio: a number compared with nothing; what the loop's end tells. -/
/- Package ratio: how divide returns. -/
import Derived.Test.YtnhnddhigbbleaaDoorRk
import Derived.Test.YtnhnddhigbbleaaDoorRh
import Derived.Test.YtnhnddhigbbleaaDoorRj
import Derived.ChangeKeysEq
import Derived.RangeFuncNested
import Derived.RangeFuncLeaves
import Derived.RangeFuncRecord

namespace Go.Proofs.YtnhnddhigbbleaaDoor
open Go.RowKit

/-- The quotient's first j digits, as a number. -/
def qt (R D j : Nat) : Nat := R * 2 ^ j / D
theorem qt_zero {R D : Nat} (h : R < D) : qt R D 0 = 0 := by unfold qt; rw [Nat.pow_zero, Nat.mul_one, Nat.div_eq_of_lt h]
theorem qt_succ {first : Int} {R D : Nat} (j : Nat) : qt R D (j + 1) = 2 * qt R D j + (dgt first R D j).2 := by
  unfold qt dgt
  show _ = 2 * (R * 2 ^ j / D) + R * 2 ^ (j + 1) / D % 2
  have h : R * 2 ^ j / D = R * 2 ^ (j + 1) / D / 2 := by
    rw [Nat.pow_succ, ← Nat.mul_assoc, Nat.div_div_eq_div_mul, Nat.mul_div_mul_right _ _ (by omega)]
  rw [h]
  omega
theorem dgt_le (first : Int) (R D k : Nat) : (dgt first R D k).2 ≤ 1 := by show R * 2 ^ (k + 1) / D % 2 ≤ 1; omega
theorem qt_pow {R D : Nat} (j d : Nat) : qt R D j * 2 ^ d ≤ qt R D (j + d) := by
  induction d with
  | zero => simp
  | succ d ih =>
    rw [← Nat.add_assoc, qt_succ (first := 0), Nat.pow_succ]
    have : qt R D j * (2 ^ d * 2) = 2 * (qt R D j * 2 ^ d) := by rw [← Nat.mul_assoc]; omega
    omega
theorem qt_div {R D : Nat} (j d : Nat) : qt R D (j + d) / 2 ^ d = qt R D j := by
  unfold qt
  rw [Nat.pow_add, ← Nat.mul_assoc, Nat.div_div_eq_div_mul, Nat.mul_div_mul_right _ _ (Nat.pow_pos (by omega))]

/-- What a digit does to the limbs of the whole part. -/
def wput (F : Nat → Nat) (q v : Nat) (j : Nat) : Nat := if j = q then v else F j
def wst (F : Nat → Nat) (x : Int × Nat) : Nat → Nat :=
  if 0 ≤ x.1 ∧ x.1 < 1280 then wput F (x.1.toNat / 32) (F (x.1.toNat / 32) ||| x.2 * 2 ^ (x.1.toNat % 32)) else F
/-- What it does to the parts. -/
def pst (last : Int) (p : Nat) (x : Int × Nat) : Nat := if x.1 < 0 ∧ last < x.1 then p * 2 % 18446744073709551616 ||| x.2 else p
/-- What it does to the half. -/
def hst (last : Int) (h : Bool) (x : Int × Nat) : Bool := if x.1 < 0 ∧ x.1 ≤ last then decide (0 < x.2) else h

theorem wst_lt {F : Nat → Nat} {x : Int × Nat} (hF : ∀ j, F j < 4294967296) (hx : x.2 ≤ 1) (j : Nat) : wst F x j < 4294967296 := by
  unfold wst
  split
  · unfold wput
    split
    · refine Nat.or_lt_two_pow (n := 32) (hF _) ?_
      have : (2 : Nat) ^ (x.1.toNat % 32) ≤ 2 ^ 31 := Nat.pow_le_pow_right (by omega) (by omega)
      have := Nat.mul_le_mul hx this
      omega
    · exact hF j
  · exact hF j

/-- The whole part's limbs hold the digits so far, each at its place. -/
theorem whole_upto {first : Int} {R D : Nat} (h0 : R < D) {u : Nat} (hu : u = (first + 1).toNat) : ∀ j : Nat, (∀ i, i < j → 1280 ≤ first - i → (dgt first R D i).2 = 0) →
    ∃ F, F = (upto (dgt first R D) j).foldl wst (fun _ => 0) ∧ (∀ i, F i < 4294967296) ∧ vl F 40 = qt R D (min j u) * 2 ^ (u - min j u)
  | 0, _ => ⟨_, rfl, fun _ => by show 0 < _; omega, by rw [Nat.zero_min, qt_zero h0, Nat.zero_mul]; exact (vl_above (k := 0) (by omega) (fun _ _ _ => rfl)).trans rfl⟩
  | j + 1, hz => by
    obtain ⟨F, hF, hl, hv⟩ := whole_upto h0 hu j (fun i hi => hz i (by omega))
    have hd1 := dgt_le first R D j
    have hq := qt_succ (first := first) (R := R) (D := D) j
    refine ⟨_, rfl, ?_⟩
    rw [upto_succ, List.foldl_append, ← hF]
    show (∀ i, wst F (dgt first R D j) i < _) ∧ vl (wst F (dgt first R D j)) 40 = _
    refine ⟨wst_lt hl hd1, ?_⟩
    have hx : (dgt first R D j).1 = first - j := rfl
    generalize hd : (dgt first R D j) = x at *
    obtain ⟨i, d⟩ := x
    dsimp only at hx hq hd1
    subst hx
    rcases Nat.lt_or_ge j u with hju | hju
    · rw [Nat.min_eq_left (by omega : j ≤ u)] at hv
      rw [Nat.min_eq_left (by omega : j + 1 ≤ u), hq]
      obtain ⟨t, ht⟩ : ∃ t, u - j = t + 1 := ⟨u - j - 1, by omega⟩
      have ht2 : u - (j + 1) = t := by omega
      have hti : first - j = (t : Int) := by omega
      rw [ht] at hv
      rw [ht2, Nat.add_mul, Nat.mul_comm 2, Nat.mul_assoc, show 2 * 2 ^ t = 2 ^ (t + 1) by rw [Nat.pow_succ, Nat.mul_comm], ← hv]
      unfold wst
      dsimp only
      rw [hti]
      by_cases h1280 : t < 1280
      · rw [if_pos ⟨by omega, by omega⟩, Int.toNat_natCast]
        have hlow := limb_low (t := t) (N := 40) hl (by omega) hv
        have hsm : d * 2 ^ (t % 32) < 2 ^ (t % 32 + 1) := by
          rw [Nat.pow_succ, Nat.mul_comm _ 2]
          have := Nat.mul_le_mul_right (2 ^ (t % 32)) hd1
          have h2 : 0 < 2 ^ (t % 32) := Nat.pow_pos (by omega)
          omega
        rw [nat_join _ _ _ hlow hsm]
        unfold wput
        rw [vl_grow (by omega), Nat.mul_assoc, pw_tp]
        unfold tp
        rw [← Nat.pow_add, show t % 32 + 32 * (t / 32) = t by omega]
      · rw [if_neg (by omega)]
        have hd0 : d = 0 := by have := hz j (by omega) (by omega); rw [hd] at this; exact this
        rw [hd0, Nat.zero_mul, Nat.add_zero]
    · rw [Nat.min_eq_right hju] at hv
      rw [Nat.min_eq_right (by omega : u ≤ j + 1)]
      unfold wst
      rw [if_neg (by dsimp only; omega)]
      exact hv

/-- The parts hold the digits behind the whole part, but for the last one. -/
theorem parts_upto {first last : Int} {R D : Nat} (h0 : R < D) {u N : Nat} (hu : u = (first + 1).toNat) (hN : N = (first - last + 1).toNat) (hl : -65 ≤ last) : ∀ j : Nat, j ≤ N →
    (upto (dgt first R D) j).foldl (pst last) 0 = qt R D (min j (N - 1)) % 2 ^ (min j (N - 1) - u)
  | 0, _ => by rw [Nat.zero_min, qt_zero h0]; simp [upto]
  | j + 1, hj => by
    have ih := parts_upto h0 hu hN hl j (by omega)
    rw [upto_succ, List.foldl_append, ih]
    show pst last _ (dgt first R D j) = _
    have hd1 := dgt_le first R D j
    have hq := qt_succ (first := first) (R := R) (D := D) j
    have hx : (dgt first R D j).1 = first - j := rfl
    generalize hd : (dgt first R D j) = x at *
    obtain ⟨i, d⟩ := x
    dsimp only at hx hq hd1
    subst hx
    unfold pst
    dsimp only
    rw [Nat.min_eq_left (by omega : j ≤ N - 1)]
    by_cases hlast : j + 1 ≤ N - 1
    · rw [Nat.min_eq_left hlast]
      by_cases hneg : first - j < 0
      · rw [if_pos ⟨hneg, by omega⟩, hq]
        have hs : j + 1 - u = (j - u) + 1 := by omega
        have hlt : j - u ≤ 63 := by omega
        generalize j - u = s at *
        generalize qt R D j = T at *
        rw [hs]
        have hm : T % 2 ^ s < 2 ^ 63 := Nat.lt_of_lt_of_le (Nat.mod_lt _ (Nat.pow_pos (by omega))) (Nat.pow_le_pow_right (by omega) hlt)
        have h63 : (2 : Nat) ^ 63 = 9223372036854775808 := rfl
        rw [Nat.mod_eq_of_lt (a := T % 2 ^ s * 2) (by omega), nat_join 1 _ d (by rw [Nat.pow_one]; omega) (by rw [Nat.pow_one]; omega), Nat.pow_succ, Nat.mul_comm (2 ^ s) 2, Nat.mod_mul, Nat.mul_add_div (by omega), Nat.mul_add_mod, Nat.mod_eq_of_lt (a := d) (by omega), Nat.div_eq_of_lt (a := d) (by omega), Nat.add_zero]
        omega
      · rw [if_neg (by omega), show j - u = 0 by omega, show j + 1 - u = 0 by omega, Nat.pow_zero, Nat.mod_one, Nat.mod_one]
    · rw [Nat.min_eq_right (by omega : N - 1 ≤ j + 1), if_neg (by omega), show N - 1 = j by omega]

/-- The half is the last digit. -/
theorem half_upto {first last : Int} {R D : Nat} (h0 : R < D) {N : Nat} (hN : N = (first - last + 1).toNat) (hl : last < 0) : ∀ j : Nat, j ≤ N →
    (upto (dgt first R D) j).foldl (hst last) false = (decide (j = N) && decide (qt R D j % 2 = 1))
  | 0, _ => by rw [qt_zero h0]; simp [upto]
  | j + 1, hj => by
    have ih := half_upto h0 hN hl j (by omega)
    rw [upto_succ, List.foldl_append, ih]
    show hst last _ (dgt first R D j) = _
    have hd1 := dgt_le first R D j
    have hq := qt_succ (first := first) (R := R) (D := D) j
    have hx : (dgt first R D j).1 = first - j := rfl
    generalize hd : (dgt first R D j) = x at *
    obtain ⟨i, d⟩ := x
    dsimp only at hx hq hd1
    subst hx
    unfold hst
    dsimp only
    by_cases hlast : j + 1 = N
    · rw [if_pos (by omega), hq, decide_eq_true hlast, Bool.true_and]
      congr 1
      simp
      omega
    · rw [if_neg (by omega), decide_eq_false hlast, Bool.false_and, decide_eq_false (by omega : ¬ j = N), Bool.false_and]

end Go.Proofs.YtnhnddhigbbleaaDoor


namespace Go.Proofs.YtnhnddhigbbleaaDoor
open Go.RowKit

theorem size_pos1 {V z : Nat} (h : Size V z) (hV : 0 < V) : 1 ≤ z := by
  rcases Nat.eq_zero_or_pos z with h0 | h0
  · have := h.1
    rw [h0] at this
    omega
  · exact h0
theorem fit_size {n z : Nat} {f : Nat → Nat} (hf : Fit n f) (h : Size (vl f n) z) : 32 * n ≤ z + 31 := by
  rcases Nat.eq_zero_or_pos n with h0 | h0
  · omega
  · have h1 := vl_ge h0 (hf.2 h0)
    have h2 := Nat.lt_of_le_of_lt h1 h.1
    rw [pw_tp] at h2
    unfold tp at h2
    have h3 : 32 * (n - 1) < z := (Nat.pow_lt_pow_iff_right (by omega)).1 h2
    omega
/-- A number that is placed is less than the divisor. -/
theorem place_lt {Va Vb z1 z2 : Nat} (h1 : Size Va z1) (h2 : Size Vb z2) (hb : 0 < Vb) (hz : z1 ≤ 1280) : Va * tp (1279 + z2 - z1) < Vb * pw 40 := by
  have hp := size_pos1 h2 hb
  have h3 := h2.2 (by omega)
  have e : tp z1 * tp (1279 + z2 - z1) = tp (z2 - 1) * pw 40 := by
    rw [pw_tp, ← tp_add, ← tp_add]
    congr 1
    omega
  have h4 : Va * tp (1279 + z2 - z1) < tp z1 * tp (1279 + z2 - z1) := Nat.mul_lt_mul_of_pos_right h1.1 (tp_pos _)
  rw [e] at h4
  exact Nat.lt_of_lt_of_le h4 (Nat.mul_le_mul_right _ h3)

theorem cross_div {X Y D B : Nat} (hD : 0 < D) (hB : 0 < B) (h : X * B = Y * D) : X / D = Y / B ∧ (X % D = 0 ↔ Y % B = 0) := by
  constructor
  · rw [← Nat.mul_div_mul_right X D hB, h, Nat.mul_comm D B, Nat.mul_div_mul_right _ _ hD]
  · rw [← Nat.dvd_iff_mod_eq_zero, ← Nat.dvd_iff_mod_eq_zero, ← Nat.mul_dvd_mul_iff_right hB, h, Nat.mul_comm D B, Nat.mul_dvd_mul_iff_right hD]

theorem mul_four (a b x y p q : Nat) (h : x * y = p * q) : a * x * (b * y) = a * p * (b * q) := by
  rw [Nat.mul_mul_mul_comm, h, Nat.mul_mul_mul_comm]

/-- All digits together are the quotient. -/
theorem div_all {Va Vb z1 z2 ea eb k t N : Nat} {first : Int} (h1 : Size Va z1) (h2 : Size Vb z2) (hb : 0 < Vb) (hz : z1 ≤ 1280) (hea : ea ≤ 1024) (heb : eb ≤ 1024) (ht : t = 1279 + z2 - z1)
    (hf : first = (z1 : Int) - 1 - ea - (z2 - 1 - eb)) (hN : N = (first + k + 2).toNat) :
    Va * tp t * 2 ^ N / (Vb * pw 40) = Va * tp (4000 - ea) * 2 ^ (k + 1) / (Vb * tp (4000 - eb)) ∧ (Va * tp t * 2 ^ N % (Vb * pw 40) = 0 ↔ Va * tp (4000 - ea) * 2 ^ (k + 1) % (Vb * tp (4000 - eb)) = 0) := by
  have hp := size_pos1 h2 hb
  have hD : 0 < Vb * pw 40 := Nat.mul_pos hb (pw_pos _)
  have hB : 0 < Vb * tp (4000 - eb) := Nat.mul_pos hb (tp_pos _)
  have hlt := place_lt h1 h2 hb hz
  rw [← ht] at hlt
  rcases Int.lt_or_le (first + k + 2) 0 with hn | hn
  · have hN0 : N = 0 := by omega
    obtain ⟨s, hs⟩ : ∃ s : Nat, first + k + 2 = -(s : Int) := ⟨(-(first + k + 2)).toNat, by omega⟩
    have hex : Va * tp (4000 - ea) * 2 ^ (k + 1) * 2 ^ s * (Vb * pw 40) = Va * tp t * (Vb * tp (4000 - eb)) := by
      rw [pw_tp]
      have e : 4000 - ea + (k + 1) + s + 32 * 40 = t + (4000 - eb) := by omega
      show Va * tp (4000 - ea) * tp (k + 1) * tp s * (Vb * tp (32 * 40)) = Va * tp t * (Vb * tp (4000 - eb))
      have e2 := mul_four Va Vb (tp (4000 - ea) * tp (k + 1) * tp s) (tp (32 * 40)) (tp t) (tp (4000 - eb)) (by rw [← tp_add, ← tp_add, ← tp_add, ← tp_add, e])
      rw [← e2]
      simp only [Nat.mul_assoc]
    have hless : Va * tp (4000 - ea) * 2 ^ (k + 1) < Vb * tp (4000 - eb) := by
      refine Nat.lt_of_mul_lt_mul_right (a := Vb * pw 40) ?_
      refine Nat.lt_of_le_of_lt ?_ (Nat.lt_of_lt_of_eq (Nat.mul_lt_mul_of_pos_right hlt hB) (Nat.mul_comm _ _))
      rw [← hex]
      exact Nat.mul_le_mul_right _ (Nat.le_mul_of_pos_right _ (Nat.pow_pos (by omega)))
    rw [hN0, Nat.pow_zero, Nat.mul_one, Nat.div_eq_of_lt hlt, Nat.div_eq_of_lt hless, Nat.mod_eq_of_lt hlt, Nat.mod_eq_of_lt hless]
    refine ⟨rfl, ?_⟩
    have p1 := tp_pos t
    have p2 := tp_pos (4000 - ea)
    have p3 : 0 < 2 ^ (k + 1) := Nat.pow_pos (by omega)
    simp only [Nat.mul_eq_zero]
    omega
  · refine cross_div hD hB ?_
    rw [pw_tp]
    have e : t + N + (4000 - eb) = 4000 - ea + (k + 1) + 32 * 40 := by omega
    show Va * tp t * tp N * (Vb * tp (4000 - eb)) = Va * tp (4000 - ea) * tp (k + 1) * (Vb * tp (32 * 40))
    have e2 := mul_four Va Vb (tp t * tp N) (tp (4000 - eb)) (tp (4000 - ea) * tp (k + 1)) (tp (32 * 40)) (by rw [← tp_add, ← tp_add, ← tp_add, ← tp_add, e])
    rw [Nat.mul_assoc Va (tp t), Nat.mul_assoc Va (tp (4000 - ea))]
    exact e2

theorem qt_lt {R D : Nat} (h : R < D) (j : Nat) : qt R D j < 2 ^ j := by
  unfold qt
  exact Nat.div_lt_of_lt_mul (Nat.mul_lt_mul_of_pos_right h (Nat.pow_pos (by omega)))

/-- Whole part, parts: told by the whole quotient. -/
theorem put_together {first : Int} {R D N u k : Nat} (h0 : R < D) (hu : u = (first + 1).toNat) (hN : N = (first + k + 2).toNat) :
    qt R D (min N u) * 2 ^ (u - min N u) = qt R D N / 2 ^ (k + 1) ∧ qt R D (min N (N - 1)) % 2 ^ (min N (N - 1) - u) = qt R D N / 2 % 2 ^ k := by
  have hle : u ≤ N := by omega
  rw [Nat.min_eq_right hle, Nat.min_eq_right (by omega : N - 1 ≤ N), Nat.sub_self, Nat.pow_zero, Nat.mul_one]
  have hhalf : 1 ≤ N → qt R D (N - 1) = qt R D N / 2 := fun h => by
    have := qt_div (R := R) (D := D) (N - 1) 1
    rw [show N - 1 + 1 = N by omega, Nat.pow_one] at this
    exact this.symm
  rcases Int.lt_or_le first (-1) with hf | hf
  · have hu0 : u = 0 := by omega
    have h1 := qt_lt h0 N
    have h2 : (2 : Nat) ^ N ≤ 2 ^ (k + 1) := Nat.pow_le_pow_right (by omega) (by omega)
    rw [hu0, qt_zero h0, Nat.div_eq_of_lt (by omega), Nat.sub_zero]
    refine ⟨rfl, ?_⟩
    rcases Nat.eq_zero_or_pos N with hz | hz
    · rw [hz, qt_zero h0]; simp
    · have h3 := qt_lt h0 (N - 1)
      rw [hhalf hz] at h3
      have h4 : (2 : Nat) ^ (N - 1) ≤ 2 ^ k := Nat.pow_le_pow_right (by omega) (by omega)
      rw [hhalf hz, Nat.mod_eq_of_lt h3, Nat.mod_eq_of_lt (by omega)]
  · have e1 : N = u + (k + 1) := by omega
    have h1 := qt_div (R := R) (D := D) u (k + 1)
    rw [← e1] at h1
    refine ⟨h1.symm, ?_⟩
    rw [hhalf (by omega), show N - 1 - u = k by omega]

end Go.Proofs.YtnhnddhigbbleaaDoor


namespace Go.Proofs.YtnhnddhigbbleaaDoor
open Go.RowKit

/-- Behind the digits pre: the whole part's limbs, the quotient under way, and what the loop leaves alone. -/
structure DivI (w : World) (b g k : Nat) (last : Int) (pre : List (Int × Nat)) (W : World) : Prop where
  whole : Blk W 70 b 40 (pre.foldl wst (fun _ => 0))
  wlt : ∀ j, pre.foldl wst (fun _ => 0) j < 4294967296
  box : Qbox W (w.heap.size + 4) false (.slice none 0 0) 0 (pre.foldl (pst last) 0) k (pre.foldl (hst last) false) false
  plt : pre.foldl (pst last) 0 < 18446744073709551616
  low : ∀ x ∈ pre, 1280 ≤ x.1 → x.2 = 0
  last_ : Box W g 3 (.int .i64 last)
  res : Qbox W (w.heap.size + 2) false (.slice none 0 0) 0 0 0 false false
  err : Box W (w.heap.size + 3) 27 (.int .i64 0)
  below : Below w.heap.size w W
/-- Where the whole part has no room. -/
structure DivX (w : World) (pre : List (Int × Nat)) (W : World) : Prop where
  high : ∃ x ∈ pre, 1280 ≤ x.1 ∧ 0 < x.2
  res : Qbox W (w.heap.size + 2) false (.slice none 0 0) 0 0 0 false false
  err : Box W (w.heap.size + 3) 27 (.int .i64 10)
  below : Below w.heap.size w W

theorem Qbox.grown {w w' : World} {g p k r : Nat} {s h m : Bool} {v : Value} {x : Int} (q : Qbox w g s v x p k h m) (hg : w.grownBy w' (some r)) (hr : g ≠ r) : Qbox w' g s v x p k h m :=
  (hg.block g q.lt (by intro e; injection e with e; exact hr e)).trans q
theorem DivI.grown {w X Y : World} {b g k r : Nat} {last : Int} {pre : List (Int × Nat)} (h : DivI w b g k last pre X) (hg : X.grownBy Y (some r)) (h1 : b ≠ r) (h2 : g ≠ r) (h3 : w.heap.size + 4 < r) : DivI w b g k last pre Y :=
  ⟨h.whole.grown hg (by intro e; injection e with e; exact h1 e), h.wlt, h.box.grown hg (by omega), h.plt, h.low, h.last_.grown hg (by intro e; injection e with e; exact h2 e), h.res.grown hg (by omega), h.err.grown hg (by intro e; injection e with e; omega), h.below.grown hg h.below.size (fun k hk => by injection hk with hk; omega)⟩
theorem DivX.grown {w X Y : World} {r : Nat} {pre : List (Int × Nat)} (h : DivX w pre X) (hg : X.grownBy Y (some r)) (h3 : w.heap.size + 4 < r) : DivX w pre Y :=
  ⟨h.high, h.res.grown hg (by omega), h.err.grown hg (by intro e; injection e with e; omega), h.below.grown hg h.below.size (fun k hk => by injection hk with hk; omega)⟩

theorem pst_lt {last : Int} {p : Nat} {x : Int × Nat} (hp : p < 18446744073709551616) (hx : x.2 ≤ 1) : pst last p x < 18446744073709551616 := by
  unfold pst
  split
  · exact Nat.or_lt_two_pow (n := 64) (Nat.mod_lt _ (by omega)) (by omega)
  · exact hp
theorem fold_one {β : Type} (f : β → Int × Nat → β) (z : β) (pre : List (Int × Nat)) (x : Int × Nat) : (pre ++ [x]).foldl f z = f (pre.foldl f z) x := by simp

/-- A digit above all limbs that is 0. -/
theorem DivI.high {w W : World} {b g k : Nat} {last i : Int} {pre : List (Int × Nat)} (h : DivI w b g k last pre W) (hi : 1280 ≤ i) : DivI w b g k last (pre ++ [(i, 0)]) W := by
  have e1 : (pre ++ [(i, 0)]).foldl wst (fun _ => 0) = pre.foldl wst (fun _ => 0) := by rw [fold_one]; unfold wst; rw [if_neg (by dsimp only; omega)]
  have e2 : (pre ++ [(i, 0)]).foldl (pst last) 0 = pre.foldl (pst last) 0 := by rw [fold_one]; unfold pst; rw [if_neg (by dsimp only; omega)]
  have e3 : (pre ++ [(i, 0)]).foldl (hst last) false = pre.foldl (hst last) false := by rw [fold_one]; unfold hst; rw [if_neg (by dsimp only; omega)]
  refine ⟨by rw [e1]; exact h.whole, by rw [e1]; exact h.wlt, by rw [e2, e3]; exact h.box, by rw [e2]; exact h.plt, ?_, h.last_, h.res, h.err, h.below⟩
  intro x hx hx2
  rcases List.mem_append.1 hx with h1 | h1
  · exact h.low x h1 hx2
  · simp at h1
    rw [h1]
theorem low_one {pre : List (Int × Nat)} {i : Int} {d : Nat} (h : ∀ x ∈ pre, 1280 ≤ x.1 → x.2 = 0) (hi : i < 1280) : ∀ x ∈ pre ++ [(i, d)], 1280 ≤ x.1 → x.2 = 0 := by
  intro x hx hx2
  rcases List.mem_append.1 hx with h1 | h1
  · exact h x h1 hx2
  · simp at h1
    rw [h1] at hx2
    dsimp only at hx2
    omega

/-- A digit of the whole part. -/
theorem DivI.limb {w W : World} {b g k i d v : Nat} {last : Int} {pre : List (Int × Nat)} (h : DivI w b g k last pre W) (hi : i < 1280) (hd : d ≤ 1) (hv : v = pre.foldl wst (fun _ => 0) (i / 32) ||| d * 2 ^ (i % 32))
    (hb : b ≠ g) (hb4 : w.heap.size + 4 < b) : DivI w b g k last (pre ++ [((i : Int), d)]) (W.setCell ⟨b, i / 32, none⟩ (.int .u32 (v : Int))) := by
  have e1 : (pre ++ [((i : Int), d)]).foldl wst (fun _ => 0) = wput (pre.foldl wst (fun _ => 0)) (i / 32) v := by rw [fold_one, hv]; unfold wst; rw [if_pos ⟨by dsimp only; omega, by dsimp only; omega⟩]; rfl
  have e2 : (pre ++ [((i : Int), d)]).foldl (pst last) 0 = pre.foldl (pst last) 0 := by rw [fold_one]; unfold pst; rw [if_neg (by dsimp only; omega)]
  have e3 : (pre ++ [((i : Int), d)]).foldl (hst last) false = pre.foldl (hst last) false := by rw [fold_one]; unfold hst; rw [if_neg (by dsimp only; omega)]
  have hlt : ∀ j, (pre ++ [((i : Int), d)]).foldl wst (fun _ => 0) j < 4294967296 := fun j => by rw [fold_one]; exact wst_lt h.wlt hd j
  refine ⟨by rw [e1]; exact h.whole.set (i / 32) v, hlt, ?_, by rw [e2]; exact h.plt, low_one h.low (by omega), h.last_.far (p := ⟨b, i / 32, none⟩) (Ne.symm hb) _, ?_, h.err.far (p := ⟨b, i / 32, none⟩) (by show _ ≠ b; omega) _, h.below.setCell (p := ⟨b, i / 32, none⟩) (by show _ ≤ b; omega) _⟩
  · rw [e2, e3]
    exact (Below.heap_setCell W ⟨b, i / 32, none⟩ _ _ (by show _ ≠ b; omega)).trans h.box
  · exact (Below.heap_setCell W ⟨b, i / 32, none⟩ _ _ (by show _ ≠ b; omega)).trans h.res

theorem Qbox.set5 {w : World} {g p k : Nat} {s h m : Bool} {v : Value} {x : Int} (q : Qbox w g s v x p k h m) (z : Bool) : Qbox (w.setCell ⟨g, 5, none⟩ (.bool z)) g s v x p k z m :=
  heap_setCell_same w g 5 _ _ (.bool z) q
/-- A digit of the parts. -/
theorem DivI.part {w W : World} {b g k d p : Nat} {last i : Int} {pre : List (Int × Nat)} (h : DivI w b g k last pre W) (hi : i < 0) (hl : last < i) (hd : d ≤ 1) (hp : p = pre.foldl (pst last) 0 * 2 % 18446744073709551616 ||| d) (hg : w.heap.size + 4 < g) (hb4 : w.heap.size + 4 < b) :
    DivI w b g k last (pre ++ [(i, d)]) (W.setCell ⟨w.heap.size + 4, 3, none⟩ (.int .u64 (p : Int))) := by
  have e1 : (pre ++ [(i, d)]).foldl wst (fun _ => 0) = pre.foldl wst (fun _ => 0) := by rw [fold_one]; unfold wst; rw [if_neg (by dsimp only; omega)]
  have e2 : (pre ++ [(i, d)]).foldl (pst last) 0 = p := by rw [fold_one, hp]; unfold pst; rw [if_pos ⟨hi, hl⟩]
  have e3 : (pre ++ [(i, d)]).foldl (hst last) false = pre.foldl (hst last) false := by rw [fold_one]; unfold hst; rw [if_neg (by dsimp only; omega)]
  refine ⟨by rw [e1]; exact h.whole.far (p := ⟨w.heap.size + 4, 3, none⟩) (by show b ≠ w.heap.size + 4; omega) _, by rw [e1]; exact h.wlt, by rw [e2, e3]; exact h.box.set3 p, ?_, low_one h.low (by omega), h.last_.far (p := ⟨w.heap.size + 4, 3, none⟩) (by show g ≠ w.heap.size + 4; omega) _, ?_, h.err.far (p := ⟨w.heap.size + 4, 3, none⟩) (by show _ ≠ w.heap.size + 4; omega) _, h.below.setCell (p := ⟨w.heap.size + 4, 3, none⟩) (by show _ ≤ w.heap.size + 4; omega) _⟩
  · rw [fold_one]
    exact pst_lt h.plt hd
  · exact (Below.heap_setCell W ⟨w.heap.size + 4, 3, none⟩ _ _ (by show _ ≠ w.heap.size + 4; omega)).trans h.res
/-- The last digit. -/
theorem DivI.half {w W : World} {b g k d : Nat} {last i : Int} {pre : List (Int × Nat)} (h : DivI w b g k last pre W) (hi : i < 0) (hl : i ≤ last) (hg : w.heap.size + 4 < g) (hb4 : w.heap.size + 4 < b) :
    DivI w b g k last (pre ++ [(i, d)]) (W.setCell ⟨w.heap.size + 4, 5, none⟩ (.bool (decide (0 < d)))) := by
  have e1 : (pre ++ [(i, d)]).foldl wst (fun _ => 0) = pre.foldl wst (fun _ => 0) := by rw [fold_one]; unfold wst; rw [if_neg (by dsimp only; omega)]
  have e2 : (pre ++ [(i, d)]).foldl (pst last) 0 = pre.foldl (pst last) 0 := by rw [fold_one]; unfold pst; rw [if_neg (by dsimp only; omega)]
  have e3 : (pre ++ [(i, d)]).foldl (hst last) false = decide (0 < d) := by rw [fold_one]; unfold hst; rw [if_pos ⟨hi, hl⟩]
  refine ⟨by rw [e1]; exact h.whole.far (p := ⟨w.heap.size + 4, 5, none⟩) (by show b ≠ w.heap.size + 4; omega) _, by rw [e1]; exact h.wlt, by rw [e2, e3]; exact h.box.set5 _, by rw [e2]; exact h.plt, low_one h.low (by omega), h.last_.far (p := ⟨w.heap.size + 4, 5, none⟩) (by show g ≠ w.heap.size + 4; omega) _, ?_, h.err.far (p := ⟨w.heap.size + 4, 5, none⟩) (by show _ ≠ w.heap.size + 4; omega) _, h.below.setCell (p := ⟨w.heap.size + 4, 5, none⟩) (by show _ ≤ w.heap.size + 4; omega) _⟩
  exact (Below.heap_setCell W ⟨w.heap.size + 4, 5, none⟩ _ _ (by show _ ≠ w.heap.size + 4; omega)).trans h.res

/-- A quotient's store. -/
def put7 (w : World) (g : Nat) (s : Bool) (v : Value) (x : Int) (p k : Nat) (h m : Bool) : World :=
  ((((((w.setCell ⟨g, 0, none⟩ (.bool s)).setCell ⟨g, 1, none⟩ v).setCell ⟨g, 2, none⟩ (.int .i64 x)).setCell ⟨g, 3, none⟩ (.int .u64 (p : Int))).setCell ⟨g, 4, none⟩ (.int .i64 (k : Int))).setCell ⟨g, 5, none⟩ (.bool h)).setCell ⟨g, 6, none⟩ (.bool m)
theorem Qbox.set0 {w : World} {g p k : Nat} {s h m : Bool} {v : Value} {x : Int} (q : Qbox w g s v x p k h m) (z : Bool) : Qbox (w.setCell ⟨g, 0, none⟩ (.bool z)) g z v x p k h m :=
  heap_setCell_same w g 0 _ _ (.bool z) q
theorem Qbox.set1 {w : World} {g p k : Nat} {s h m : Bool} {v : Value} {x : Int} (q : Qbox w g s v x p k h m) (z : Value) : Qbox (w.setCell ⟨g, 1, none⟩ z) g s z x p k h m :=
  heap_setCell_same w g 1 _ _ z q
theorem Qbox.set2 {w : World} {g p k : Nat} {s h m : Bool} {v : Value} {x : Int} (q : Qbox w g s v x p k h m) (z : Int) : Qbox (w.setCell ⟨g, 2, none⟩ (.int .i64 z)) g s v z p k h m :=
  heap_setCell_same w g 2 _ _ (.int .i64 z) q
theorem Qbox.set4 {w : World} {g p k : Nat} {s h m : Bool} {v : Value} {x : Int} (q : Qbox w g s v x p k h m) (z : Nat) : Qbox (w.setCell ⟨g, 4, none⟩ (.int .i64 (z : Int))) g s v x p z h m :=
  heap_setCell_same w g 4 _ _ (.int .i64 (z : Int)) q
theorem Qbox.set6 {w : World} {g p k : Nat} {s h m : Bool} {v : Value} {x : Int} (q : Qbox w g s v x p k h m) (z : Bool) : Qbox (w.setCell ⟨g, 6, none⟩ (.bool z)) g s v x p k h z :=
  heap_setCell_same w g 6 _ _ (.bool z) q
theorem Qbox.put7 {w : World} {g p k p' k' : Nat} {s h m s' h' m' : Bool} {v v' : Value} {x x' : Int} (q : Qbox w g s v x p k h m) : Qbox (put7 w g s' v' x' p' k' h' m') g s' v' x' p' k' h' m' :=
  ((((((q.set0 s').set1 v').set2 x').set3 p').set4 k').set5 h').set6 m'
theorem keeps_put7 (W : World) (g p k : Nat) (s h m : Bool) (v : Value) (x : Int) : KeepsOthers W (put7 W g s v x p k h m) :=
  ((((((KeepsOthers.setCell W _ _).trans (KeepsOthers.setCell _ _ _)).trans (KeepsOthers.setCell _ _ _)).trans (KeepsOthers.setCell _ _ _)).trans (KeepsOthers.setCell _ _ _)).trans (KeepsOthers.setCell _ _ _)).trans (KeepsOthers.setCell _ _ _)
theorem grown_put7 (W : World) (g p k : Nat) (s h m : Bool) (v : Value) (x : Int) : W.grownBy (put7 W g s v x p k h m) (some g) :=
  gset0 (gset0 (gset0 (gset0 (gset0 (gset0 (gset0 (grefl W g) 0 _) 1 _) 2 _) 3 _) 4 _) 5 _) 6 _
theorem DivI.over {w W : World} {b g k : Nat} {last i : Int} {pre : List (Int × Nat)} (h : DivI w b g k last pre W) (hi : 1280 ≤ i) :
    DivX w (pre ++ [(i, 1)]) ((put7 W (w.heap.size + 2) false (.slice none 0 0) 0 0 0 false false).setCell ⟨w.heap.size + 3, 0, none⟩ (.int .i64 10)) := by
  have hb := h.below.grown (grown_put7 W (w.heap.size + 2) 0 0 false false false (.slice none 0 0) 0) h.below.size (fun k hk => by injection hk with hk; omega)
  have he := h.err.grown (grown_put7 W (w.heap.size + 2) 0 0 false false false (.slice none 0 0) 0) (by intro e; injection e with e; omega)
  refine ⟨⟨(i, 1), by simp, hi, by show 0 < 1; omega⟩, ?_, he.set _, hb.setCell (p := ⟨w.heap.size + 3, 0, none⟩) (by show _ ≤ w.heap.size + 3; omega) _⟩
  exact (Below.heap_setCell _ ⟨w.heap.size + 3, 0, none⟩ _ _ (by show _ ≠ w.heap.size + 3; omega)).trans (h.res.put7)

end Go.Proofs.YtnhnddhigbbleaaDoor


namespace Go.Proofs.YtnhnddhigbbleaaDoor
open Go.RowKit

theorem items_zero {w : World} {cs zs : Array Value} {G : Nat → Nat} (d : Nat) : ∀ (is : List Nat), (∀ j ∈ is, cs[j]? = some (.int .u32 (G j : Int))) → (∀ j ∈ is, zs[j]? = some (.int .u32 0)) →
    (Op.eqItems (d + 1) 63 1 cs zs is).run Tryd.prog w = .ok (decide (∀ j ∈ is, G j = 0)) w
  | [], _, _ => by simp [Op.eqItems, Sem.run_pure]
  | i :: is, h1, h2 => by
    have ih := items_zero (w := w) d is (fun j hj => h1 j (List.mem_cons_of_mem _ hj)) (fun j hj => h2 j (List.mem_cons_of_mem _ hj))
    have p1 := run_part_plain (P := Tryd.prog) (w := w) (e := 63) (by kernel_rfl) (h1 i List.mem_cons_self)
    have p2 := run_part_plain (P := Tryd.prog) (w := w) (e := 63) (by kernel_rfl) (h2 i List.mem_cons_self)
    have p3 := run_equalIn_int (P := Tryd.prog) w d 63 .u32 .u32 (G i : Int) 0 (by kernel_rfl)
    simp only [Op.eqItems, Sem.run_bind, Nat.mul_one, p1, p2, p3, Result.andThen_ok]
    by_cases h0 : G i = 0
    · have hb : (((G i : Nat) : Int) == 0) = true := by simp [h0]
      rw [hb]
      simp only [Bool.not_true, Bool.false_eq_true, if_false, ih]
      refine congrArg (fun b => Result.ok b w) (decide_eq_decide.2 ?_)
      constructor
      · intro h j hj
        rcases List.mem_cons.1 hj with rfl | hj
        · exact h0
        · exact h j hj
      · intro h j hj
        exact h j (List.mem_cons_of_mem _ hj)
    · have hb : (((G i : Nat) : Int) == 0) = false := by simp; omega
      rw [hb]
      simp only [Bool.not_false, if_true, Sem.run_pure]
      exact congrArg (fun b => Result.ok b w) (decide_eq_false (fun h => h0 (h i List.mem_cons_self))).symm

theorem vl_all_zero {f : Nat → Nat} {k : Nat} : vl f k = 0 ↔ ∀ j, j < k → f j = 0 := by
  induction k with
  | zero => simp [vl]
  | succ k ih =>
    rw [vl_succ]
    have hp := pw_pos k
    constructor
    · intro h j hj
      have h1 : vl f k = 0 := by omega
      have h2 : f k * pw k = 0 := by omega
      rcases Nat.lt_or_ge j k with hlt | hge
      · exact ih.1 h1 j hlt
      · have : j = k := by omega
        subst this
        rcases Nat.mul_eq_zero.1 h2 with h3 | h3
        · exact h3
        · omega
    · intro h
      rw [ih.2 (fun j hj => h j (by omega)), h k (by omega)]
      omega

/-- 'n != number{}'. -/
theorem neq_zero {w : World} {cs zs : Array Value} {G : Nat → Nat} (h1 : ∀ j, j < 81 → cs[j]? = some (.int .u32 (G j : Int))) (h2 : ∀ j, j < 81 → zs[j]? = some (.int .u32 0)) :
    (Op.equalIn 10000 68 (.agg cs) (.agg zs)).run Tryd.prog w = .ok (!decide (vl G 81 ≠ 0)) w := by
  obtain ⟨i, hi, -⟩ := info_one (show (Tryd.prog.info? 63).map (fun i => (i.zero, i.size, i.bytes)) = some (some (.int .u32 0), 1, 4) by kernel_rfl)
  rw [run_equalIn_array w 9999 (t := 68) (e := 63) (n := 81) cs zs (by kernel_rfl) hi, show Tryd.prog.cellsOf 63 = 1 from by kernel_rfl,
    items_zero 9998 (List.range 81) (fun j hj => h1 j (List.mem_range.1 hj)) (fun j hj => h2 j (List.mem_range.1 hj))]
  refine congrArg (fun b => Result.ok b w) ?_
  by_cases h : vl G 81 = 0
  · rw [decide_eq_true (fun j hj => vl_all_zero.1 h j (List.mem_range.1 hj))]
    simp [h]
  · rw [decide_eq_false (fun h2 => h (vl_all_zero.2 (fun j hj => h2 j (List.mem_range.2 hj))))]
    simp [h]

/-- A digit above all limbs: the whole part has no room. -/
theorem over_all {first : Int} {R D N k kk : Nat} (hN : N = (first + k + 2).toNat) (h : ∃ x ∈ upto (dgt first R D) kk, 1280 ≤ x.1 ∧ 0 < x.2) : pw 40 ≤ qt R D N / 2 ^ (k + 1) := by
  obtain ⟨x, hx, h1, h2⟩ := h
  obtain ⟨j, -, rfl⟩ : ∃ j, j < kk ∧ dgt first R D j = x := by simpa [upto] using hx
  have hp : (dgt first R D j).1 = first - j := rfl
  rw [hp] at h1
  have hq := qt_succ (first := first) (R := R) (D := D) j
  have hd := qt_pow (R := R) (D := D) (j + 1) (N - (j + 1))
  rw [show j + 1 + (N - (j + 1)) = N by omega] at hd
  rw [Nat.le_div_iff_mul_le (Nat.pow_pos (by omega)), pw_tp]
  show tp (32 * 40) * tp (k + 1) ≤ _
  rw [← tp_add]
  refine Nat.le_trans ?_ hd
  refine Nat.le_trans (Nat.pow_le_pow_right (by omega) (show 32 * 40 + (k + 1) ≤ N - (j + 1) by omega)) ?_
  exact Nat.le_mul_of_pos_left _ (by omega)

/-- The loop's end. -/
theorem DivI.told {w W : World} {b g k N R D : Nat} {first last : Int} (hlast : last = -(k : Int) - 1) (hk : k ≤ 64) (h0 : R < D) (hN : N = (first + k + 2).toNat) (h : DivI w b g k last (upto (dgt first R D) N) W) :
    ∃ F : Nat → Nat, Blk W 70 b 40 F ∧ (∀ j, F j < 4294967296) ∧ vl F 40 = qt R D N / 2 ^ (k + 1) ∧ Qbox W (w.heap.size + 4) false (.slice none 0 0) 0 (qt R D N / 2 % 2 ^ k) k (decide (qt R D N % 2 = 1)) false := by
  obtain ⟨F, hF, hl, hv⟩ := whole_upto (first := first) (R := R) (D := D) h0 (u := (first + 1).toNat) rfl N (fun i hi hp => h.low _ (by simp [upto]; exact ⟨i, hi, rfl⟩) hp)
  have hN2 : N = (first - last + 1).toNat := by rw [hlast, hN]; congr 1; omega
  have hp := parts_upto (first := first) (last := last) (R := R) (D := D) h0 (u := (first + 1).toNat) (N := N) rfl hN2 (by omega) N (Nat.le_refl _)
  have hh := half_upto (first := first) (last := last) (R := R) (D := D) h0 (N := N) hN2 (by omega) N (Nat.le_refl _)
  obtain ⟨t1, t2⟩ := put_together (first := first) (R := R) (D := D) (N := N) (u := (first + 1).toNat) (k := k) h0 rfl hN
  refine ⟨F, hF ▸ h.whole, hl, by rw [hv, t1], ?_⟩
  have hb := h.box
  rw [hp, hh, t2, decide_eq_true rfl, Bool.true_and] at hb
  exact hb

end Go.Proofs.YtnhnddhigbbleaaDoor


namespace Go.Proofs.YtnhnddhigbbleaaDoor
open Go.RowKit

theorem quot_size : (Tryd.prog.info? 39).map (·.size) = some 7 := by kernel_rfl

theorem results_two_cells {fn : Func} {p u : Tmp} {ty tu : TypeId} (h : fn.results = #[.cell p ty, .cell u tu]) (tmps : Array Value) (P : Program) (w : World) {a b : Addr} {x y : Value} (hp : tmps.getD p undef = .pointer (some a)) (hu : tmps.getD u undef = .pointer (some b))
    (hx : (loadVar ty a).run P w = .ok x w) (hy : (loadVar tu b).run P w = .ok y w) : (results fn tmps).run P w = .ok (.tuple #[x, y]) w := by
  have hp' : tmps[p]?.getD undef = .pointer (some a) := by simpa using hp
  have hu' : tmps[u]?.getD undef = .pointer (some b) := by simpa using hu
  simp [results, h, hp', hu', asAddr, hx, hy, Sem.run_bind, Result.andThen]

theorem load_err {w : World} {g : Nat} {er : Int} (h : Box w g 27 (.int .i64 er)) : (loadVar 27 ⟨g, 0, none⟩).run Tryd.prog w = .ok (.int .i64 er) w := by
  have hc := h.cell
  go_simp

/-- A quotient and an error are returned, behind a loop over an iterator. -/
theorem ret_quot {fn : Func} {F : Fence} {n : Nat} {R : Ending → World → Prop} {tmps : Array Value} {w : World} {p u : Tmp} {g ge D pt k : Nat} {s hf m : Bool} {v : Value} {x er : Int} (h : fn.results = #[.cell p 39, .cell u 27])
    (hp : tmps.getD p undef = .pointer (some ⟨g, 0, none⟩)) (hu : tmps.getD u undef = .pointer (some ⟨ge, 0, none⟩)) (hK : w.heap[D]? = some (.deferred (some [])))
    (hq : Qbox w g s v x pt k hf m) (he : Box w ge 27 (.int .i64 er))
    (hR : R (.returned (.tuple #[.agg #[.bool s, v, .int .i64 x, .int .u64 (pt : Int), .int .i64 (k : Int), .bool hf, .bool m], .int .i64 er])) (w.putObj D (.deferred none))) :
    bodyPostM F n Tryd.prog fn R .ret { tmps := tmps, defers := [{ target := .collected D, args := #[] }] } w := by
  have hq' : Qbox (w.putObj D (.deferred none)) g s v x pt k hf m := (World.putObj_heap_other (by rintro rfl; rw [hq] at hK; cases hK)).trans hq
  have he' : Box (w.putObj D (.deferred none)) ge 27 (.int .i64 er) := (World.putObj_heap_other (by rintro rfl; rw [he] at hK; cases hK)).trans he
  refine ⟨by simp, .inl ⟨_, _, rfl, run_takeDeferred hK, ?_⟩⟩
  refine ⟨_, results_two_cells h tmps Tryd.prog _ hp hu (run_loadVar_row _ g 39 39 _ (0, 0) _ hq' Tryd.underlying39 rfl quot_size) (load_err he'), hR⟩

/-- The world where divide returns. -/
def endW (W : World) (o : Nat) (V : Value) (pt k : Nat) (hf m : Bool) : World :=
  (put7 (put3 (W.setCell ⟨o + 4, 6, none⟩ (.bool m)) (o + 4) false V 0) (o + 2) false V 0 pt k hf m).setCell ⟨o + 3, 0, none⟩ (.int .i64 0)
theorem end_told {w W : World} {b D pt k : Nat} {hf m : Bool} {V : Value} {F : Nat → Nat} {s' h' m' : Bool} {v' : Value} {x' : Int} {p' k' : Nat} (hres : Qbox W (w.heap.size + 2) s' v' x' p' k' h' m') (herr : Box W (w.heap.size + 3) 27 (.int .i64 0))
    (hF : Blk W 70 b 40 F) (hb : w.heap.size + 4 < b) (hbel : Below w.heap.size w W) (hK : W.heap[D]? = some (.deferred (some []))) (hD : w.heap.size + 4 < D) :
    Qbox (endW W w.heap.size V pt k hf m) (w.heap.size + 2) false V 0 pt k hf m ∧ Box (endW W w.heap.size V pt k hf m) (w.heap.size + 3) 27 (.int .i64 0) ∧ Blk (endW W w.heap.size V pt k hf m) 70 b 40 F ∧
      Below w.heap.size w (endW W w.heap.size V pt k hf m) ∧ (endW W w.heap.size V pt k hf m).heap[D]? = some (.deferred (some [])) := by
  have g1 : W.grownBy (put3 (W.setCell ⟨w.heap.size + 4, 6, none⟩ (.bool m)) (w.heap.size + 4) false V 0) (some (w.heap.size + 4)) := gset0 (gset0 (gset0 (gset0 (grefl W _) 6 _) 0 _) 1 _) 2 _
  have r1 := hres.grown g1 (by omega)
  have e1 := herr.grown g1 (by intro e; injection e with e; omega)
  have F1 := hF.grown g1 (by intro e; injection e with e; omega)
  have b1 := hbel.grown g1 hbel.size (fun k hk => by injection hk with hk; omega)
  have K1 := (g1.block D (lt_of_heap hK) (by intro e; injection e with e; omega)).trans hK
  have g2 := grown_put7 (put3 (W.setCell ⟨w.heap.size + 4, 6, none⟩ (.bool m)) (w.heap.size + 4) false V 0) (w.heap.size + 2) pt k false hf m V 0
  have r2 := r1.put7 (s' := false) (v' := V) (x' := 0) (p' := pt) (k' := k) (h' := hf) (m' := m)
  have e2 := e1.grown g2 (by intro e; injection e with e; omega)
  have F2 := F1.grown g2 (by intro e; injection e with e; omega)
  have b2 := b1.grown g2 b1.size (fun k hk => by injection hk with hk; omega)
  have K2 := (g2.block D (lt_of_heap K1) (by intro e; injection e with e; omega)).trans K1
  refine ⟨(Below.heap_setCell _ ⟨w.heap.size + 3, 0, none⟩ _ _ (by show _ ≠ w.heap.size + 3; omega)).trans r2, e2.set _, F2.far (p := ⟨w.heap.size + 3, 0, none⟩) (by show b ≠ w.heap.size + 3; omega) _, b2.setCell (p := ⟨w.heap.size + 3, 0, none⟩) (by show _ ≤ w.heap.size + 3; omega) _, ?_⟩
  exact (Below.heap_setCell _ ⟨w.heap.size + 3, 0, none⟩ _ _ (by show _ ≠ w.heap.size + 3; omega)).trans K2

end Go.Proofs.YtnhnddhigbbleaaDoor

