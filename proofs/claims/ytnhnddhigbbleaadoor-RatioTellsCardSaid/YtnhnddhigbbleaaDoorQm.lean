/- Ratio, the document's side: what its quotients are. No code is walked here. -/
import Derived.Test.YtnhnddhigbbleaaDoorEsum
namespace Go.Proofs.YtnhnddhigbbleaaDoor
open Go.RowKit

theorem tw_tp (k : Nat) : tw k = tp k := rfl
/-- Down, below 0. -/
theorem down_neg {X B : Nat} (hB : 0 < B) : (-(X : Int)) / (B : Int) = -((X / B + (if X % B ≠ 0 then 1 else 0) : Nat) : Int) := by
  have h1 := Nat.div_add_mod X B
  have h2 := Nat.mod_lt X hB
  generalize X / B = c at *
  generalize X % B = r at *
  by_cases hr : r = 0
  · subst hr
    rw [if_neg (by simp), Nat.add_zero, ← h1, Nat.add_zero]
    have : (-((B * c : Nat) : Int)) = (-(c : Int)) * B := by
      rw [Int.natCast_mul, Int.neg_mul, Int.mul_comm]
    rw [this, Int.mul_ediv_cancel _ (by omega)]
  · rw [if_pos hr, ← h1]
    have : (-((B * c + r : Nat) : Int)) = ((B : Int) - r) + (-((c : Int) + 1)) * B := by
      rw [Int.neg_mul, Int.add_mul, Int.natCast_add, Int.natCast_mul, Int.mul_comm (B : Int)]
      omega
    rw [this, Int.add_mul_ediv_right _ _ (by omega), Int.ediv_eq_zero_of_lt (by omega) (by omega)]
    simp
/-- The document's quotient: of x parts by y, with the step that it takes away from 0. -/
def dq_ (s up : Bool) (x y : Nat) : Nat := x / y + if x % y ≠ 0 ∧ up ≠ s then 1 else 0
theorem dq_floor {s : Bool} {x y : Nat} (hy : 0 < y) : num s (dq_ s false x y) = num s x / (y : Int) := by
  cases s with
  | false =>
    unfold dq_ num
    simp
  | true =>
    show -((dq_ true false x y : Nat) : Int) = -(x : Int) / (y : Int)
    rw [down_neg hy]
    unfold dq_
    simp
theorem dq_ceil {s : Bool} {x y : Nat} (hy : 0 < y) : num s (dq_ s true x y) = -(-(num s x) / (y : Int)) := by
  cases s with
  | false =>
    show ((dq_ false true x y : Nat) : Int) = -(-(x : Int) / (y : Int))
    rw [down_neg hy, Int.neg_neg]
    unfold dq_
    simp
  | true =>
    show -((dq_ true true x y : Nat) : Int) = -(- -(x : Int) / (y : Int))
    rw [Int.neg_neg]
    unfold dq_
    simp
theorem num_mulq (s : Bool) (n k : Nat) : num s (n * k) = num s n * (k : Int) := by
  cases s <;> simp [num, Int.neg_mul]
/-- Both in the same parts. -/
theorem same_parts {s : Bool} {V U X Y j : Nat} (hX : X ≤ 1024) (hY : Y ≤ 1024) :
    (dv s V X * 2 ^ j) = num s (V * tw (Y + j)) * (tw (4000 - X - Y) : Int) ∧ dv false U Y = ((U * tw X : Nat) : Int) * (tw (4000 - X - Y) : Int) := by
  constructor
  · unfold dv
    have e : V * tp (4000 - X) * 2 ^ j = V * tw (Y + j) * tw (4000 - X - Y) := by
      show V * tp (4000 - X) * tp j = _
      rw [← tw_tp, ← tw_tp, Nat.mul_assoc, ← tw_add, Nat.mul_assoc, ← tw_add]
      congr 2
      omega
    rw [← num_mulq, ← e, num_mulq s (V * tp (4000 - X)) (2 ^ j)]
    simp
  · unfold dv num
    have e : U * tp (4000 - Y) = U * tw X * tw (4000 - X - Y) := by
      rw [← tw_tp, Nat.mul_assoc, ← tw_add]
      congr 2
      omega
    rw [e]
    simp
theorem same_quot {a b S : Int} (hS : 0 < S) : (a * S) / (b * S) = a / b := Int.mul_ediv_mul_of_pos_left a b hS
theorem floor_parts {s : Bool} {V U X Y j : Nat} (hX : X ≤ 1024) (hY : Y ≤ 1024) (hU : 0 < U) {M N : Int} (hM : M = dv s V X) (hN : N = dv false U Y) : num s (dq_ s false (V * tw (Y + j)) (U * tw X)) = M * 2 ^ j / N := by
  obtain ⟨h1, h2⟩ := same_parts (s := s) (V := V) (U := U) (j := j) hX hY
  have hS : (0 : Int) < (tw (4000 - X - Y) : Int) := by have := tw_pos (4000 - X - Y); omega
  rw [hM, hN, h1, h2, same_quot hS, dq_floor (Nat.mul_pos hU (tw_pos X))]
theorem ceil_parts {s : Bool} {V U X Y j : Nat} (hX : X ≤ 1024) (hY : Y ≤ 1024) (hU : 0 < U) {M N : Int} (hM : M = dv s V X) (hN : N = dv false U Y) : num s (dq_ s true (V * tw (Y + j)) (U * tw X)) = -(-(M * 2 ^ j) / N) := by
  obtain ⟨h1, h2⟩ := same_parts (s := s) (V := V) (U := U) (j := j) hX hY
  have hS : (0 : Int) < (tw (4000 - X - Y) : Int) := by have := tw_pos (4000 - X - Y); omega
  rw [hM, hN, h1, h2, ← Int.neg_mul, same_quot hS, dq_ceil (Nat.mul_pos hU (tw_pos X))]
/-- Half of it, down. -/
theorem half_down (s : Bool) (n : Nat) : num s (n / 2 + if s = true ∧ n % 2 = 1 then 1 else 0) = num s n / 2 := by
  cases s with
  | false => simp [num]
  | true =>
    show -((n / 2 + if true = true ∧ n % 2 = 1 then 1 else 0 : Nat) : Int) = -(n : Int) / 2
    by_cases h : n % 2 = 1
    · rw [if_pos ⟨rfl, h⟩]
      omega
    · rw [if_neg (fun hh => h hh.2)]
      omega
/-- To the nearest. -/
theorem near_down {M N : Int} (hN : 0 < N) : (M * 2 ^ 1 / N + 1) / 2 = (2 * M + N) / (2 * N) := by
  have h1 : M * 2 ^ 1 / N + 1 = (2 * M + N) / N := by
    rw [show 2 * M + N = M * 2 ^ 1 + 1 * N by omega, Int.add_mul_ediv_right _ _ (by omega)]
  rw [h1, Int.mul_comm 2 N]
  exact Int.ediv_ediv_of_nonneg (by omega)
end Go.Proofs.YtnhnddhigbbleaaDoor
