/- Package field: PutNumber, PutDyad. -/
import Derived.Test.YtmaggpigodkhhaaJput
namespace Go.Proofs.Ytmaggpigodkhhaa
open Go.RowKit

theorem fit_pow {V z : Nat} : V < 256 ^ z ↔ V / 2 ^ (8 * z) = 0 := by
  rw [Nat.pow_mul, show (2 : Nat) ^ 8 = 256 from rfl]
  exact (Nat.div_eq_zero_iff_lt (Nat.pow_pos (by omega))).symm

set_option maxHeartbeats 1600000 in
theorem maySize_any (z : Int) (w : World) :
    Calls Try.prog 19 #[.int .i64 z] w fun e w' => e = .returned (.bool (decide (1 ≤ z ∧ z ≤ 8))) ∧ w = w' := by
  have hcase : (¬ 1 ≤ z) ∨ (1 ≤ z ∧ ¬ z ≤ 8) ∨ (1 ≤ z ∧ z ≤ 8) := by omega
  rcases hcase with h1 | ⟨h1, h2⟩ | ⟨h1, h2⟩
  all_goals
    go_enter Try.func19, Try.ntmps19
    go_wp2
    go_ret
    refine ⟨?_, rfl⟩
    congr 2
    simp
    try omega

set_option maxHeartbeats 3200000 in
theorem PutNumber_arg {w : World} {n c V : Nat} {A : Option Addr} {z : Int} (hz : ¬ (1 ≤ z ∧ z ≤ 8 ∧ V < 256 ^ z.toNat)) (_hV : V ≤ 18446744073709551615) :
    Calls Try.prog 7 #[.slice A n c, .int .u64 (V : Int), .int .i64 z] w fun e w' => e = .returned (.tuple #[.slice none 0 0, .int .i64 2]) ∧ w = w' := by
  by_cases h1 : 1 ≤ z ∧ z ≤ 8
  · obtain ⟨k, rfl⟩ : ∃ k : Nat, z = k := ⟨z.toNat, by omega⟩
    have hp : ¬ V < 256 ^ k := fun h => hz ⟨h1.1, h1.2, by rwa [Int.toNat_natCast]⟩
    rw [fit_pow] at hp
    obtain ⟨t, ht⟩ : ∃ t : Nat, t = 8 * k := ⟨_, rfl⟩
    rw [← ht] at hp
    have hw1 : IntKind.i64.wrap (8 * (k : Int)) = (t : Int) := by rw [IntWalk.i64_in _ (by omega)]; omega
    have hw2 : 8 * (k : Int) = (t : Int) := by omega
    have hne : ((V : Int) / 2 ^ t != 0) = true := by
      simp only [bne_iff_ne]
      intro h
      apply hp
      have : ((V / 2 ^ t : Nat) : Int) = 0 := by simpa using h
      omega
    have C := maySize_any k w
    rw [show decide (1 ≤ (k : Int) ∧ (k : Int) ≤ 8) = true by simp; omega] at C
    have HC := hid C
    clear C hz hp ht
    go_enter Try.func7, Try.ntmps7
    go_wp2_with fail
    refine HC.out.mono ?_
    rintro e w1 ⟨rfl, rfl⟩
    go_wp2
    go_ret2
    exact ⟨rfl, rfl⟩
  · have C := maySize_any z w
    rw [show decide (1 ≤ z ∧ z ≤ 8) = false by simp; omega] at C
    have HC := hid C
    clear C hz h1
    go_enter Try.func7, Try.ntmps7
    go_wp2_with fail
    refine HC.out.mono ?_
    rintro e w1 ⟨rfl, rfl⟩
    go_wp2
    go_ret2
    exact ⟨rfl, rfl⟩

set_option maxHeartbeats 3200000 in
theorem PutNumber_many {w : World} {n c V k : Nat} {A : Option Addr} (h1 : 1 ≤ k) (h8 : k ≤ 8) (hV : V < 256 ^ k) (_hV : V ≤ 18446744073709551615) (hn : 3900 < n + k) (hm : n ≤ 140737488355328) :
    Calls Try.prog 7 #[.slice A n c, .int .u64 (V : Int), .int .i64 (k : Int)] w fun e w' => e = .returned (.tuple #[.slice none 0 0, .int .i64 4]) ∧ w = w' := by
  rw [fit_pow] at hV
  obtain ⟨t, ht⟩ : ∃ t : Nat, t = 8 * k := ⟨_, rfl⟩
  rw [← ht] at hV
  have hw1 : IntKind.i64.wrap (8 * (k : Int)) = (t : Int) := by rw [IntWalk.i64_in _ (by omega)]; omega
  have hw2 : 8 * (k : Int) = (t : Int) := by omega
  have hne : ((V : Int) / 2 ^ t != 0) = false := by
    have : ((V / 2 ^ t : Nat) : Int) = 0 := by omega
    simpa using this
  have C := maySize_any k w
  rw [show decide (1 ≤ (k : Int) ∧ (k : Int) ≤ 8) = true by simp; omega] at C
  have HC := hid C
  have CW := hid (widened_many (w := w) (c := c) (A := A) hn (by omega) hm)
  clear C hV ht
  go_enter Try.func7, Try.ntmps7
  go_wp2_with fail
  refine HC.out.mono ?_
  rintro e w1 ⟨rfl, rfl⟩
  go_wp2_with fail
  refine CW.out.mono ?_
  rintro e w1 ⟨rfl, rfl⟩
  go_wp2
  go_ret2
  exact ⟨rfl, rfl⟩

set_option maxHeartbeats 3200000 in
theorem PutNumber_fits {w : World} {n c V k : Nat} {A : Option Addr} {xs : List Nat} (h : By w w.heap.size A n c xs) (h1 : 1 ≤ k) (h8 : k ≤ 8) (hV : V < 256 ^ k) (_hV : V ≤ 18446744073709551615) (hn : n + k ≤ 3900) :
    Calls Try.prog 7 #[.slice A n c, .int .u64 (V : Int), .int .i64 (k : Int)] w fun e w' => ∃ v, e = .returned (.tuple #[v, .int .i64 0]) ∧ Hid (Ow w' w.heap.size v (xs ++ be V k)) ∧ Hid (Below w.heap.size w w') := by
  rw [fit_pow] at hV
  obtain ⟨t, ht⟩ : ∃ t : Nat, t = 8 * k := ⟨_, rfl⟩
  rw [← ht] at hV
  have hw1 : IntKind.i64.wrap (8 * (k : Int)) = (t : Int) := by rw [IntWalk.i64_in _ (by omega)]; omega
  have hw2 : 8 * (k : Int) = (t : Int) := by omega
  have hne : ((V : Int) / 2 ^ t != 0) = false := by
    have : ((V / 2 ^ t : Nat) : Int) = 0 := by omega
    simpa using this
  have C := maySize_any k w
  rw [show decide (1 ≤ (k : Int) ∧ (k : Int) ≤ 8) = true by simp; omega] at C
  have HC := hid C
  have CW := hid (widened_fits h hn)
  have hlen := h.len
  clear C hV ht h
  go_enter Try.func7, Try.ntmps7
  go_wp2_with fail
  refine HC.out.mono ?_
  rintro e w1 ⟨rfl, rfl⟩
  go_wp2_with fail
  refine CW.out.mono ?_
  rintro e w1 ⟨v1, rfl, hO1, hb1⟩
  go_wp2_with fail
  refine (putDigits_any hO1.out hb1.out.size (by omega) h8 _hV).mono ?_
  rintro e w2 ⟨v2, rfl, hO2, hb2⟩
  go_wp2
  go_ret2
  exact ⟨_, rfl, hO2, hid (hb1.out.trans hb2.out)⟩

set_option maxHeartbeats 1600000 in
theorem signOf_any (s : Bool) (A : Option Addr) (n c : Nat) (x : Int) (w : World) :
    Calls Try.prog 26 #[.agg #[.bool s, .slice A n c, .int .i64 x]] w fun e w' => e = .returned (.int .u64 (if s then 1 else 0)) ∧ Hid (Below w.heap.size w w') := by
  have B0 := hid ((Below.refl w.heap.size w).alloc (Nat.le_refl _) (.cells #[.bool s, .slice A n c, .int .i64 x] 26))
  cases s
  all_goals
    go_enter Try.func26, Try.ntmps26
    go_wp2
    go_ret
    exact ⟨rfl, B0⟩

end Go.Proofs.Ytmaggpigodkhhaa
