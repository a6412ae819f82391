/- Package dyad: sum. -/
import Derived.Test.YtmaggpigodkhhaaDleaf
import Derived.Test.YtmaggpigodkhhaaDmath
namespace Go.Proofs.Ytmaggpigodkhhaa
open Go.RowKit

theorem vl_mod2 {f : Nat → Nat} {n : Nat} (h0 : 0 < n) : vl f n % 2 = f 0 % 2 := by
  rw [show n = 1 + (n - 1) by omega, vl_shift]
  rw [show vl f 1 = f 0 by simp [vl, pw], show pw 1 = 2 * 2147483648 by decide, Nat.mul_assoc]
  omega
theorem vl_zero_iff {f : Nat → Nat} {n : Nat} (hf : Fit n f) : vl f n = 0 ↔ n = 0 := by
  constructor
  · intro hV
    rcases Nat.eq_zero_or_pos n with h0 | h0
    · exact h0
    · have a := vl_ge (f := f) h0 (hf.2 h0)
      have b := pw_pos (n - 1)
      omega
  · rintro rfl; rfl
theorem may_canon {s : Bool} {n : Nat} {f : Nat → Nat} {x : Int} (h : DMay s n f x) (hout : ∀ j, n ≤ j → f j = 0) : ∃ X : Nat, x = (X : Int) ∧ Canon s (vl f n) X ∧ X ≤ 1024 := by
  obtain ⟨hf, h0, h1, h2, h3⟩ := h
  obtain ⟨X, rfl⟩ := Int.eq_ofNat_of_zero_le h0
  refine ⟨X, rfl, ⟨fun hV => ?_, fun hx => ?_⟩, by omega⟩
  · have hn := (vl_zero_iff hf).1 hV
    refine ⟨h2 hn, ?_⟩
    rcases Nat.eq_zero_or_pos X with hX | hX
    · exact hX
    · have a := h3 (by omega)
      rw [hout 0 (by omega)] at a
      cases a
  · have a := h3 (by omega)
    rcases Nat.eq_zero_or_pos n with hn | hn
    · rw [hout 0 (by omega)] at a
      cases a
    · rw [vl_mod2 hn]
      exact a
theorem canon_may {s : Bool} {n : Nat} {f : Nat → Nat} {X : Nat} (hf : Fit n f) (hc : Canon s (vl f n) X) (hX : X ≤ 1024) : DMay s n f (X : Int) := by
  refine ⟨hf, by omega, by omega, fun hn => (hc.1 ((vl_zero_iff hf).2 hn)).1, fun hx => ?_⟩
  have a := hc.2 (by omega)
  rcases Nat.eq_zero_or_pos n with hn | hn
  · subst hn
    cases a
  · rwa [vl_mod2 hn] at a

theorem tp_split {E X : Nat} (h : X ≤ E) (hE : E ≤ 4000) : tp (4000 - X) = tp (E - X) * tp (4000 - E) := by
  rw [← tp_add]
  congr 1
  omega
theorem sum_scaled {s t : Bool} {V U X Y E : Nat} (hX : X ≤ E) (hY : Y ≤ E) (hE : E ≤ 4000) : dv s V X + dv t U Y = (num s (V * tp (E - X)) + num t (U * tp (E - Y))) * (tp (4000 - E) : Int) := by
  unfold dv
  rw [tp_split hX hE, tp_split hY hE, ← Nat.mul_assoc, ← Nat.mul_assoc, num_mul, num_mul s, num_mul t (U * _), Int.add_mul]
theorem sum_not {r : Bool} {N E : Nat} {M : Int} (h : M = num r N * (tp (4000 - E) : Int)) (hN : pw 40 ≤ N) (hor : E = 0 ∨ N % 2 = 1) (hE : E ≤ 1024) : ¬ Okay M := by
  rw [← num_mul] at h
  rw [h]
  have := pw_pos 40
  exact not_okay (s := r) (V := N) (x := E) ⟨fun h0 => by omega, fun h1 => by omega⟩ (by omega) (.inl hN)
theorem sum_form (s t : Bool) (n m : Nat) : ∃ r N, num r N = num s n + num t m ∧ N % 2 = (n + m) % 2 ∧ n ≤ N + m ∧ m ≤ N + n := by
  by_cases h : s = t
  · subst h
    exact ⟨s, n + m, num_like s n m, rfl, by omega, by omega⟩
  · rcases Nat.le_total m n with h2 | h2
    · exact ⟨s, n - m, num_unlike h h2, by omega, by omega, by omega⟩
    · exact ⟨t, m - n, by rw [num_unlike (Ne.symm h) h2, Int.add_comm], by omega, by omega, by omega⟩
theorem tp_even {k : Nat} (h : 0 < k) (V : Nat) : (V * tp k) % 2 = 0 := by
  obtain ⟨j, rfl⟩ : ∃ j, k = j + 1 := ⟨k - 1, by omega⟩
  rw [tp_succ, ← Nat.mul_assoc]
  omega
/-- One of the two is too great to be written in the other's parts: then the sum is too great. -/
theorem wide_not {s t : Bool} {V U X Y E : Nat} (hU : U < pw 40) (hc : 0 < Y → U % 2 = 1) (hYE : Y = E) (hX : X < E) (hE : E ≤ 1024) (hbig : 2 * pw 40 ≤ V * tp (E - X)) : ¬ Okay (dv s V X + dv t U Y) := by
  subst hYE
  rw [sum_scaled (by omega : X ≤ Y) (Nat.le_refl Y) (by omega), Nat.sub_self, tp_zero, Nat.mul_one]
  obtain ⟨r, N, hN, hpar, h1, h2⟩ := sum_form s t (V * tp (Y - X)) U
  rw [← hN]
  have ho := hc (by omega)
  have he := tp_even (by omega : 0 < Y - X) V
  exact sum_not rfl (by omega) (.inr (by omega)) hE
/-- Two of like signs that are too great together. -/
theorem like_not {s : Bool} {V U X Y E : Nat} (hV : V < pw 40) (hU : U < pw 40) (hc : 0 < X → V % 2 = 1) (hc2 : 0 < Y → U % 2 = 1) (hX : X ≤ E) (hY : Y ≤ E) (hor : X = E ∨ Y = E) (hE : E ≤ 1024) (hbig : 2 * pw 40 ≤ V * tp (E - X) + U * tp (E - Y)) : ¬ Okay (dv s V X + dv s U Y) := by
  rw [sum_scaled hX hY (by omega), ← num_like]
  refine sum_not rfl (by omega) ?_ hE
  rcases Nat.eq_zero_or_pos E with h0 | h0
  · exact .inl h0
  · right
    rcases Nat.lt_or_ge X E with h1 | h1
    · have h2 : Y = E := by omega
      subst h2
      have a := tp_even (by omega : 0 < Y - X) V
      have b := hc2 h0
      rw [Nat.sub_self, tp_zero, Nat.mul_one]
      omega
    · have h2 : X = E := by omega
      subst h2
      rcases Nat.lt_or_ge Y X with h3 | h3
      · have a := tp_even (by omega : 0 < X - Y) U
        have b := hc h0
        rw [Nat.sub_self, tp_zero, Nat.mul_one]
        omega
      · have h4 : Y = X := by omega
        subst h4
        rw [Nat.sub_self, tp_zero, Nat.mul_one, Nat.mul_one] at hbig
        omega

end Go.Proofs.Ytmaggpigodkhhaa
