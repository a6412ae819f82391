/- Dyads as whole numbers of parts of 2^-4000. -/
import Derived.Test.YtmaggpigodkhhaaCmp
namespace Go.Proofs.Ytmaggpigodkhhaa

/-- Powers of two, kept shut. -/
def tp (k : Nat) : Nat := 2 ^ k
theorem tp_zero : tp 0 = 1 := rfl
theorem tp_one : tp 1 = 2 := rfl
theorem tp_pos (k : Nat) : 0 < tp k := by unfold tp; exact Nat.pow_pos (by omega)
theorem tp_add (j k : Nat) : tp (j + k) = tp j * tp k := by unfold tp; rw [Nat.pow_add]
theorem tp_succ (k : Nat) : tp (k + 1) = tp k * 2 := by unfold tp; rw [Nat.pow_succ]

/-- A number, below 0 if s. -/
def num (s : Bool) (n : Nat) : Int := if s then -(n : Int) else n
theorem num_zero (s : Bool) : num s 0 = 0 := by cases s <;> rfl
theorem num_neg (s : Bool) (n : Nat) : num (!s) n = - num s n := by cases s <;> simp [num]
theorem num_inj {s t : Bool} {n m : Nat} (h : num s n = num t m) : n = m ∧ (n ≠ 0 → s = t) := by
  cases s <;> cases t <;> simp [num] at h ⊢ <;> omega
theorem num_like (s : Bool) (n m : Nat) : num s (n + m) = num s n + num s m := by cases s <;> simp [num] <;> omega
theorem num_unlike {s t : Bool} (h : s ≠ t) {n m : Nat} (hm : m ≤ n) : num s (n - m) = num s n + num t m := by
  cases s <;> cases t <;> simp [num] at h ⊢ <;> omega
theorem num_mul (s : Bool) (n m : Nat) : num s (n * m) = num s n * (m : Int) := by cases s <;> simp [num, Int.neg_mul]

/-- The number of parts that a dyad is. -/
def dv (s : Bool) (V x : Nat) : Int := num s (V * tp (4000 - x))
/-- The one form. -/
def Canon (s : Bool) (V x : Nat) : Prop := (V = 0 → s = false ∧ x = 0) ∧ (0 < x → V % 2 = 1)

theorem canon_uniq {s t : Bool} {V U x y : Nat} (h1 : Canon s V x) (h2 : Canon t U y) (hx : x ≤ 4000) (hy : y ≤ 4000) (h : dv s V x = dv t U y) : s = t ∧ V = U ∧ x = y := by
  obtain ⟨hm, hs⟩ := num_inj h
  have key : ∀ {V U x y : Nat}, x < y → y ≤ 4000 → (0 < y → U % 2 = 1) → V * tp (4000 - x) = U * tp (4000 - y) → False := by
    intro V U x y hxy hy hu h
    obtain ⟨d, rfl⟩ : ∃ d, y = x + d + 1 := ⟨y - x - 1, by omega⟩
    rw [show 4000 - x = (4000 - (x + d + 1)) + (d + 1) by omega, tp_add, tp_succ, Nat.mul_comm (tp (4000 - (x + d + 1))), ← Nat.mul_assoc] at h
    have h3 := Nat.eq_of_mul_eq_mul_right (tp_pos _) h
    have h4 := hu (by omega)
    rw [← h3, ← Nat.mul_assoc] at h4
    omega
  have hxy : x = y := by
    rcases Nat.lt_trichotomy x y with h | h | h
    · exact (key h hy h2.2 hm).elim
    · exact h
    · exact (key h hx h1.2 hm.symm).elim
  subst hxy
  have hV := Nat.eq_of_mul_eq_mul_right (tp_pos _) hm
  subst hV
  refine ⟨?_, rfl, rfl⟩
  rcases Nat.eq_zero_or_pos V with h0 | h0
  · rw [(h1.1 h0).1, (h2.1 h0).1]
  · refine hs ?_
    have := Nat.mul_pos h0 (tp_pos (4000 - x))
    omega

/-- Some dyad that may be is M. -/
def Okay (M : Int) : Prop := ∃ s V x, Canon s V x ∧ V < pw 40 ∧ x ≤ 1024 ∧ dv s V x = M
/-- The error where M is to be told. -/
def Derr (M : Int) (er : Int) : Prop := (Okay M ∧ er = 0) ∨ (¬ Okay M ∧ er = 10)
theorem Derr.uniq {M a b : Int} (h : Derr M a) (k : Derr M b) : a = b := by
  rcases h with ⟨h, rfl⟩ | ⟨h, rfl⟩ <;> rcases k with ⟨k, rfl⟩ | ⟨k, rfl⟩
  · rfl
  · exact absurd h k
  · exact absurd k h
  · rfl
theorem not_okay {s : Bool} {V x : Nat} (hc : Canon s V x) (hx : x ≤ 4000) (h : pw 40 ≤ V ∨ 1024 < x) : ¬ Okay (dv s V x) := by
  rintro ⟨t, U, y, hu, hU, hy, he⟩
  obtain ⟨rfl, rfl, rfl⟩ := canon_uniq hu hc (by omega) hx he
  omega

theorem okay_zero : Okay 0 := ⟨false, 0, 0, ⟨fun _ => ⟨rfl, rfl⟩, fun h => absurd h (by omega)⟩, pw_pos 40, by omega, by simp [dv, num]⟩
theorem okay_neg {M : Int} (h : Okay M) : Okay (-M) := by
  obtain ⟨s, V, x, hc, hV, hx, rfl⟩ := h
  rcases Nat.eq_zero_or_pos V with h0 | h0
  · subst h0
    rw [show -(dv s 0 x) = 0 by simp [dv, num_zero]]
    exact okay_zero
  · exact ⟨!s, V, x, ⟨fun h => absurd h (by omega), hc.2⟩, hV, hx, num_neg s _⟩

end Go.Proofs.Ytmaggpigodkhhaa
