/- Copies under way, plainly. -/
import Derived.Test.YtbpijlghdpflgaaDoorProg
namespace Go.Proofs.YtbpijlghdpflgaaDoor.Eth

/-- A copy: its Number, where to, its text's bytes, whether it was spoilt. -/
abbrev Cp := Int × Int × List Nat × Bool
/-- A copy may be. -/
def MayC (p : Cp) : Prop := (0 ≤ p.1 ∧ p.1 ≤ 1048575) ∧ (0 ≤ p.2.1 ∧ p.2.1 < 8) ∧ 1 ≤ p.2.2.1.length ∧ p.2.2.1.length ≤ 4105
instance (p : Cp) : Decidable (MayC p) := by unfold MayC; infer_instance
/-- Check. -/
def echk (l : List Cp) : Int := if 16 < l.length then 4 else if ∀ p ∈ l, MayC p then 0 else 8
theorem echk_zero {l : List Cp} : echk l = 0 ↔ l.length ≤ 16 ∧ ∀ p ∈ l, MayC p := by
  unfold echk
  by_cases h : 16 < l.length
  · rw [if_pos h]; exact ⟨fun e => (by cases e), fun e => absurd e.1 (by omega)⟩
  · rw [if_neg h]
    by_cases h2 : ∀ p ∈ l, MayC p
    · rw [if_pos h2]; exact ⟨fun _ => ⟨by omega, h2⟩, fun _ => rfl⟩
    · rw [if_neg h2]; exact ⟨fun e => (by cases e), fun e => absurd e.2 h2⟩
/-- No copy. -/
def C0 : Cp := (0, 0, [], false)
/-- Send, Take, Double: the errors, and what is answered. -/
def snE (l : List Cp) (c : Cp) : Int := if echk l ≠ 0 then echk l else if ¬ MayC c then 8 else if 16 ≤ l.length then 9 else 0
def snL (l : List Cp) (c : Cp) : List Cp := if snE l c = 0 then l ++ [c] else []
def plc (l : List Cp) (i : Int) : Prop := 0 ≤ i ∧ i < l.length
instance (l : List Cp) (i : Int) : Decidable (plc l i) := by unfold plc; infer_instance
def tkE (l : List Cp) (i : Int) : Int := if echk l ≠ 0 then echk l else if ¬ plc l i then 2 else 0
def tkL (l : List Cp) (i : Int) : List Cp := if tkE l i = 0 then l.take i.toNat ++ l.drop (i.toNat + 1) else []
def tkC (l : List Cp) (i : Int) : Cp := if tkE l i = 0 then l.getD i.toNat C0 else C0
def dbE (l : List Cp) (i : Int) : Int := if echk l ≠ 0 then echk l else if ¬ plc l i then 2 else if 16 ≤ l.length then 9 else 0
def dbL (l : List Cp) (i : Int) : List Cp := if dbE l i = 0 then l ++ [l.getD i.toNat C0] else []
/-- How many have a Number. -/
def cnt (l : List Cp) (x : Int) : Nat := (l.filter fun p => decide (p.1 = x)).length
def mnA (l : List Cp) (x : Int) : Nat := if echk l = 0 then cnt l x else 0
/-- The mask m at a turns the bit k places behind. -/
def one (m k : Nat) : Prop := m / 2 ^ k % 2 = 1
instance (m k : Nat) : Decidable (one m k) := by unfold one; infer_instance
/-- Each bit that a mask turns at a is one of a text of so many bytes. -/
def fits (size : Nat) (a : Int) (m : Nat) : Prop := (0 ≤ a ∧ a < 8 * (size : Int)) ∧ m ≠ 0 ∧ ∀ k, k < 32 → one m k → (k : Int) < 8 * (size : Int) - a
instance (size : Nat) (a : Int) (m : Nat) : Decidable (fits size a m) := by unfold fits; infer_instance
/-- One bit turned. -/
def tn1 (t : List Nat) (n : Nat) : List Nat := t.set (n / 8) (t.getD (n / 8) 0 ^^^ 2 ^ (n % 8))
/-- The bits of the mask's first k places turned. -/
def trn (t : List Nat) (a m : Nat) : Nat → List Nat
  | 0 => t
  | k + 1 => if one m k then tn1 (trn t a m k) (a + k) else trn t a m k
theorem tn1_len (t : List Nat) (n : Nat) : (tn1 t n).length = t.length := List.length_set
theorem trn_len (t : List Nat) (a m k : Nat) : (trn t a m k).length = t.length := by
  induction k with
  | zero => rfl
  | succ k ih =>
    unfold trn
    split
    · rw [tn1_len, ih]
    · exact ih
theorem xor_lt {x k : Nat} (h : x < 256) (hk : k < 8) : x ^^^ 2 ^ k < 256 := Nat.xor_lt_two_pow (n := 8) h (Nat.pow_lt_pow_right (by omega) hk)
theorem tn1_fit {t : List Nat} (h : ∀ b ∈ t, b < 256) (n : Nat) : ∀ b ∈ tn1 t n, b < 256 := by
  intro b hb
  unfold tn1 at hb
  rcases List.mem_or_eq_of_mem_set hb with h1 | rfl
  · exact h b h1
  · refine xor_lt ?_ (Nat.mod_lt _ (by omega))
    rw [List.getD_eq_getElem?_getD]
    cases hq : t[n / 8]? with
    | none => simp
    | some x => simpa using h x (List.mem_of_getElem? hq)
theorem trn_fit {t : List Nat} (h : ∀ b ∈ t, b < 256) (a m k : Nat) : ∀ b ∈ trn t a m k, b < 256 := by
  induction k with
  | zero => exact h
  | succ k ih =>
    unfold trn
    split
    · exact tn1_fit ih _
    · exact ih
/-- The bit n of a text. -/
def bitT (t : List Nat) (n : Nat) : Bool := (t.getD (n / 8) 0).testBit (n % 8)
theorem bit_tn1 {t : List Nat} {n j : Nat} (h : n / 8 < t.length) : bitT (tn1 t n) j = (bitT t j != decide (j = n)) := by
  unfold bitT tn1
  by_cases hq : j / 8 = n / 8
  · have e1 : (t.set (n / 8) (t.getD (n / 8) 0 ^^^ 2 ^ (n % 8))).getD (j / 8) 0 = t.getD (n / 8) 0 ^^^ 2 ^ (n % 8) := by
      rw [hq, List.getD_eq_getElem?_getD, List.getElem?_set_self h]
      rfl
    rw [e1, Nat.testBit_xor, Nat.testBit_two_pow, hq]
    have : decide (n % 8 = j % 8) = decide (j = n) := by
      by_cases h3 : j = n
      · subst h3; simp
      · rw [decide_eq_false h3, decide_eq_false (by omega)]
    rw [this]
  · have e1 : (t.set (n / 8) (t.getD (n / 8) 0 ^^^ 2 ^ (n % 8))).getD (j / 8) 0 = t.getD (j / 8) 0 := by
      rw [List.getD_eq_getElem?_getD, List.getElem?_set_ne (fun e => hq e.symm), List.getD_eq_getElem?_getD]
    rw [e1, decide_eq_false (fun e => hq (by rw [e]))]
    simp
theorem bit_trn {t : List Nat} {a m : Nat} (h : ∀ k, k < 32 → one m k → (a + k) / 8 < t.length) : ∀ k, k ≤ 32 → ∀ j, bitT (trn t a m k) j = (bitT t j != (decide (a ≤ j ∧ j < a + k) && decide (one m (j - a)))) := by
  intro k
  induction k with
  | zero =>
    intro _ j
    rw [decide_eq_false (by omega)]
    simp [trn]
  | succ k ih =>
    intro hk j
    have i1 := ih (by omega) j
    unfold trn
    by_cases ho : one m k
    · rw [if_pos ho, bit_tn1 (by rw [trn_len]; exact h k (by omega) ho), i1]
      by_cases hj : j = a + k
      · subst hj
        rw [decide_eq_false (p := a ≤ a + k ∧ a + k < a + k) (by omega), decide_eq_true (p := a ≤ a + k ∧ a + k < a + (k + 1)) (by omega), Nat.add_sub_cancel_left, decide_eq_true ho]
        simp
      · rw [decide_eq_false hj]
        have : decide (a ≤ j ∧ j < a + k) = decide (a ≤ j ∧ j < a + (k + 1)) := by
          by_cases h3 : a ≤ j ∧ j < a + k
          · rw [decide_eq_true h3, decide_eq_true (by omega)]
          · rw [decide_eq_false h3, decide_eq_false (by omega)]
        rw [this]
        simp
    · rw [if_neg ho, i1]
      by_cases hj : j = a + k
      · subst hj
        rw [decide_eq_false (p := a ≤ a + k ∧ a + k < a + k) (by omega), decide_eq_true (p := a ≤ a + k ∧ a + k < a + (k + 1)) (by omega), Nat.add_sub_cancel_left, decide_eq_false ho]
        simp
      · have : decide (a ≤ j ∧ j < a + k) = decide (a ≤ j ∧ j < a + (k + 1)) := by
          by_cases h3 : a ≤ j ∧ j < a + k
          · rw [decide_eq_true h3, decide_eq_true (by omega)]
          · rw [decide_eq_false h3, decide_eq_false (by omega)]
        rw [this]
theorem one_ex {m : Nat} (h : m ≠ 0) (hm : m < 2 ^ 32) : ∃ k, k < 32 ∧ one m k := by
  obtain ⟨k, hk⟩ := Nat.exists_testBit_of_ne_zero h
  refine ⟨k, ?_, ?_⟩
  · rcases Nat.lt_or_ge k 32 with h1 | h1
    · exact h1
    · rw [Nat.testBit_lt_two_pow (Nat.lt_of_lt_of_le hm (Nat.pow_le_pow_right (by omega) h1))] at hk
      cases hk
  · unfold one
    rw [Nat.testBit_eq_decide_div_mod_eq] at hk
    exact of_decide_eq_true hk
theorem trn_ne {t : List Nat} {a m : Nat} (hf : fits t.length a m) (hm : m < 2 ^ 32) : trn t a m 32 ≠ t := by
  intro e
  obtain ⟨⟨h0, h1⟩, h2, h3⟩ := hf
  obtain ⟨k, hk, ho⟩ := one_ex h2 hm
  have hb := bit_trn (t := t) (a := a) (m := m) (fun q hq hoq => by have := h3 q hq hoq; omega) 32 (Nat.le_refl _) (a + k)
  rw [e, decide_eq_true (p := a ≤ a + k ∧ a + k < a + 32) (by omega), Nat.add_sub_cancel_left, decide_eq_true ho] at hb
  cases hbt : bitT t (a + k) <;> rw [hbt] at hb <;> cases hb
/-- Spoil. -/
def spE (l : List Cp) (i a : Int) (m : Nat) : Int := if echk l ≠ 0 then echk l else if ¬ (plc l i ∧ fits (l.getD i.toNat C0).2.2.1.length a m) then 2 else if (l.getD i.toNat C0).2.2.2 = true then 12 else 0
def spC (p : Cp) (a : Int) (m : Nat) : Cp := (p.1, p.2.1, trn p.2.2.1 a.toNat m 32, true)
def spL (l : List Cp) (i a : Int) (m : Nat) : List Cp := if spE l i a m = 0 then l.set i.toNat (spC (l.getD i.toNat C0) a m) else []
/-- More than statements go through. -/
def sumT : List Cp → Nat
  | [] => 0
  | p :: l => p.2.2.1.length + sumT l
def grC (l : List Cp) : Prop := 20 < l.length ∨ (∃ p ∈ l, 5000 < p.2.2.1.length) ∨ 9000 < sumT l
instance (l : List Cp) : Decidable (grC l) := by unfold grC; infer_instance
end Go.Proofs.YtbpijlghdpflgaaDoor.Eth
