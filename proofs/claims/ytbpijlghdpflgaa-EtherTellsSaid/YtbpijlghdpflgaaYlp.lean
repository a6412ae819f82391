/- EtherSpoils, walked over the program's Spoil. -/
import Derived.Test.YtbpijlghdpflgaaYla
namespace Go.Proofs.Ytbpijlghdpflgaa.Eth
open Go.RowKit Go.Shelf Go.Lib

theorem great_yes {w : World} {B n c : Nat} {A : Option Addr} {l : List Cp} (h : Cls w B A n c l) (hg : grC l) : Calls Try.prog 4 #[.slice A n c] w fun e w' => e = .returned (.bool true) ∧ w' = w := by
  have := great_any h
  rw [decide_eq_true hg] at this
  exact this
theorem great_no {w : World} {B n c : Nat} {A : Option Addr} {l : List Cp} (h : Cls w B A n c l) (hg : ¬ grC l) : Calls Try.prog 4 #[.slice A n c] w fun e w' => e = .returned (.bool false) ∧ w' = w := by
  have := great_any h
  rw [decide_eq_false hg] at this
  exact this
theorem grC_len {l : List Cp} (h : ¬ grC l) : l.length ≤ 20 := by
  rcases Nat.lt_or_ge 20 l.length with h1 | h1
  · exact absurd (.inl h1) h
  · exact h1
theorem grC_txt {l : List Cp} (h : ¬ grC l) : ∀ p ∈ l, p.2.2.1.length ≤ 50000 := fun p hp => by
  rcases Nat.lt_or_ge 5000 p.2.2.1.length with h1 | h1
  · exact absurd (.inr (.inl ⟨p, hp, h1⟩)) h
  · omega
theorem lstR_len (l : List Cp) (i a : Int) (m : Nat) : (spL l i a m).length ≤ l.length := by
  unfold spL
  split
  · rw [List.length_set]; exact Nat.le_refl _
  · exact Nat.zero_le _

end Go.Proofs.Ytbpijlghdpflgaa.Eth
