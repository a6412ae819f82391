/- Contracts: cut, bounded. -/
import Derived.Test.YtmaggpigodkhhaaLeaf
namespace Go.Proofs.Ytmaggpigodkhhaa
open Go.RowKit

/-- How many limbs are left of n, without those that are 0 at the end. -/
def cutLen (f : Nat → Nat) : Nat → Nat
  | 0 => 0
  | n + 1 => if f n = 0 then cutLen f n else n + 1
theorem cutLen_le (f : Nat → Nat) : ∀ n, cutLen f n ≤ n
  | 0 => Nat.le_refl _
  | n + 1 => by unfold cutLen; split <;> have := cutLen_le f n <;> omega
theorem cutLen_last (f : Nat → Nat) : ∀ n, 0 < cutLen f n → f (cutLen f n - 1) ≠ 0
  | 0, h => by simp [cutLen] at h
  | n + 1, h => by
    unfold cutLen at h ⊢
    by_cases hz : f n = 0
    · rw [if_pos hz] at h ⊢
      exact cutLen_last f n h
    · rw [if_neg hz]
      simpa using hz
theorem cutLen_zero (f : Nat → Nat) : ∀ n j, cutLen f n ≤ j → j < n → f j = 0
  | 0, j, _, h => by omega
  | n + 1, j, h1, h2 => by
    unfold cutLen at h1
    by_cases hz : f n = 0
    · rw [if_pos hz] at h1
      rcases Nat.lt_or_ge j n with h | h
      · exact cutLen_zero f n j h1 h
      · obtain rfl : j = n := by omega
        exact hz
    · rw [if_neg hz] at h1
      omega
theorem cutLen_vl (f : Nat → Nat) (n : Nat) : vl f n = vl f (cutLen f n) := vl_above (cutLen_le f n) (fun j h1 h2 => cutLen_zero f n j h1 h2)

/-- The limbs f 0 .. f (k - 1), and 0 above. -/
def trim (k : Nat) (f : Nat → Nat) (j : Nat) : Nat := if j < k then f j else 0
theorem trim_in {k j : Nat} {f : Nat → Nat} (h : j < k) : trim k f j = f j := if_pos h
theorem trim_out {k j : Nat} {f : Nat → Nat} (h : k ≤ j) : trim k f j = 0 := if_neg (by omega)
theorem trim_lt {k : Nat} {f : Nat → Nat} (h : ∀ j, j < k → f j < 4294967296) (j : Nat) : trim k f j < 4294967296 := by
  unfold trim
  split
  · exact h j ‹_›
  · omega

/-- What is left of a row of the call's own, cut, is a number. -/
theorem cut_num {w : World} {e : TypeId} {B g N : Nat} {z : Nat → Nat} (h : Blk w e g N z) (hg : B ≤ g) (hz : ∀ j, z j < 4294967296) (h40 : cutLen z N ≤ 40) :
    Num e B w (vl z N) (.slice (some ⟨g, 0, none⟩) (cutLen z N) (cutLen z N)) := by
  have hle := cutLen_le z N
  refine ⟨_, _, _, trim (cutLen z N) z, rfl, Mk.of_blk h hg (Nat.le_refl _) hle (by omega) (trim_lt fun j _ => hz j) (fun j hj => trim_out hj) (fun j hj => (trim_in hj).symm), ⟨h40, fun hp => ?_⟩, ?_⟩
  · rw [trim_in (by omega)]
    exact cutLen_last z N hp
  · rw [cutLen_vl z N]
    exact vl_congr fun j hj => trim_in hj

theorem cutLen_40 {z : Nat → Nat} {N : Nat} (hz : ∀ j, z j < 4294967296) : cutLen z N ≤ 40 ↔ vl z N < pw 40 := by
  rw [cutLen_vl z N]
  constructor
  · intro h
    have a := vl_lt (f := z) (k := cutLen z N) (fun j _ => hz j)
    have b := pw_mono h
    omega
  · intro h
    rcases Nat.lt_or_ge 40 (cutLen z N) with hlt | hge
    · have a := vl_ge (f := z) (k := cutLen z N) (by omega) (cutLen_last z N (by omega))
      have b : pw 40 ≤ pw (cutLen z N - 1) := pw_mono (by omega)
      omega
    · exact hge

/-- The error of a number that is told in limbs. -/
def overErr (V : Nat) : Int := if V < pw 40 then 0 else 10

end Go.Proofs.Ytmaggpigodkhhaa
