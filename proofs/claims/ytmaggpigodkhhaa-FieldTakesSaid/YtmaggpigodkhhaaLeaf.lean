/- Contracts: the small functions of package limb: at, Check, places, anyBad. -/
import Derived.Test.YtmaggpigodkhhaaProg
import Derived.Test.YtmaggpigodkhhaaMem
namespace Go.Proofs.Ytmaggpigodkhhaa
open Go.RowKit

/-- Check's number. -/
def chk (n : Nat) (f : Nat → Nat) : Int := if Fit n f then 0 else 8
theorem chk_fit {n : Nat} {f : Nat → Nat} (h : Fit n f) : chk n f = 0 := if_pos h
theorem chk_bad {n : Nat} {f : Nat → Nat} (h : ¬ Fit n f) : chk n f = 8 := if_neg h

set_option maxHeartbeats 400000 in
theorem check_long (A : Option Addr) (n c : Nat) (w : World) (hn : 40 < n) (_hc : n ≤ c) (_hm : n ≤ 140737488355328) :
    Calls Try.prog 35 #[.slice A n c] w fun e w' => e = .returned (.int .i64 8) ∧ w = w' := by
  go_enter Try.func35, Try.ntmps35
  go_wp2
  go_ret
  exact ⟨rfl, rfl⟩

set_option maxHeartbeats 400000 in
theorem check_nil (A : Option Addr) (c : Nat) (w : World) :
    Calls Try.prog 35 #[.slice A 0 c] w fun e w' => e = .returned (.int .i64 0) ∧ w = w' := by
  go_enter Try.func35, Try.ntmps35
  go_wp2
  go_ret
  exact ⟨rfl, rfl⟩

set_option maxHeartbeats 400000 in
theorem check_zero (b off n c : Nat) (w : World) (h0 : 0 < n) (hn : n ≤ 40) (_hc : n ≤ c) (_hm : n ≤ 140737488355328) (hx : w.cell? ⟨b, off + (n - 1), none⟩ = some (.int .u32 0)) :
    Calls Try.prog 35 #[.slice (some ⟨b, off, none⟩) n c] w fun e w' => e = .returned (.int .i64 8) ∧ w = w' := by
  go_enter Try.func35, Try.ntmps35
  go_wp2
  go_ret
  exact ⟨rfl, rfl⟩

set_option maxHeartbeats 400000 in
theorem check_last (b off n c x : Nat) (w : World) (h0 : 0 < n) (hn : n ≤ 40) (_hc : n ≤ c) (_hm : n ≤ 140737488355328) (hx : w.cell? ⟨b, off + (n - 1), none⟩ = some (.int .u32 (x : Int))) (h1 : 0 < x) :
    Calls Try.prog 35 #[.slice (some ⟨b, off, none⟩) n c] w fun e w' => e = .returned (.int .i64 0) ∧ w = w' := by
  have hx0 : (((x : Nat) : Int) == 0) = false := by simp; omega
  go_enter Try.func35, Try.ntmps35
  go_wp2
  go_ret
  exact ⟨rfl, rfl⟩

theorem check_any {B : Nat} {A : Option Addr} {n c : Nat} {f : Nat → Nat} {w : World} (h : Rd w B A n c f) :
    Calls Try.prog 35 #[.slice A n c] w fun e w' => e = .returned (.int .i64 (chk n f)) ∧ w = w' := by
  by_cases hf : Fit n f
  · rw [chk_fit hf]
    obtain ⟨h1, h2⟩ := hf
    rcases Nat.eq_zero_or_pos n with h0 | h0
    · subst h0
      exact check_nil A c w
    · obtain ⟨b, off, rfl, _, hc⟩ := h.at_ h0
      exact check_last b off n c _ w h0 h1 h.cap h.max (hc (n - 1) (by omega)) (Nat.pos_of_ne_zero (h2 h0))
  · rw [chk_bad hf]
    by_cases h1 : n ≤ 40
    · have h0 : 0 < n := by
        rcases Nat.eq_zero_or_pos n with h0 | h0
        · exact absurd ⟨h1, fun h => absurd h (by omega)⟩ hf
        · exact h0
      obtain ⟨b, off, rfl, _, hc⟩ := h.at_ h0
      have hz : f (n - 1) = 0 := by
        rcases Nat.eq_zero_or_pos (f (n - 1)) with hz | hz
        · exact hz
        · exact absurd ⟨h1, fun _ => by omega⟩ hf
      have := hc (n - 1) (by omega)
      rw [hz] at this
      exact check_zero b off n c w h0 h1 h.cap h.max this
    · exact check_long A n c w (by omega) h.cap h.max

end Go.Proofs.Ytmaggpigodkhhaa
