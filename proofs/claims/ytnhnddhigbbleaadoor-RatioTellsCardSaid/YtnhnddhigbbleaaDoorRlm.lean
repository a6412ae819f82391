/- Limbs of one number, however many: what they are when they may be. -/
import Derived.Test.YtnhnddhigbbleaaDoorRlimbs
import Derived.Test.YtnhnddhigbbleaaDoorRsame
namespace Go.Proofs.YtnhnddhigbbleaaDoor
open Go.RowKit

theorem lm_40 {n V : Nat} {h : Nat → Nat} (hlt : ∀ j, h j < 4294967296) (h1 : 0 < n → h (n - 1) ≠ 0) (hV : vl h n = V) : n ≤ 40 ↔ V < pw 40 := by
  subst hV
  constructor
  · intro hn
    exact Nat.lt_of_lt_of_le (vl_lt fun j _ => hlt j) (pw_mono hn)
  · intro hV
    rcases Nat.lt_or_ge 40 n with h2 | h2
    · have a := vl_ge (f := h) (k := n) (by omega) (h1 (by omega))
      have b : pw 40 ≤ pw (n - 1) := pw_mono (by omega)
      omega
    · exact h2

theorem lm_val {w : World} {V : Nat} {v : Value} (h : Lm w w.heap.size V v) (hV : V < pw 40) : Val w V v := by
  obtain ⟨A, n, c, f, rfl, hr, hl, hv⟩ := h
  exact ⟨A, n, c, f, rfl, hr, ⟨(lm_40 hr.lt hl hv).2 hV, hl⟩, hv⟩
theorem Val.lm {w : World} {V : Nat} {v : Value} (h : Val w V v) : Lm w w.heap.size V v := by
  obtain ⟨A, n, c, f, rfl, hr, hf, hv⟩ := h
  exact ⟨A, n, c, f, rfl, hr, hf.2, hv⟩

theorem rsame_val {V : Nat} {v1 v2 : Value} {w : World} (h1 : Val w V v1) (h2 : Val w V v2) :
    Calls Tryd.prog 24 #[v1, v2] w fun e w' => e = .returned (.bool true) ∧ ∃ q, w.drewN q = w' := rsame_lm h1.lm h2.lm

end Go.Proofs.YtnhnddhigbbleaaDoor
