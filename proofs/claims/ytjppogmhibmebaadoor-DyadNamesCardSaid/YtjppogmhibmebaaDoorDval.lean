/- The contracts of package limb that package dyad uses, for numbers that may be. -/
import Derived.Test.YtjppogmhibmebaaDoorRightLaw
import Derived.Test.YtjppogmhibmebaaDoorDv0
import Derived.Test.YtjppogmhibmebaaDoorLow
import Derived.Test.YtjppogmhibmebaaDoorSub
import Derived.Test.YtjppogmhibmebaaDoorAdd
namespace Go.Proofs.YtjppogmhibmebaaDoor
open Go.RowKit

section
variable {V U : Nat} {w : World} {v1 v2 : Value}
theorem right_val (h1 : Val w V v1) (k : Nat) (hk : k ≤ 9223372036854775807) : Calls Tryd.prog 64 #[v1, .int .i64 (k : Int)] w (Backn w (· = 0) (V / tp k)) := by
  obtain ⟨A, n, c, f, rfl, hr, hf, rfl⟩ := h1
  have h := Right_any hr (k : Int) (by omega)
  rw [Int.toNat_natCast] at h
  refine h.mono fun e w' hA => hA.backn ?_
  unfold rightErr
  rw [if_pos hf, if_neg (by omega)]
theorem low_val (h1 : Val w V v1) (hT : Tab w) : Calls Tryd.prog 90 #[v1] w fun e w' => ∃ k : Nat, e = .returned (.tuple #[.int .i64 (k : Int), .int .i64 0]) ∧ Hid (LowOf V k) ∧ Hid (Below w.heap.size w w') := by
  obtain ⟨A, n, c, f, rfl, hr, hf, rfl⟩ := h1
  refine (Low_any hr hT).mono ?_
  rintro e w' ⟨hb, k, rfl, hgood, _⟩
  rw [chk_fit hf]
  exact ⟨k, rfl, hgood hf, hb⟩
theorem add_val (h1 : Val w V v1) (h2 : Val w U v2) : Calls Tryd.prog 91 #[v1, v2] w (Backn w (· = overErr (V + U)) (V + U)) := by
  obtain ⟨A, k, c, f, rfl, hr, hf, rfl⟩ := h1
  obtain ⟨D, m, d, g, rfl, hs, hg, rfl⟩ := h2
  refine (add_any hr hs).mono fun e w' hA => hA.backn ?_
  unfold addErr
  exact if_pos ⟨hf, hg⟩
theorem sub_val (h1 : Val w V v1) (h2 : Val w U v2) (hle : U ≤ V) : Calls Tryd.prog 93 #[v1, v2] w (Backn w (· = 0) (V - U)) := by
  obtain ⟨A, k, c, f, rfl, hr, hf, rfl⟩ := h1
  obtain ⟨D, m, d, g, rfl, hs, hg, rfl⟩ := h2
  refine (sub_any hr hs).mono fun e w' hA => hA.backn ?_
  unfold subErr
  rw [if_pos ⟨hf, hg⟩, if_neg (by omega)]
end
end Go.Proofs.YtjppogmhibmebaaDoor
