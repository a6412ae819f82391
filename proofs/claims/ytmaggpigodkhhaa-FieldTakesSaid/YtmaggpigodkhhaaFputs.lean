/- Package frame: Put. -/
import Derived.Test.YtmaggpigodkhhaaFput
namespace Go.Proofs.Ytmaggpigodkhhaa
open Go.RowKit

/-- A frame's head. -/
def hd (kind : Nat) (xs : List Nat) : List Nat := [72, 1, kind, xs.length / 256, xs.length % 256]
/-- A frame. -/
def frm (kind : Nat) (xs : List Nat) : List Nat := hd kind xs ++ xs ++ bys (crc (hd kind xs ++ xs)) 4

theorem hd_lt {kind : Nat} {xs : List Nat} (hk : kind < 256) (hn : xs.length ≤ 4096) : ∀ x ∈ hd kind xs, x < 256 := by
  intro x hx
  simp [hd] at hx
  rcases hx with h | h | h | h | h <;> omega

theorem Ow.made {w : World} {B c : Nat} (hB : B ≤ w.heap.size) (hc : c ≤ 1000000) : Ow (w.alloc (.cells (madeCells #[.int .u8 0] c) 5)) B (.slice (some ⟨w.heap.size, 0, none⟩) 0 c) [] :=
  ⟨⟨rfl, .inr ⟨w.heap.size, c, _, rfl, hB, heap_alloc_new w _, Nat.zero_le _, by unfold maxLen; omega, by simp [madeCells], rfl⟩⟩, by simp, by simp⟩

end Go.Proofs.Ytmaggpigodkhhaa
