/- Contract: limb.Bits. -/
import Derived.Test.YtmaggpigodkhhaaMake
import Derived.Test.YtmaggpigodkhhaaBits
namespace Go.Proofs.Ytmaggpigodkhhaa
open Go.RowKit

/-- Bits' answer: an error, and how many digits. -/
def BitsPost (w : World) (n : Nat) (f : Nat → Nat) (e : Ending) (w' : World) : Prop :=
  Below w.heap.size w w' ∧ ∃ s : Nat, e = .returned (.tuple #[.int .i64 (s : Int), .int .i64 (chk n f)]) ∧ (Fit n f → Size (vl f n) s) ∧ (¬ Fit n f → s = 0)

end Go.Proofs.Ytmaggpigodkhhaa
