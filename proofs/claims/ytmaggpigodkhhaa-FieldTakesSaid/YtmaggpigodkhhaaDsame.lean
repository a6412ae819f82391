/- Package dyad: Same, Of; the law's own helper part. -/
import Derived.Test.YtmaggpigodkhhaaDbox
namespace Go.Proofs.Ytmaggpigodkhhaa
open Go.RowKit

/-- A Boolean that tells whether P, in new memory. -/
def Says (w : World) (P : Prop) (e : Ending) (w' : World) : Prop := ∃ r, e = .returned (.bool r) ∧ Hid (r = true ↔ P) ∧ Hid (Below w.heap.size w w')
end Go.Proofs.Ytmaggpigodkhhaa
