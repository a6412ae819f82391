/- Ether: the document's Without and Take. -/
import Derived.Test.YtbpijlghdpflgaaDoorYdb
namespace Go.Proofs.YtbpijlghdpflgaaDoor.Eth
open Go.RowKit Go.Shelf Go.Lib

/-- What Without leaves. -/
def WitR (w : World) (n : Nat) (l : List Cp) (e : Ending) (w' : World) : Prop := ∃ A' c' rs, e = .returned (.slice A' n c') ∧ Hid (Cow w' (fun q => w.heap.size ≤ q) A' n c' rs l ∧ Below w.heap.size w w')

end Go.Proofs.YtbpijlghdpflgaaDoor.Eth
