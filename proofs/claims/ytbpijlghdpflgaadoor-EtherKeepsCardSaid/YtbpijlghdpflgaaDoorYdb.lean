/- Ether: the document's Double. -/
import Derived.Test.YtbpijlghdpflgaaDoorYsn
namespace Go.Proofs.YtbpijlghdpflgaaDoor.Eth
open Go.RowKit Go.Shelf Go.Lib

end Go.Proofs.YtbpijlghdpflgaaDoor.Eth
