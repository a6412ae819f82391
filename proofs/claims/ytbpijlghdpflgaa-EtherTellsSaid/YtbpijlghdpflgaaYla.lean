/- Ether: alive. -/
import Derived.Test.YtbpijlghdpflgaaYlo
namespace Go.Proofs.Ytbpijlghdpflgaa.Eth
open Go.RowKit Go.Shelf Go.Lib

end Go.Proofs.Ytbpijlghdpflgaa.Eth
