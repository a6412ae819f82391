/- The document's sums, frames, and what is taken. -/
import Derived.Test.YtndehapggbmndaaFputs
namespace Go.Proofs.Ytndehapggbmndaa
open Go.RowKit

end Go.Proofs.Ytndehapggbmndaa
