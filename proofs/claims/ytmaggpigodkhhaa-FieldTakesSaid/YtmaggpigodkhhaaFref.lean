/- The document's sums, frames, and what is taken. -/
import Derived.Test.YtmaggpigodkhhaaFputs
namespace Go.Proofs.Ytmaggpigodkhhaa
open Go.RowKit

end Go.Proofs.Ytmaggpigodkhhaa
