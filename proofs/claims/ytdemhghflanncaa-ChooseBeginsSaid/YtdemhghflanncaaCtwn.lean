/- Twin of caches. -/
import Derived.Test.YtdemhghflanncaaCsam
namespace Go.Proofs.Ytdemhghflanncaa
open Go.RowKit Go.Shelf Go.Lib

end Go.Proofs.Ytdemhghflanncaa
