/- Contract: the law's own great. -/
import Derived.Test.YtflegkefgbifcaaProg
import Derived.Test.YtflegkefgbifcaaMem
namespace Go.Proofs.Ytflegkefgbifcaa
open Go.RowKit

theorem great_any (A : Option Addr) (n c : Nat) (w : World) (_hn : n ≤ 140737488355328) :
    Calls Try.prog 5 #[.slice A n c] w fun e w' => e = .returned (.bool (decide ((42 : Int) < (n : Int)))) ∧ w = w' := by
  go_enter Try.func5, Try.ntmps5
  go_wp2
  go_ret
  exact ⟨rfl, rfl⟩


end Go.Proofs.Ytflegkefgbifcaa
