/- The document's content of a mail: tags. -/
import Derived.Test.YtbankbehfjogpaaGreatVap
import Derived.Test.YtbankbehfjogpaaGreatVai
namespace Go.Proofs.YtbankbehfjogpaaGreat
open Go.RowKit Go.Shelf Go.Lib
set_option maxRecDepth 100000
theorem tgx_len : ∀ {l : List Nat}, l.length ≤ 10000 → (tgx l).length ≤ 100000 := by
  intro l h
  have : (tgx l).length = 4 * l.length := by
    clear h
    induction l with
    | nil => rfl
    | cons d l ih =>
      unfold tgx at ih ⊢
      rw [List.flatMap_cons, List.length_append, ih, be_length, List.length_cons]
      omega
  omega
end Go.Proofs.YtbankbehfjogpaaGreat
