/- The document's content of a mail: lists. -/
import Derived.Test.YtbankbehfjogpaaGreatVap
import Derived.Test.YtbankbehfjogpaaGreatVai
namespace Go.Proofs.YtbankbehfjogpaaGreat
open Go.RowKit Go.Shelf Go.Lib
set_option maxRecDepth 100000
theorem any_not_bad {l : List De} {i : Nat} {d : De} (h : l.any bad = false) (hd : l[i]? = some d) : 0 ≤ d.1 ∧ d.1 < 8 ∧ 0 ≤ d.2 ∧ d.2 ≤ 2147483647 := by
  have h1 := List.any_eq_false.1 h d (List.mem_of_getElem? hd)
  unfold bad at h1
  simp only [Bool.or_eq_true, decide_eq_true_eq, not_or, Int.not_lt, Int.not_le] at h1
  omega
theorem take_snoc' {l : List De} {k : Nat} {d : De} (h : l[k]? = some d) : l.take (k + 1) = l.take k ++ [d] := by
  rw [List.take_add_one, h]
  rfl
theorem lsx_len : ∀ {l : List De}, l.length ≤ 10000 → (lsx l).length ≤ 100000 := by
  intro l h
  have : (lsx l).length = 5 * l.length := by
    clear h
    induction l with
    | nil => rfl
    | cons d l ih =>
      unfold lsx at ih ⊢
      rw [List.flatMap_cons, List.length_append, ih, List.length_append, be_length, be_length, List.length_cons]
      omega
  omega
end Go.Proofs.YtbankbehfjogpaaGreat
