/- Fresher of both sides; the document's Order and Best. -/
import Derived.Test.YtdemhghflanncaaKfir
import Derived.Test.YtdemhghflanncaaKsame
namespace Go.Proofs.Ytdemhghflanncaa
open Go.RowKit Go.Shelf Go.Lib

/-- What Fresher answers. -/
def frE (a b : De) : Int := if bad a || bad b then 8 else 0
def frB (a b : De) : Bool := !(bad a || bad b) && fr a b

theorem ds_two {X : World} {N : Nat} {a b : De} (h : X.heap[N]? = some (.cells #[.int .i64 a.1, .int .i64 a.2, .int .i64 b.1, .int .i64 b.2] 23 (0, 0))) : Ds X X.heap.size (some ⟨N, 0, none⟩) 2 2 [a, b] :=
  ⟨rfl, Nat.le_refl _, by omega, fun e => (by cases e), fun _ => ⟨N, 0, rfl, lt_of_heap h, fun j d hj => by
    match j, hj with
    | 0, hj =>
      obtain rfl : a = d := by simpa using hj
      rw [cell_of_row X N _ _ _ (0, 0) h, cell_of_row X N _ _ _ (0, 0) h]
      exact ⟨rfl, rfl⟩
    | 1, hj =>
      obtain rfl : b = d := by simpa using hj
      rw [cell_of_row X N _ _ _ (0, 0) h, cell_of_row X N _ _ _ (0, 0) h]
      exact ⟨rfl, rfl⟩
    | j + 2, hj => simp at hj⟩⟩

end Go.Proofs.Ytdemhghflanncaa
