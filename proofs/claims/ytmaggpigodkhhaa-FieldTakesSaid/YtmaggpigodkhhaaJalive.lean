/- The law's own helper of package field: alive. -/
import Derived.Test.YtmaggpigodkhhaaJdy
namespace Go.Proofs.Ytmaggpigodkhhaa
open Go.RowKit

/-- The limbs of a number below 2^32. -/
def one (x j : Nat) : Nat := if j = 0 then x else 0
theorem Rd.one (w : World) (x : Nat) (hx : x < 4294967296) : Rd (w.alloc (.cells #[.int .u32 (x : Int)] 50)) (w.heap.size + 1) (some ⟨w.heap.size, 0, none⟩) 1 1 (one x) :=
  ⟨Nat.le_refl _, by omega, fun j => by unfold Proofs.Ytmaggpigodkhhaa.one; split <;> omega, fun j hj => if_neg (by omega), fun _ => ⟨w.heap.size, 0, rfl, by omega, fun j hj => by
    obtain rfl : j = 0 := by omega
    rw [cell_of_row _ w.heap.size _ _ 50 (0, 0) (heap_alloc_new w _)]
    rfl⟩⟩

end Go.Proofs.Ytmaggpigodkhhaa
