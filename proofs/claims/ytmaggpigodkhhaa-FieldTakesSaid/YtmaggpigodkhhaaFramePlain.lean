/- What carries a walk over to a given statement: how a slice of uint32 that came in is read, and what the listed table gives. -/
import Derived.Test.YtmaggpigodkhhaaRows
import Derived.Test.YtmaggpigodkhhaaMem
import Derived.WalkKit
import Derived.ProofKit
import Derived.OpenShut
import Derived.ShutString
import Derived.ChangeOld
import Derived.Below
import Derived.SizedLaws
namespace Go.Proofs.Ytmaggpigodkhhaa
open Go.ChangeShapes Go.WideShapes Go.ChangeAt Go.RowKit

theorem own : ownKnob Try.prog.godebug = none := by kernel_rfl
theorem laidOut : laidOutB Try.prog = true := by kernel_rfl
theorem bytes_u32 : Try.prog.bytesOf 50 = 4 := by kernel_rfl

theorem rd_of_ints {H : Type} {W : World} {x : Addr} {l c : Nat} {zs : List Int} (hl : l ≤ c) (hz : zs.length = c)
    (hr : ((lits (H := H) .u32 (zs.take l)).length + (lits (H := H) .u32 (zs.drop l)).length) * Try.prog.bytesOf 50 ≤ reachBytes)
    (hcell : ∀ i, i < zs.length → W.cell? (x.add i) = some (.int .u32 (zs.getD i 0))) (hwz : ∀ n ∈ zs, (Lit.int .u32 n).wf = true) :
    Rd W W.heap.size (some x) l c (fun j => if j < l then (zs.getD j 0).toNat else 0) := by
  have hc : c ≤ 140737488355328 := by
    rw [bytes_u32] at hr
    simp only [lits, List.length_map, List.length_take, List.length_drop, reachBytes] at hr
    omega
  have hb : ∀ j, j < c → 0 ≤ zs.getD j 0 ∧ zs.getD j 0 ≤ 4294967295 := fun j hj => by
    have hm : zs.getD j 0 ∈ zs := by
      rw [List.getD_eq_getElem?_getD, List.getElem?_eq_getElem (by omega), Option.getD_some]
      exact List.getElem_mem _
    have := hwz _ hm
    have hmin : IntKind.u32.min = 0 := rfl
    have hmax : IntKind.u32.max = 4294967295 := rfl
    simp only [Lit.wf, Bool.and_eq_true, decide_eq_true_eq] at this
    omega
  refine ⟨hl, by omega, fun j => ?_, fun j hj => if_neg (by omega), fun hn => ?_⟩
  · show (if j < l then (zs.getD j 0).toNat else 0) < _
    split
    · have := hb j (by omega)
      omega
    · omega
  · obtain ⟨b, off, rfl, hc2⟩ := ints_at hcell (by omega)
    refine ⟨b, off, rfl, block_lt_of_cell (hc2 0 (by omega)), fun j hj => ?_⟩
    rw [hc2 j (by omega)]
    show _ = some (Value.int .u32 ((if j < l then (zs.getD j 0).toNat else 0 : Nat) : Int))
    rw [if_pos hj, Int.toNat_of_nonneg (hb j (by omega)).1]

end Go.Proofs.Ytmaggpigodkhhaa
