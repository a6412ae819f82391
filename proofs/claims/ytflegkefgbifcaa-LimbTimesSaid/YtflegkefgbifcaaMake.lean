/- 'make' of limbs. -/
import Derived.Test.YtflegkefgbifcaaCmp
namespace Go.Proofs.Ytflegkefgbifcaa
open Go.RowKit

theorem info_u32 : (Try.prog.info? 50).map (fun i => (i.zero, i.size, i.bytes)) = some (some (.int .u32 0), 1, 4) := by kernel_rfl

theorem make_u32 (n : Nat) (hn : n ≤ 70368744177664) (w : World) :
    (Instr.makeSlice 22 (.int .i64 (n : Int)) (.int .i64 (n : Int))).run Try.prog w = .ok (.slice (some ⟨w.heap.size, 0, none⟩) n n) (w.alloc (.cells (madeCells #[.int .u32 0] n) 50)) := by
  obtain ⟨i, hi, hz, hs, hb⟩ := info_parts info_u32
  exact run_make_row1 22 50 i _ Try.underlying22 hi hz hs _ _ n (by rw [hb]; omega) (by omega) w

end Go.Proofs.Ytflegkefgbifcaa
