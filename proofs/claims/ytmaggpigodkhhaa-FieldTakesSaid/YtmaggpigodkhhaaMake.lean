/- 'make' of limbs. -/
import Derived.Test.YtmaggpigodkhhaaCmp
namespace Go.Proofs.Ytmaggpigodkhhaa
open Go.RowKit

theorem info_u32 : (Try.prog.info? 50).map (fun i => (i.zero, i.size, i.bytes)) = some (some (.int .u32 0), 1, 4) := by kernel_rfl

theorem make_u32 (n : Nat) (hn : n ≤ 70368744177664) (w : World) :
    (Instr.makeSlice 24 (.int .i64 (n : Int)) (.int .i64 (n : Int))).run Try.prog w = .ok (.slice (some ⟨w.heap.size, 0, none⟩) n n) (w.alloc (.cells (madeCells #[.int .u32 0] n) 50)) := by
  obtain ⟨i, hi, hz, hs, hb⟩ := info_parts info_u32
  exact run_make_row1 24 50 i _ Try.underlying24 hi hz hs _ _ n (by rw [hb]; omega) (by omega) w

theorem Num.zero (t : TypeId) (B : Nat) (w : World) : Num t B w 0 (.slice none 0 0) :=
  ⟨none, 0, 0, fun _ => 0, rfl, Mk.nil _ _ _, ⟨by omega, fun h => absurd h (by omega)⟩, rfl⟩


end Go.Proofs.Ytmaggpigodkhhaa
