/- slices.Grow of nil, slices.Clone. -/
import Derived.Test.YtdemhghflanncaaKsor
import Derived.Lib.AppendZeros
import Derived.Laws.Cover3
namespace Go.Proofs.Ytdemhghflanncaa
open Go.RowKit Go.Shelf Go.Lib

set_option maxHeartbeats 1600000 in
theorem grow_nil (n : Nat) (hn : n ≤ 100000) (w : World) :
    Calls Try.prog 53 #[.slice none 0 0, .int .i64 n] w fun e w' => ∃ v, e = .returned v ∧ Hid (Od w' w.heap.size v [] ∧ Below w.heap.size w w') := by
  rcases Nat.eq_zero_or_pos n with h0 | h0
  · subst h0
    go_enter Try.func53, Try.ntmps53
    go_wp2
    go_ret
    exact ⟨_, rfl, hid ⟨Od.nil _ _, Below.refl _ _⟩⟩
  · obtain ⟨i0, hi0, hz0, hzs, hzb⟩ := info_parts infoD
    obtain ⟨G, hG⟩ : ∃ G, G = grownCap w n 0 23 := ⟨_, rfl⟩
    have hGn : n ≤ G := by rw [hG]; exact grownCap_ge w _ _ _
    have hGm : G ≤ maxLen := by rw [hG]; exact grownCap_le_maxLen w n 0 23 (by unfold maxLen; omega)
    obtain ⟨ROW, hROW⟩ : ∃ ROW : Array Value, ROW = Builtin.zeroCells (Value.agg #[.int .i64 0, .int .i64 0]).cells n ++ Builtin.zeroCells (Value.agg #[.int .i64 0, .int .i64 0]).cells (G - n) := ⟨_, rfl⟩
    have hrz : ∀ ty, (Builtin.append_ #[27, 3] ty #[.slice none 0 0, .int .i64 (n : Int)]).run Try.prog w =
        .ok (.slice (some ⟨w.heap.size, 0, none⟩) n G) (w.drew.alloc (.cells ROW 23)) := fun ty => by
      have h := Lib.run_append_nil_zeros w 27 3 ty 23 i0 _ .i64 .i64 Try.underlying27 Try.underlying3 hi0 hz0 n h0 (by omega) (by omega) (by rw [hzb]; omega)
      rw [← hG, ← hROW] at h
      exact h
    have hRs : ROW.size = G * 2 := by
      rw [hROW, Array.size_append, size_zeroCells, size_zeroCells]
      show n * 2 + (G - n) * 2 = G * 2
      omega
    have HR : Hid (Od (w.drew.alloc (.cells ROW 23)) w.heap.size (.slice (some ⟨w.heap.size, 0, none⟩) 0 G) [] ∧ Below w.heap.size w (w.drew.alloc (.cells ROW 23))) := hid ⟨⟨⟨by simp [cellsD], .inr ⟨w.heap.size, G, ROW, rfl, Nat.le_refl _, heap_alloc_new w.drew _, Nat.zero_le _, hGm, hRs, by simp [cellsD]⟩⟩, by simp⟩, ((Below.refl _ w).drew).alloc (Nat.le_refl _) _⟩
    have hG63 : G ≤ 9223372036854775807 := by unfold maxLen at hGm; omega
    have hgt : (n : Int) > 0 := by omega
    have hng : ¬ (n : Int) < 0 := by omega
    have hG0 : ¬ (G = 0) := by omega
    clear hRs hROW hG
    go_enter Try.func53, Try.ntmps53
    go_wp2_with (at_builtin; refine Lib.wpList_append_run _ rfl _ _ _ _ rfl _ _ rfl rfl _ _ (hrz _) ?_)
    go_ret
    exact ⟨_, rfl, HR⟩

end Go.Proofs.Ytdemhghflanncaa
