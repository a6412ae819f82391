/- Package desc and the document's: of two descriptors. -/
import Derived.Test.YtdemhghflanncaaMem
import Derived.Test.YtdemhghflanncaaKbest
import Derived.Test.YtdemhghflanncaaChecked
import Derived.RegionTactic
import Derived.IntWalk
import Derived.Laws.StructEq
namespace Go.Proofs.Ytdemhghflanncaa
open Go.RowKit

/-- A descriptor's value, and its cells. -/
def dv (d : De) : Value := .agg #[.int .i64 d.1, .int .i64 d.2]
def enc (d : De) : List Value := [.int .i64 d.1, .int .i64 d.2]

theorem fresher_any (a b : De) (w : World) :
    Calls Try.prog 51 #[dv a, dv b] w fun e w' => e = .returned (.bool (fr a b)) ∧ Hid (Below w.heap.size w w') := by
  obtain ⟨a1, a2⟩ := a
  obtain ⟨b1, b2⟩ := b
  have HB := hid (((Below.refl _ w).alloc (Nat.le_refl _) (.cells #[.int .i64 a1, .int .i64 a2] 23)).alloc (by simp) (.cells #[.int .i64 b1, .int .i64 b2] 23))
  show Calls Try.prog 51 #[.agg #[.int .i64 a1, .int .i64 a2], .agg #[.int .i64 b1, .int .i64 b2]] w _
  by_cases h : a2 = b2
  · subst h
    have hf : fr (a1, a2) (b1, a2) = decide (a1 < b1) := by simp [fr]
    rw [hf]
    go_enter Try.func51, Try.ntmps51
    go_wp2
    go_ret
    exact ⟨rfl, HB⟩
  · have hf : fr (a1, a2) (b1, b2) = decide (b2 < a2) := by simp [fr, h]
    rw [hf]
    go_enter Try.func51, Try.ntmps51
    go_wp2
    go_ret
    exact ⟨rfl, HB⟩

theorem bad1_any (a : De) (w : World) :
    Calls Try.prog 55 #[dv a] w fun e w' => e = .returned (.bool (bad a)) ∧ Hid (Below w.heap.size w w') := by
  obtain ⟨a1, a2⟩ := a
  have HB := hid ((Below.refl _ w).alloc (Nat.le_refl _) (.cells #[.int .i64 a1, .int .i64 a2] 23))
  show Calls Try.prog 55 #[.agg #[.int .i64 a1, .int .i64 a2]] w _
  have hb : bad (a1, a2) = (decide (a1 < 0) || decide (8 ≤ a1) || decide (a2 < 0) || decide (2147483647 < a2)) := rfl
  rw [hb]
  by_cases h1 : a1 < 0
  · go_enter Try.func55, Try.ntmps55
    go_wp2
    go_ret
    exact ⟨by (simp; try omega), HB⟩
  by_cases h2 : 8 ≤ a1
  · go_enter Try.func55, Try.ntmps55
    go_wp2
    go_ret
    exact ⟨by (simp; try omega), HB⟩
  by_cases h3 : a2 < 0
  · go_enter Try.func55, Try.ntmps55
    go_wp2
    go_ret
    exact ⟨by (simp; try omega), HB⟩
  · go_enter Try.func55, Try.ntmps55
    go_wp2
    go_ret
    exact ⟨by (simp; try omega), HB⟩

theorem one_any (a : De) (w : World) :
    Calls Try.prog 46 #[dv a] w fun e w' => e = .returned (.bool (!bad a)) ∧ Hid (Below w.heap.size w w') := by
  obtain ⟨a1, a2⟩ := a
  have HB := hid ((Below.refl _ w).alloc (Nat.le_refl _) (.cells #[.int .i64 a1, .int .i64 a2] 23))
  show Calls Try.prog 46 #[.agg #[.int .i64 a1, .int .i64 a2]] w _
  have hb : (!bad (a1, a2)) = (decide (0 ≤ a1) && decide (a1 < 8) && decide (0 ≤ a2) && decide (a2 ≤ 2147483647)) := by
    unfold bad
    rw [Bool.eq_iff_iff]
    simp
  rw [hb]
  by_cases h1 : 0 ≤ a1
  case neg =>
    go_enter Try.func46, Try.ntmps46
    go_wp2
    go_ret
    exact ⟨by (simp; try omega), HB⟩
  by_cases h2 : a1 < 8
  case neg =>
    go_enter Try.func46, Try.ntmps46
    go_wp2
    go_ret
    exact ⟨by (simp; try omega), HB⟩
  by_cases h3 : 0 ≤ a2
  case neg =>
    go_enter Try.func46, Try.ntmps46
    go_wp2
    go_ret
    exact ⟨by (simp; try omega), HB⟩
  go_enter Try.func46, Try.ntmps46
  go_wp2
  go_ret
  exact ⟨by (simp; try omega), HB⟩

theorem ahead_any (a b : De) (w : World) :
    Calls Try.prog 47 #[dv a, dv b] w fun e w' => e = .returned (.bool (fr a b)) ∧ Hid (Below w.heap.size w w') := by
  obtain ⟨a1, a2⟩ := a
  obtain ⟨b1, b2⟩ := b
  have HB := hid (((Below.refl _ w).alloc (Nat.le_refl _) (.cells #[.int .i64 a1, .int .i64 a2] 23)).alloc (by simp) (.cells #[.int .i64 b1, .int .i64 b2] 23))
  show Calls Try.prog 47 #[.agg #[.int .i64 a1, .int .i64 a2], .agg #[.int .i64 b1, .int .i64 b2]] w _
  have hb : fr (a1, a2) (b1, b2) = (decide (b2 < a2) || decide (a2 = b2) && decide (a1 < b1)) := by
    unfold fr
    split
    · next h => simp at h; simp [h]
    · next h => simp at h; simp [h]
  rw [hb]
  by_cases h1 : b2 < a2
  · go_enter Try.func47, Try.ntmps47
    go_wp2
    go_ret
    exact ⟨by (simp; try omega), HB⟩
  by_cases h2 : a2 = b2
  case neg =>
    go_enter Try.func47, Try.ntmps47
    go_wp2
    go_ret
    exact ⟨by (simp; try omega), HB⟩
  subst h2
  go_enter Try.func47, Try.ntmps47
  go_wp2
  go_ret
  exact ⟨by (simp; try omega), HB⟩
end Go.Proofs.Ytdemhghflanncaa
