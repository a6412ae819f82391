/- Timers, one by one: of both sides. -/
import Derived.Test.YtgcmljnjfghagaaMem
import Derived.Test.YtgcmljnjfghagaaTnm
import Derived.Test.YtgcmljnjfghagaaChecked
import Derived.RegionTactic
import Derived.IntWalk
import Derived.Laws.StructEq
namespace Go.Proofs.Ytgcmljnjfghagaa.Tm
open Go.RowKit

/-- A timer's value, and its cells. -/
def dv (d : De) : Value := .agg #[.int .i64 d.1, .int .i64 d.2]
def enc (d : De) : List Value := [.int .i64 d.1, .int .i64 d.2]
/-- What each of these calls leaves. -/
def Tel (w : World) (r : Bool) : Ending → World → Prop := fun e w' => e = .returned (.bool r) ∧ Hid (Below w.heap.size w w')
theorem box1 (w : World) (a1 a2 : Int) : Below w.heap.size w (w.alloc (.cells #[.int .i64 a1, .int .i64 a2] 23)) := (Below.refl _ w).alloc (Nat.le_refl _) _
theorem box2 (w : World) (a1 a2 b1 b2 : Int) : Below w.heap.size w ((w.alloc (.cells #[.int .i64 a1, .int .i64 a2] 23)).alloc (.cells #[.int .i64 b1, .int .i64 b2] 23)) := (box1 w a1 a2).alloc (by simp) _

theorem within_any (w : World) (n m : Int) : Calls Try.prog 31 #[.int .i64 n, .int .i64 m] w fun e w' => e = .returned (.bool (decide (0 ≤ n) && decide (n ≤ m))) ∧ w = w' := by
  by_cases h1 : n ≥ 0
  · have e1 : decide (0 ≤ n) = true := decide_eq_true h1
    by_cases h2 : n ≤ m
    · rw [e1, decide_eq_true h2]
      go_enter Try.func31, Try.ntmps31
      go_wp2
      go_ret
      exact ⟨rfl, rfl⟩
    · rw [e1, decide_eq_false h2]
      go_enter Try.func31, Try.ntmps31
      go_wp2
      go_ret
      exact ⟨rfl, rfl⟩
  · have e1 : decide (0 ≤ n) = false := decide_eq_false h1
    rw [e1]
    go_enter Try.func31, Try.ntmps31
    go_wp2
    go_ret
    exact ⟨rfl, rfl⟩

theorem mayBe_any (a : De) (w : World) : Calls Try.prog 25 #[dv a] w (Tel w (may a)) := by
  obtain ⟨a1, a2⟩ := a
  have HB := hid (box1 w a1 a2)
  have C1 := hid (fun w => within_any w a1 2147483647)
  have C2 := hid (fun w => within_any w a2 1048575)
  have hm : may (a1, a2) = ((decide (0 ≤ a1) && decide (a1 ≤ 2147483647)) && (decide (0 ≤ a2) && decide (a2 ≤ 1048575))) := by unfold may; rw [Bool.and_assoc]
  rw [hm]
  show Calls Try.prog 25 #[.agg #[.int .i64 a1, .int .i64 a2]] w _
  generalize (decide (0 ≤ a1) && decide (a1 ≤ 2147483647)) = r1 at C1 ⊢
  generalize (decide (0 ≤ a2) && decide (a2 ≤ 1048575)) = r2 at C2 ⊢
  clear hm
  cases r1 with
  | false =>
    go_enter Try.func25, Try.ntmps25
    go_wp2_with fail
    refine (C1.out _).mono ?_
    rintro e w1 ⟨rfl, rfl⟩
    go_wp2
    go_ret
    exact ⟨rfl, HB⟩
  | true =>
    go_enter Try.func25, Try.ntmps25
    go_wp2_with fail
    refine (C1.out _).mono ?_
    rintro e w1 ⟨rfl, rfl⟩
    go_wp2_with fail
    refine (C2.out _).mono ?_
    rintro e w1 ⟨rfl, rfl⟩
    go_wp2
    go_ret
    exact ⟨rfl, HB⟩

theorem ahead_any (a b : De) (w : World) : Calls Try.prog 40 #[dv a, dv b] w (Tel w (ah a b)) := by
  obtain ⟨a1, a2⟩ := a
  obtain ⟨b1, b2⟩ := b
  have HB := hid (box2 w a1 a2 b1 b2)
  show Calls Try.prog 40 #[.agg #[.int .i64 a1, .int .i64 a2], .agg #[.int .i64 b1, .int .i64 b2]] w _
  by_cases h : a1 = b1
  · subst h
    have hf : ah (a1, a2) (a1, b2) = decide (a2 < b2) := by simp [ah]
    rw [hf]
    go_enter Try.func40, Try.ntmps40
    go_wp2
    go_ret
    exact ⟨rfl, HB⟩
  · have hf : ah (a1, a2) (b1, b2) = decide (a1 < b1) := by simp [ah, h]
    rw [hf]
    go_enter Try.func40, Try.ntmps40
    go_wp2
    go_ret
    exact ⟨rfl, HB⟩

theorem rmay_any (a : De) (w : World) : Calls Try.prog 41 #[dv a] w (Tel w (may a)) := by
  obtain ⟨a1, a2⟩ := a
  have HB := hid (box1 w a1 a2)
  show Calls Try.prog 41 #[.agg #[.int .i64 a1, .int .i64 a2]] w _
  have hb : may (a1, a2) = (decide (0 ≤ a1) && decide (a1 ≤ 2147483647) && decide (0 ≤ a2) && decide (a2 ≤ 1048575)) := rfl
  rw [hb]
  by_cases h1 : 0 ≤ a1
  case neg =>
    go_enter Try.func41, Try.ntmps41
    go_wp2
    go_ret
    exact ⟨by (simp; try omega), HB⟩
  by_cases h2 : a1 ≤ 2147483647
  case neg =>
    go_enter Try.func41, Try.ntmps41
    go_wp2
    go_ret
    exact ⟨by (simp; try omega), HB⟩
  by_cases h3 : 0 ≤ a2
  case neg =>
    go_enter Try.func41, Try.ntmps41
    go_wp2
    go_ret
    exact ⟨by (simp; try omega), HB⟩
  go_enter Try.func41, Try.ntmps41
  go_wp2
  go_ret
  exact ⟨by (simp; try omega), HB⟩

theorem rahead_any (a b : De) (w : World) : Calls Try.prog 45 #[dv a, dv b] w (Tel w (ah a b)) := by
  obtain ⟨a1, a2⟩ := a
  obtain ⟨b1, b2⟩ := b
  have HB := hid (box2 w a1 a2 b1 b2)
  show Calls Try.prog 45 #[.agg #[.int .i64 a1, .int .i64 a2], .agg #[.int .i64 b1, .int .i64 b2]] w _
  have hb : ah (a1, a2) (b1, b2) = (decide (a1 < b1) || decide (a1 = b1) && decide (a2 < b2)) := rfl
  rw [hb]
  by_cases h1 : a1 < b1
  · go_enter Try.func45, Try.ntmps45
    go_wp2
    go_ret
    exact ⟨by (simp; try omega), HB⟩
  by_cases h2 : a1 = b1
  case neg =>
    go_enter Try.func45, Try.ntmps45
    go_wp2
    go_ret
    exact ⟨by (simp; try omega), HB⟩
  subst h2
  go_enter Try.func45, Try.ntmps45
  go_wp2
  go_ret
  exact ⟨by (simp; try omega), HB⟩
end Go.Proofs.Ytgcmljnjfghagaa.Tm
