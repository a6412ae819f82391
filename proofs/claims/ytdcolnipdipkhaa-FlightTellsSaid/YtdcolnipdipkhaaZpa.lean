/- Flight, the program: within, mayBe, rising. -/
import Derived.Test.YtdcolnipdipkhaaVal
namespace Go.Proofs.Ytdcolnipdipkhaa.Fli
set_option maxRecDepth 100000
open Go.RowKit Go.Shelf Go.Lib

theorem within_any (w : World) (n m : Int) : Calls Try.prog 25 #[.int .i64 n, .int .i64 m] w fun e w' => e = .returned (.bool (decide (0 ≤ n ∧ n ≤ m))) ∧ w = w' := by
  by_cases h1 : n ≥ 0
  · by_cases h2 : n ≤ m
    · rw [decide_eq_true (show 0 ≤ n ∧ n ≤ m from ⟨h1, h2⟩)]
      go_enter Try.func25, Try.ntmps25
      go_wp2
      go_ret
      exact ⟨rfl, rfl⟩
    · rw [decide_eq_false (show ¬ (0 ≤ n ∧ n ≤ m) from fun h => h2 h.2)]
      go_enter Try.func25, Try.ntmps25
      go_wp2
      go_ret
      exact ⟨rfl, rfl⟩
  · rw [decide_eq_false (show ¬ (0 ≤ n ∧ n ≤ m) from fun h => h1 h.1)]
    go_enter Try.func25, Try.ntmps25
    go_wp2
    go_ret
    exact ⟨rfl, rfl⟩
theorem within_yes {n m : Int} (h : 0 ≤ n ∧ n ≤ m) (w : World) : Calls Try.prog 25 #[.int .i64 n, .int .i64 m] w fun e w' => e = .returned (.bool true) ∧ w = w' := by
  have := within_any w n m
  rwa [decide_eq_true h] at this
theorem within_no {n m : Int} (h : ¬ (0 ≤ n ∧ n ≤ m)) (w : World) : Calls Try.prog 25 #[.int .i64 n, .int .i64 m] w fun e w' => e = .returned (.bool false) ∧ w = w' := by
  have := within_any w n m
  rwa [decide_eq_false h] at this

set_option maxHeartbeats 3200000 in
theorem mayBe_any {w : World} {x y z : Int} {M : Nat → Dy} (h : Mrd w w.heap.size M) :
    Calls Try.prog 38 #[.agg (lcells x y z M)] w (Says w (MayL MayM ((x, y, z, pmd M) : Ld Pm))) := by
  obtain ⟨W, hW⟩ : ∃ W, W = w.alloc (.cells (lcells x y z M) 40) := ⟨_, rfl⟩
  have B0 := hid (show Below w.heap.size w W from hW ▸ (Below.refl _ w).alloc (Nat.le_refl _) _)
  have X0 := hid (show Lbx W w.heap.size x y z M from hW ▸ Lbx.new w x y z M)
  have x0 := X0.out.c0
  have x1 := X0.out.c1
  have x2 := X0.out.c2
  have xm := X0.out.mass
  have HC := hid (mcheck_any (w := W) (M := M) ((fun k hk => ((h k hk).below B0.out).mono B0.out.size)))
  have HW := hid hW
  obtain ⟨P, hP⟩ : ∃ P, P = MayL MayM ((x, y, z, pmd M) : Ld Pm) := ⟨_, rfl⟩
  have HP := hid (show P ↔ (0 ≤ x ∧ x ≤ 1048575) ∧ (0 ≤ y ∧ y ≤ 65535) ∧ (1 ≤ z ∧ z ≤ 16) ∧ MMay M by rw [hP, ← may_pmd]; exact Iff.rfl)
  rw [← hP]
  clear hW h hP
  by_cases h1 : 0 ≤ x ∧ x ≤ 1048575
  case neg =>
    have C1 := hid (within_no h1)
    have HN := hid (show ¬ P from fun hp => h1 (HP.out.1 hp).1)
    clear h1
    go_enter Try.func38, Try.ntmps38
    go_upto_region 1 with fail
    rw [← HW.out]
    go_wp2_with fail
    refine (C1.out _).mono ?_
    rintro e w1 ⟨rfl, rfl⟩
    go_wp2
    go_ret
    exact ⟨false, rfl, hid ⟨fun h => (by cases h), fun h => absurd h HN.out⟩, B0⟩
  have C1 := hid (within_yes h1)
  have H1 := hid h1
  clear h1
  by_cases h2 : 0 ≤ y ∧ y ≤ 65535
  case neg =>
    have C2 := hid (within_no h2)
    have HN := hid (show ¬ P from fun hp => h2 (HP.out.1 hp).2.1)
    clear h2
    go_enter Try.func38, Try.ntmps38
    go_upto_region 1 with fail
    rw [← HW.out]
    go_wp2_with fail
    refine (C1.out _).mono ?_
    rintro e w1 ⟨rfl, rfl⟩
    go_wp2_with fail
    refine (C2.out _).mono ?_
    rintro e w1 ⟨rfl, rfl⟩
    go_wp2
    go_ret
    exact ⟨false, rfl, hid ⟨fun h => (by cases h), fun h => absurd h HN.out⟩, B0⟩
  have C2 := hid (within_yes h2)
  have H2 := hid h2
  clear h2
  by_cases h3 : z ≥ 1
  case neg =>
    have HN := hid (show ¬ P from fun hp => h3 (HP.out.1 hp).2.2.1.1)
    go_enter Try.func38, Try.ntmps38
    go_upto_region 1 with fail
    rw [← HW.out]
    go_wp2_with fail
    refine (C1.out _).mono ?_
    rintro e w1 ⟨rfl, rfl⟩
    go_wp2_with fail
    refine (C2.out _).mono ?_
    rintro e w1 ⟨rfl, rfl⟩
    go_wp2
    go_ret
    exact ⟨false, rfl, hid ⟨fun h => (by cases h), fun h => absurd h HN.out⟩, B0⟩
  by_cases h4 : z ≤ 16
  case neg =>
    have HN := hid (show ¬ P from fun hp => h4 (HP.out.1 hp).2.2.1.2)
    go_enter Try.func38, Try.ntmps38
    go_upto_region 1 with fail
    rw [← HW.out]
    go_wp2_with fail
    refine (C1.out _).mono ?_
    rintro e w1 ⟨rfl, rfl⟩
    go_wp2_with fail
    refine (C2.out _).mono ?_
    rintro e w1 ⟨rfl, rfl⟩
    go_wp2
    go_ret
    exact ⟨false, rfl, hid ⟨fun h => (by cases h), fun h => absurd h HN.out⟩, B0⟩
  have HQ := hid (show P ↔ MMay M from HP.out.trans ⟨fun h => h.2.2.2, fun h => ⟨H1.out, H2.out, ⟨h3, h4⟩, h⟩⟩)
  clear HP
  go_enter Try.func38, Try.ntmps38
  go_upto_region 1 with fail
  rw [← HW.out]
  go_wp2_with fail
  refine (C1.out _).mono ?_
  rintro e w1 ⟨rfl, rfl⟩
  go_wp2_with fail
  refine (C2.out _).mono ?_
  rintro e w1 ⟨rfl, rfl⟩
  go_wp2_with (first | (refine wp_lmg rfl (.tmp 22) rfl w.heap.size 3 M rfl xm ?_) | fail)
  refine HC.out.mono ?_
  rintro e w2 ⟨er, rfl, H3, H4, H5⟩
  have BB := hid (gbelow_on B0.out (Nat.le_refl _) H5.out)
  rcases H4.out with rfl | rfl
  · have HY := hid (HQ.out.2 (H3.out.1 rfl))
    go_wp2
    go_ret
    exact ⟨true, rfl, hid ⟨fun _ => HY.out, fun _ => rfl⟩, BB⟩
  · have HY := hid (show ¬ P from fun h => absurd (H3.out.2 (HQ.out.1 h)) (by decide))
    go_wp2
    go_ret
    exact ⟨false, rfl, hid ⟨fun h => (by cases h), fun h => absurd h HY.out⟩, BB⟩

theorem boxed_at {w : World} {g : Nat} {t : TypeId} {v : Value} (h : w.heap[g]? = some (.cells #[v] t (0, 0))) : Boxed w g t v := h
/-- rising's closure: whether a number is above the one ahead, which it keeps. -/
theorem rising1_any {w : World} {g : Nat} {n m : Int} (h : Boxed w g 3 (.int .i64 m)) :
    Calls Try.prog 50 #[.int .i64 n, .pointer (some ⟨g, 0, none⟩)] w fun e w' => e = .returned (.bool (decide (m < n))) ∧ Hid (Boxed w' g 3 (.int .i64 n) ∧ Gq g w w') := by
  have hc := h.cell
  have H := hid h
  clear h
  by_cases h1 : n > m
  · rw [decide_eq_true (show m < n from h1)]
    go_enter Try.func50, Try.ntmps50
    go_wp2_with (first
      | (refine gput_cell (P := Try.prog) rfl _ (.tmp 1) (.tmp 8) rfl g 0 (.int .i64 n) 3 _ #[.int .i64 n] rfl rfl rfl (by kernel_rfl) H.out (show (0 : Nat) < 1 by decide) rfl ?_
         intro w3 x3 q3
         have X3 := hid (And.intro x3 q3)
         clear x3 q3)
      | fail)
    go_ret
    exact ⟨rfl, X3⟩
  · rw [decide_eq_false (show ¬ m < n from h1)]
    go_enter Try.func50, Try.ntmps50
    go_wp2_with (first
      | (refine gput_cell (P := Try.prog) rfl _ (.tmp 1) (.tmp 8) rfl g 0 (.int .i64 n) 3 _ #[.int .i64 n] rfl rfl rfl (by kernel_rfl) H.out (show (0 : Nat) < 1 by decide) rfl ?_
         intro w3 x3 q3
         have X3 := hid (And.intro x3 q3)
         clear x3 q3)
      | fail)
    go_ret
    exact ⟨rfl, X3⟩
end Go.Proofs.Ytdcolnipdipkhaa.Fli
