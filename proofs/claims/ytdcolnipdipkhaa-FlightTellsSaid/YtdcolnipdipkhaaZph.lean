/- Flight, the program: become. -/
import Derived.Test.YtdcolnipdipkhaaZpg
import Derived.StillTailTactics
namespace Go.Proofs.Ytdcolnipdipkhaa.Fli
set_option maxRecDepth 100000
open Go.RowKit Go.Shelf Go.Lib

/-- Three results, the second one out of a load's box. -/
theorem ret_load3 {fn : Func} {R : Ending → World → Prop} {a : Act} {w : World} {s p u : Tmp} {g : Nat} {x y z : Int} {M : Nat → Dy} {v er : Value} (h : fn.results = #[.tmp s, .cell p 40, .tmp u]) (hs : a.tmps.getD s undef = v) (hp : a.tmps.getD p undef = .pointer (some ⟨g, 0, none⟩)) (hu : a.tmps.getD u undef = er)
    (hd : a.defers = []) (hg : Lbx w g x y z M) (hR : R (.returned (.tuple #[v, .agg (lcells x y z M), er])) w) : bodyPost Try.prog fn R .ret a w := by
  refine bodyPost_ret ?_ hd hR
  have hp2 : a.tmps[p]?.getD undef = .pointer (some ⟨g, 0, none⟩) := by simpa using hp
  have hs2 : a.tmps[s]?.getD undef = v := by simpa using hs
  have hu2 : a.tmps[u]?.getD undef = er := by simpa using hu
  simp only [results, h]
  simp [Result.andThen, hp2, hs2, hu2, asAddr, run_loadVar_row w g _ 40 _ _ _ hg Try.underlying40 rfl (loadSize x y z M)]
/-- What becomes of a load: the loads left, as they lie, and the one that comes down. -/
def BecR (w : World) (ls : List Lr) (x y z : Int) (M : Nat → Dy) (er : Int) (e : Ending) (w' : World) : Prop := ∃ A n c, e = .returned (.tuple #[.slice A n c, .agg (lcells x y z M), .int .i64 er]) ∧ Hid (Gs w' w'.heap.size A n c 15 (cellsL ls) ∧ Below w.heap.size w w' ∧ ∀ a, A = some a → w.heap.size ≤ a.block)
theorem lcells_cnt (x y z : Int) (M : Nat → Dy) (v : Int) : (lcells x y z M).setIfInBounds 2 (.int .i64 v) = lcells x y v M := rfl
theorem two_boxes {w W : World} {x y z : Int} {M : Nat → Dy} (hW : W = (w.alloc (.cells (lcells x y z M) 40)).alloc (.cells (lcells 0 0 0 D0) 40)) : Below w.heap.size w W ∧ Lbx W w.heap.size x y z M ∧ Lbx W (w.heap.size + 1) 0 0 0 D0 :=
  ⟨hW ▸ below_two w _ _, hW ▸ (heap_two w _ _).1, hW ▸ (heap_two w _ _).2⟩
theorem one_load {w w6 : World} {g : Nat} {x y z : Int} {M : Nat → Dy} (h : g < w.heap.size) (q : Gq g (w.alloc (.cells (lcells x y z M) 40)) w6) : Gs w6 w6.heap.size (some ⟨w.heap.size, 0, none⟩) 1 1 15 (cellsL [(x, y, z, M)]) := by
  have h6 : w6.heap[w.heap.size]? = some (.cells (lcells x y z M) 40 (0, 0)) := (q.block _ (by omega)).trans (heap_alloc_new w _)
  exact Gs.new (cs := cellsL [(x, y, z, M)]) h6 (lt_of_heap h6) rfl (Nat.le_refl _) (by omega)
theorem wpStill_yields {P : Program} {ops : Array Oper} {w : World} {S : World → Prop} {Q : Act → Prop} {a : Act} {o : Oper} {rest : List Oper} {v : Value} (hy : YieldsIf P ops S o v a) (hs : S w) (h : wpStill P ops w Q rest (a.put o.dst v)) : wpStill P ops w Q (o :: rest) a := by
  rcases hy with ⟨hw, hv⟩ | ⟨hw, rfl⟩
  · unfold wpStill
    rw [if_pos hw]
    unfold Oper.still
    rw [hv w hs]
    exact ⟨rfl, h⟩
  · unfold wpStill
    rw [if_neg (by rw [hw]; decide)]
    exact h
set_option maxHeartbeats 3200000 in
theorem become_full {w : World} {x y : Int} {M : Nat → Dy} : Calls Try.prog 48 #[.agg (lcells x y 16 M), .int .u8 0] w (BecR w [] 0 0 0 D0 9) := by
  obtain ⟨W, hW⟩ : ∃ W, W = (w.alloc (.cells (lcells x y 16 M) 40)).alloc (.cells (lcells 0 0 0 D0) 40) := ⟨_, rfl⟩
  have H := hid (two_boxes hW)
  have x2 := H.out.2.1.c2
  have HW := hid hW
  clear hW
  go_enter Try.func48, Try.ntmps48
  go_upto_region 1 with fail
  have hW2 : (w.alloc (.cells (lcells x y 16 M) 40)).alloc (.cells #[.int .i64 0, .int .i64 0, .int .i64 0, .bool false, .slice none 0 0, .int .i64 0, .bool false, .slice none 0 0, .int .i64 0, .bool false, .slice none 0 0, .int .i64 0, .bool false, .slice none 0 0, .int .i64 0] 40) = W := HW.out.symm
  rw [hW2]
  clear hW2
  go_wp2_with (first
    | (refine gput_row (P := Try.prog) rfl _ (.tmp 5) (.tmp 17) rfl (w.heap.size + 1) 40 _ (lcells 0 0 0 D0) rfl rfl H.out.2.2 rfl (loadSize 0 0 0 D0) (lcells_one 0 0 0 D0) ?_
       intro w4 x4 q4
       have B4 := hid (q4.bel H.out.1 (Nat.le_succ _)))
    | fail)
  refine ret_load3 (g := w.heap.size + 1) (x := 0) (y := 0) (z := 0) (M := D0) rfl rfl rfl rfl rfl x4 ?_
  exact ⟨none, 0, 0, rfl, hid ⟨Gs.nil' _ _ _, B4.out, fun a h => (by cases h)⟩⟩
set_option maxHeartbeats 3200000 in
theorem become_up {w : World} {x y z : Int} {M : Nat → Dy} (hz1 : 1 ≤ z) (hz : z < 16) : Calls Try.prog 48 #[.agg (lcells x y z M), .int .u8 0] w (BecR w [(x, y, z + 1, M)] 0 0 0 D0 0) := by
  have hne : ¬ z = 16 := by omega
  obtain ⟨W, hW⟩ : ∃ W, W = (w.alloc (.cells (lcells x y z M) 40)).alloc (.cells (lcells 0 0 0 D0) 40) := ⟨_, rfl⟩
  have H := hid (two_boxes hW)
  have x2 := H.out.2.1.c2
  have HW := hid hW
  clear hW
  go_enter Try.func48, Try.ntmps48
  go_upto_region 1 with fail
  have hW2 : (w.alloc (.cells (lcells x y z M) 40)).alloc (.cells #[.int .i64 0, .int .i64 0, .int .i64 0, .bool false, .slice none 0 0, .int .i64 0, .bool false, .slice none 0 0, .int .i64 0, .bool false, .slice none 0 0, .int .i64 0, .bool false, .slice none 0 0, .int .i64 0] 40) = W := HW.out.symm
  rw [hW2]
  clear hW2
  go_wp2_with (first
    | (refine gput_cell (P := Try.prog) rfl _ (.tmp 21) (.tmp 20) rfl w.heap.size 2 (.int .i64 (z + 1)) 40 _ (lcells x y (z + 1) M) rfl rfl rfl (by kernel_rfl) H.out.2.1 (show (2 : Nat) < 15 by decide) (lcells_cnt x y z M (z + 1)) ?_
       intro w3 x3 q3
       have X3 := hid (show Lbx w3 w.heap.size x y (z + 1) M from x3)
       have x3r := lbx_row X3.out
       have Y3 := hid (show Lbx w3 (w.heap.size + 1) 0 0 0 D0 from q3.at H.out.2.2 (by omega))
       have B3 := hid (q3.bel H.out.1 (Nat.le_refl _))
       clear x3 x2)
    | (refine wp_lload rfl (.tmp 2) rfl w.heap.size 0 x y (z + 1) M rfl x3r ?_
       have B5 := hid (gbelow_on B3.out (Nat.le_refl _) ((Below.refl _ w3).alloc (Nat.le_refl w3.heap.size) (.cells (lcells x y (z + 1) M) 40)))
       have Y5 := hid (Y3.out.alloc (.cells (lcells x y (z + 1) M) 40)))
    | (refine gput_row (P := Try.prog) rfl _ (.tmp 5) (.tmp 32) rfl (w.heap.size + 1) 40 _ (lcells 0 0 0 D0) rfl rfl Y5.out rfl (loadSize 0 0 0 D0) (lcells_one 0 0 0 D0) ?_
       intro w6 x6 q6
       have B6 := hid (q6.bel B5.out (Nat.le_succ _))
       have G6 := hid (one_load Y3.out.lt q6))
    | fail)
  refine ret_load3 (g := w.heap.size + 1) (x := 0) (y := 0) (z := 0) (M := D0) rfl rfl rfl rfl rfl x6 ?_
  exact ⟨_, 1, 1, rfl, hid ⟨G6.out, B6.out, fun a h => (by injection h with h; subst h; exact B3.out.size)⟩⟩
set_option maxHeartbeats 3200000 in
theorem become_down {w : World} {x y z : Int} {M : Nat → Dy} (hz1 : z > 1) (hz : z ≤ 16) : Calls Try.prog 48 #[.agg (lcells x y z M), .int .u8 1] w (BecR w [(x, y, z - 1, M)] 0 0 0 D0 0) := by
  obtain ⟨W, hW⟩ : ∃ W, W = (w.alloc (.cells (lcells x y z M) 40)).alloc (.cells (lcells 0 0 0 D0) 40) := ⟨_, rfl⟩
  have H := hid (two_boxes hW)
  have x2 := H.out.2.1.c2
  have HW := hid hW
  clear hW
  go_enter Try.func48, Try.ntmps48
  go_upto_region 1 with fail
  have hW2 : (w.alloc (.cells (lcells x y z M) 40)).alloc (.cells #[.int .i64 0, .int .i64 0, .int .i64 0, .bool false, .slice none 0 0, .int .i64 0, .bool false, .slice none 0 0, .int .i64 0, .bool false, .slice none 0 0, .int .i64 0, .bool false, .slice none 0 0, .int .i64 0] 40) = W := HW.out.symm
  rw [hW2]
  clear hW2
  go_wp2_with (first
    | (refine gput_cell (P := Try.prog) rfl _ (.tmp 28) (.tmp 27) rfl w.heap.size 2 (.int .i64 (z - 1)) 40 _ (lcells x y (z - 1) M) rfl rfl rfl (by kernel_rfl) H.out.2.1 (show (2 : Nat) < 15 by decide) (lcells_cnt x y z M (z - 1)) ?_
       intro w3 x3 q3
       have X3 := hid (show Lbx w3 w.heap.size x y (z - 1) M from x3)
       have x3r := lbx_row X3.out
       have Y3 := hid (show Lbx w3 (w.heap.size + 1) 0 0 0 D0 from q3.at H.out.2.2 (by omega))
       have B3 := hid (q3.bel H.out.1 (Nat.le_refl _))
       clear x3 x2)
    | (refine wp_lload rfl (.tmp 2) rfl w.heap.size 0 x y (z - 1) M rfl x3r ?_
       have B5 := hid (gbelow_on B3.out (Nat.le_refl _) ((Below.refl _ w3).alloc (Nat.le_refl w3.heap.size) (.cells (lcells x y (z - 1) M) 40)))
       have Y5 := hid (Y3.out.alloc (.cells (lcells x y (z - 1) M) 40)))
    | (refine gput_row (P := Try.prog) rfl _ (.tmp 5) (.tmp 32) rfl (w.heap.size + 1) 40 _ (lcells 0 0 0 D0) rfl rfl Y5.out rfl (loadSize 0 0 0 D0) (lcells_one 0 0 0 D0) ?_
       intro w6 x6 q6
       have B6 := hid (q6.bel B5.out (Nat.le_succ _))
       have G6 := hid (one_load Y3.out.lt q6))
    | fail)
  refine ret_load3 (g := w.heap.size + 1) (x := 0) (y := 0) (z := 0) (M := D0) rfl rfl rfl rfl rfl x6 ?_
  exact ⟨_, 1, 1, rfl, hid ⟨G6.out, B6.out, fun a h => (by injection h with h; subst h; exact B3.out.size)⟩⟩
set_option maxHeartbeats 3200000 in
theorem become_last {w : World} {x y z : Int} {M : Nat → Dy} (hz : ¬ z > 1) : Calls Try.prog 48 #[.agg (lcells x y z M), .int .u8 1] w (BecR w [] x y z M 0) := by
  obtain ⟨W, hW⟩ : ∃ W, W = (w.alloc (.cells (lcells x y z M) 40)).alloc (.cells (lcells 0 0 0 D0) 40) := ⟨_, rfl⟩
  have H := hid (two_boxes hW)
  have x2 := H.out.2.1.c2
  have HW := hid hW
  clear hW
  go_enter Try.func48, Try.ntmps48
  go_upto_region 1 with fail
  have hW2 : (w.alloc (.cells (lcells x y z M) 40)).alloc (.cells #[.int .i64 0, .int .i64 0, .int .i64 0, .bool false, .slice none 0 0, .int .i64 0, .bool false, .slice none 0 0, .int .i64 0, .bool false, .slice none 0 0, .int .i64 0, .bool false, .slice none 0 0, .int .i64 0] 40) = W := HW.out.symm
  rw [hW2]
  clear hW2
  have x0r := lbx_row H.out.2.1
  go_wp2_with fail
  refine wp_region_still_tail 2 (by kernel_rfl) (by kernel_rfl) ?_
  simp only [List.take_succ_cons, List.take_zero, List.drop_succ_cons, List.drop_zero]
  have x0d : W.drew.rangeAt w.heap.size 0 (lcells x y z M).toList := x0r
  have H0d := hid (show Lbx W.drew (w.heap.size + 1) 0 0 0 D0 from H.out.2.2)
  have B0d := hid (show Below w.heap.size w W.drew from H.out.1.drew)
  refine wpStill_yields (yields_lload (S := fun X => X.rangeAt w.heap.size 0 (lcells x y z M).toList) (by rfl) (.tmp 2) rfl w.heap.size 0 x y z M rfl (fun X hX => hX)) x0d ?_
  (try simp only [Act.put, List.setIfInBounds_toArray, List.set_cons_zero, List.set_cons_succ])
  repeat still_step
  refine wpStill_nil ?_
  change wpList _ _ _ _ _ W.drew
  go_wp2_with (first
    | (refine gput_row (P := Try.prog) rfl _ (.tmp 5) (.tmp 29) rfl (w.heap.size + 1) 40 _ (lcells x y z M) rfl rfl H0d.out rfl (loadSize x y z M) (lcells_one x y z M) ?_
       intro w4 x4 q4
       have B4 := hid (q4.bel B0d.out (Nat.le_succ _)))
    | fail)
  refine ret_load3 (g := w.heap.size + 1) (x := x) (y := y) (z := z) (M := M) rfl rfl rfl rfl rfl x4 ?_
  exact ⟨none, 0, 0, rfl, hid ⟨Gs.nil' _ _ _, B4.out, fun a h => (by cases h)⟩⟩
set_option maxHeartbeats 3200000 in
theorem become_land {w : World} {x y z : Int} {M : Nat → Dy} : Calls Try.prog 48 #[.agg (lcells x y z M), .int .u8 2] w (BecR w [] x y z M 0) := by
  obtain ⟨W, hW⟩ : ∃ W, W = (w.alloc (.cells (lcells x y z M) 40)).alloc (.cells (lcells 0 0 0 D0) 40) := ⟨_, rfl⟩
  have H := hid (two_boxes hW)
  have x2 := H.out.2.1.c2
  have HW := hid hW
  clear hW
  go_enter Try.func48, Try.ntmps48
  go_upto_region 1 with fail
  have hW2 : (w.alloc (.cells (lcells x y z M) 40)).alloc (.cells #[.int .i64 0, .int .i64 0, .int .i64 0, .bool false, .slice none 0 0, .int .i64 0, .bool false, .slice none 0 0, .int .i64 0, .bool false, .slice none 0 0, .int .i64 0, .bool false, .slice none 0 0, .int .i64 0] 40) = W := HW.out.symm
  rw [hW2]
  clear hW2
  have x0r := lbx_row H.out.2.1
  go_wp2_with fail
  refine wp_region_still_tail 2 (by kernel_rfl) (by kernel_rfl) ?_
  simp only [List.take_succ_cons, List.take_zero, List.drop_succ_cons, List.drop_zero]
  have x0d : W.drew.rangeAt w.heap.size 0 (lcells x y z M).toList := x0r
  have H0d := hid (show Lbx W.drew (w.heap.size + 1) 0 0 0 D0 from H.out.2.2)
  have B0d := hid (show Below w.heap.size w W.drew from H.out.1.drew)
  refine wpStill_yields (yields_lload (S := fun X => X.rangeAt w.heap.size 0 (lcells x y z M).toList) (by rfl) (.tmp 2) rfl w.heap.size 0 x y z M rfl (fun X hX => hX)) x0d ?_
  (try simp only [Act.put, List.setIfInBounds_toArray, List.set_cons_zero, List.set_cons_succ])
  repeat still_step
  refine wpStill_nil ?_
  change wpList _ _ _ _ _ W.drew
  go_wp2_with (first
    | (refine gput_row (P := Try.prog) rfl _ (.tmp 5) (.tmp 29) rfl (w.heap.size + 1) 40 _ (lcells x y z M) rfl rfl H0d.out rfl (loadSize x y z M) (lcells_one x y z M) ?_
       intro w4 x4 q4
       have B4 := hid (q4.bel B0d.out (Nat.le_succ _)))
    | fail)
  refine ret_load3 (g := w.heap.size + 1) (x := x) (y := y) (z := z) (M := M) rfl rfl rfl rfl rfl x4 ?_
  exact ⟨none, 0, 0, rfl, hid ⟨Gs.nil' _ _ _, B4.out, fun a h => (by cases h)⟩⟩
end Go.Proofs.Ytdcolnipdipkhaa.Fli
