/- DescTotal, walked. -/
import Derived.Test.YtelalanhalbicaaKali
namespace Go.Proofs.Ytelalanhalbicaa
open Go.RowKit Go.Shelf Go.Lib

theorem frB_ok {a b : De} (h : frE a b = 0) : frB a b = fr a b := by
  unfold frE at h
  unfold frB
  split at h
  · cases h
  · next h0 =>
    rw [Bool.not_eq_true] at h0
    rw [h0]
    rfl
theorem frE_comm (a b : De) : frE b a = frE a b := by unfold frE; rw [Bool.or_comm]
theorem frB_bad {a b : De} (h : frE a b ≠ 0) : frB a b = false := by
  unfold frE at h
  unfold frB
  split at h
  · next h0 => rw [h0]; rfl
  · exact absurd rfl h
theorem frE_trans {a b c : De} (h : frE a b = 0) (k : frE b c = 0) : frE a c = 0 := by
  unfold frE at *
  cases ha : bad a <;> cases hb : bad b <;> cases hc : bad c <;> simp [ha, hb, hc] at *

theorem frE_two (a b : De) : frE a b = 8 ∨ frE a b = 0 := by
  unfold frE
  split
  · exact .inl rfl
  · exact .inr rfl
/-- Three descriptors, each in a variable of its own. -/
def Three (w W : World) (a b c : De) : Prop := Below w.heap.size w W ∧ w.heap.size ≤ W.heap.size ∧ ∀ X : World, Below W.heap.size W X →
  (X.cell? ⟨w.heap.size, 0, none⟩ = some (.int .i64 a.1) ∧ X.cell? ⟨w.heap.size, 1, none⟩ = some (.int .i64 a.2)) ∧ (X.cell? ⟨w.heap.size + 1, 0, none⟩ = some (.int .i64 b.1) ∧ X.cell? ⟨w.heap.size + 1, 1, none⟩ = some (.int .i64 b.2)) ∧ X.cell? ⟨w.heap.size + 2, 0, none⟩ = some (.int .i64 c.1) ∧ X.cell? ⟨w.heap.size + 2, 1, none⟩ = some (.int .i64 c.2)
theorem box_cells {W : World} {g : Nat} {a : De} (h : W.heap[g]? = some (.cells #[.int .i64 a.1, .int .i64 a.2] 26 (0, 0))) : ∀ X : World, Below W.heap.size W X → X.cell? ⟨g, 0, none⟩ = some (.int .i64 a.1) ∧ X.cell? ⟨g, 1, none⟩ = some (.int .i64 a.2) := fun _ hb =>
  ⟨(hb.cell (p := ⟨g, 0, none⟩) (lt_of_heap h)).trans ((cell_of_row W g 0 _ _ (0, 0) h).trans rfl), (hb.cell (p := ⟨g, 1, none⟩) (lt_of_heap h)).trans ((cell_of_row W g 1 _ _ (0, 0) h).trans rfl)⟩
theorem three_new (w : World) (a b c : De) : Three w (((w.alloc (.cells #[.int .i64 a.1, .int .i64 a.2] 26)).alloc (.cells #[.int .i64 b.1, .int .i64 b.2] 26)).alloc (.cells #[.int .i64 c.1, .int .i64 c.2] 26)) a b c := by
  have h0 := Below.refl w.heap.size w
  have hb := (((h0.alloc (Nat.le_refl _) (.cells #[.int .i64 a.1, .int .i64 a.2] 26)).alloc (by simp) (.cells #[.int .i64 b.1, .int .i64 b.2] 26)).alloc (by simp; omega) (.cells #[.int .i64 c.1, .int .i64 c.2] 26))
  refine ⟨hb, hb.size, fun X hX => ⟨?_, ?_, ?_⟩⟩
  · exact box_cells ((Below.heap_alloc _ _ _ (by simp; omega)).trans ((Below.heap_alloc _ _ _ (by simp)).trans (heap_alloc_new w _))) X hX
  · exact box_cells ((Below.heap_alloc _ _ _ (by simp)).trans (new_row (by simp))) X hX
  · exact box_cells (new_row (by simp)) X hX

set_option maxRecDepth 100000 in
set_option maxHeartbeats 6400000 in
theorem total_a (a b c : De) (w : World) {z u : Bool} {E3 E4 : Int} (C1 : ∀ X, Calls Try.prog 8 #[dv a, dv b] X fun e w' => e = .returned (.tuple #[.bool false, .int .i64 8]) ∧ Hid (Below X.heap.size X w'))
    (C2 : ∀ X, Calls Try.prog 8 #[dv b, dv a] X fun e w' => e = .returned (.tuple #[.bool false, .int .i64 8]) ∧ Hid (Below X.heap.size X w'))
    (C3 : ∀ X, Calls Try.prog 8 #[dv b, dv c] X fun e w' => e = .returned (.tuple #[.bool z, .int .i64 E3]) ∧ Hid (Below X.heap.size X w'))
    (C4 : ∀ X, Calls Try.prog 8 #[dv a, dv c] X fun e w' => e = .returned (.tuple #[.bool u, .int .i64 E4]) ∧ Hid (Below X.heap.size X w')) :
    Calls Try.prog 7 #[dv a, dv b, dv c] w fun e w' => e = .returned (.bool true) ∧ Below w.heap.size w w' := by
  have CA := hid alive_any
  replace C1 := hid C1
  replace C2 := hid C2
  replace C3 := hid C3
  replace C4 := hid C4
  obtain ⟨a1, a2⟩ := a
  obtain ⟨b1, b2⟩ := b
  obtain ⟨c1, c2⟩ := c
  obtain ⟨W, hW⟩ : ∃ W, W = ((w.alloc (.cells #[.int .i64 a1, .int .i64 a2] 26)).alloc (.cells #[.int .i64 b1, .int .i64 b2] 26)).alloc (.cells #[.int .i64 c1, .int .i64 c2] 26) := ⟨_, rfl⟩
  have HT := hid (show Three w W (a1, a2) (b1, b2) (c1, c2) from hW ▸ three_new w (a1, a2) (b1, b2) (c1, c2))
  have HW := hid hW
  clear hW
  show Calls Try.prog 7 #[.agg #[.int .i64 a1, .int .i64 a2], .agg #[.int .i64 b1, .int .i64 b2], .agg #[.int .i64 c1, .int .i64 c2]] w _
  go_enter Try.func7, Try.ntmps7
  go_upto_region 1 with fail
  rw [← HW.out]
  clear HW
  go_wp2_with fail
  refine (CA.out _).mono ?_
  rintro e w0 ⟨rfl, hb⟩
  have B0 := hid hb.out
  obtain ⟨⟨x0, x1⟩, ⟨y0, y1⟩, z0, z1⟩ := HT.out.2.2 w0 B0.out
  go_wp2_with fail
  refine (C1.out _).mono ?_
  rintro e w1 ⟨rfl, hb⟩
  have B1 := hid (B0.out.trans (hb.out.mono B0.out.size))
  clear x0 x1 y0 y1 z0 z1 hb
  obtain ⟨⟨x0, x1⟩, ⟨y0, y1⟩, z0, z1⟩ := HT.out.2.2 w1 B1.out
  go_wp2_with fail
  refine (C2.out _).mono ?_
  rintro e w2 ⟨rfl, hb⟩
  have B2 := hid (B1.out.trans (hb.out.mono B1.out.size))
  clear x0 x1 y0 y1 z0 z1 hb
  obtain ⟨⟨x0, x1⟩, ⟨y0, y1⟩, z0, z1⟩ := HT.out.2.2 w2 B2.out
  go_wp2_with fail
  refine (C3.out _).mono ?_
  rintro e w3 ⟨rfl, hb⟩
  have B3 := hid (B2.out.trans (hb.out.mono B2.out.size))
  clear x0 x1 y0 y1 z0 z1 hb
  obtain ⟨⟨x0, x1⟩, ⟨y0, y1⟩, z0, z1⟩ := HT.out.2.2 w3 B3.out
  go_wp2_with fail
  refine (C4.out _).mono ?_
  rintro e w4 ⟨rfl, hb⟩
  have B4 := hid (B3.out.trans (hb.out.mono B3.out.size))
  clear x0 x1 y0 y1 z0 z1 hb
  obtain ⟨⟨x0, x1⟩, ⟨y0, y1⟩, z0, z1⟩ := HT.out.2.2 w4 B4.out
  go_wp2
  go_ret
  exact ⟨rfl, HT.out.1.trans (B4.out.mono HT.out.2.1)⟩

set_option maxRecDepth 100000 in
set_option maxHeartbeats 6400000 in
theorem total_b (a b c : De) (w : World) {x y z u : Bool} {E4 : Int} (C1 : ∀ X, Calls Try.prog 8 #[dv a, dv b] X fun e w' => e = .returned (.tuple #[.bool x, .int .i64 0]) ∧ Hid (Below X.heap.size X w'))
    (C2 : ∀ X, Calls Try.prog 8 #[dv b, dv a] X fun e w' => e = .returned (.tuple #[.bool y, .int .i64 0]) ∧ Hid (Below X.heap.size X w'))
    (C3 : ∀ X, Calls Try.prog 8 #[dv b, dv c] X fun e w' => e = .returned (.tuple #[.bool z, .int .i64 8]) ∧ Hid (Below X.heap.size X w'))
    (C4 : ∀ X, Calls Try.prog 8 #[dv a, dv c] X fun e w' => e = .returned (.tuple #[.bool u, .int .i64 E4]) ∧ Hid (Below X.heap.size X w')) :
    Calls Try.prog 7 #[dv a, dv b, dv c] w fun e w' => e = .returned (.bool true) ∧ Below w.heap.size w w' := by
  have CA := hid alive_any
  replace C1 := hid C1
  replace C2 := hid C2
  replace C3 := hid C3
  replace C4 := hid C4
  obtain ⟨a1, a2⟩ := a
  obtain ⟨b1, b2⟩ := b
  obtain ⟨c1, c2⟩ := c
  obtain ⟨W, hW⟩ : ∃ W, W = ((w.alloc (.cells #[.int .i64 a1, .int .i64 a2] 26)).alloc (.cells #[.int .i64 b1, .int .i64 b2] 26)).alloc (.cells #[.int .i64 c1, .int .i64 c2] 26) := ⟨_, rfl⟩
  have HT := hid (show Three w W (a1, a2) (b1, b2) (c1, c2) from hW ▸ three_new w (a1, a2) (b1, b2) (c1, c2))
  have HW := hid hW
  clear hW
  show Calls Try.prog 7 #[.agg #[.int .i64 a1, .int .i64 a2], .agg #[.int .i64 b1, .int .i64 b2], .agg #[.int .i64 c1, .int .i64 c2]] w _
  go_enter Try.func7, Try.ntmps7
  go_upto_region 1 with fail
  rw [← HW.out]
  clear HW
  go_wp2_with fail
  refine (CA.out _).mono ?_
  rintro e w0 ⟨rfl, hb⟩
  have B0 := hid hb.out
  obtain ⟨⟨x0, x1⟩, ⟨y0, y1⟩, z0, z1⟩ := HT.out.2.2 w0 B0.out
  go_wp2_with fail
  refine (C1.out _).mono ?_
  rintro e w1 ⟨rfl, hb⟩
  have B1 := hid (B0.out.trans (hb.out.mono B0.out.size))
  clear x0 x1 y0 y1 z0 z1 hb
  obtain ⟨⟨x0, x1⟩, ⟨y0, y1⟩, z0, z1⟩ := HT.out.2.2 w1 B1.out
  go_wp2_with fail
  refine (C2.out _).mono ?_
  rintro e w2 ⟨rfl, hb⟩
  have B2 := hid (B1.out.trans (hb.out.mono B1.out.size))
  clear x0 x1 y0 y1 z0 z1 hb
  obtain ⟨⟨x0, x1⟩, ⟨y0, y1⟩, z0, z1⟩ := HT.out.2.2 w2 B2.out
  go_wp2_with fail
  refine (C3.out _).mono ?_
  rintro e w3 ⟨rfl, hb⟩
  have B3 := hid (B2.out.trans (hb.out.mono B2.out.size))
  clear x0 x1 y0 y1 z0 z1 hb
  obtain ⟨⟨x0, x1⟩, ⟨y0, y1⟩, z0, z1⟩ := HT.out.2.2 w3 B3.out
  go_wp2_with fail
  refine (C4.out _).mono ?_
  rintro e w4 ⟨rfl, hb⟩
  have B4 := hid (B3.out.trans (hb.out.mono B3.out.size))
  clear x0 x1 y0 y1 z0 z1 hb
  obtain ⟨⟨x0, x1⟩, ⟨y0, y1⟩, z0, z1⟩ := HT.out.2.2 w4 B4.out
  go_wp2
  go_ret
  exact ⟨rfl, HT.out.1.trans (B4.out.mono HT.out.2.1)⟩

set_option maxRecDepth 100000 in
set_option maxHeartbeats 6400000 in
theorem total_c (a b c : De) (w : World) {u : Bool} (C1 : ∀ X, Calls Try.prog 8 #[dv a, dv b] X fun e w' => e = .returned (.tuple #[.bool true, .int .i64 0]) ∧ Hid (Below X.heap.size X w'))
    (C2 : ∀ X, Calls Try.prog 8 #[dv b, dv a] X fun e w' => e = .returned (.tuple #[.bool false, .int .i64 0]) ∧ Hid (Below X.heap.size X w'))
    (C3 : ∀ X, Calls Try.prog 8 #[dv b, dv c] X fun e w' => e = .returned (.tuple #[.bool false, .int .i64 0]) ∧ Hid (Below X.heap.size X w'))
    (C4 : ∀ X, Calls Try.prog 8 #[dv a, dv c] X fun e w' => e = .returned (.tuple #[.bool u, .int .i64 0]) ∧ Hid (Below X.heap.size X w')) :
    Calls Try.prog 7 #[dv a, dv b, dv c] w fun e w' => e = .returned (.bool true) ∧ Below w.heap.size w w' := by
  have CA := hid alive_any
  replace C1 := hid C1
  replace C2 := hid C2
  replace C3 := hid C3
  replace C4 := hid C4
  obtain ⟨a1, a2⟩ := a
  obtain ⟨b1, b2⟩ := b
  obtain ⟨c1, c2⟩ := c
  obtain ⟨W, hW⟩ : ∃ W, W = ((w.alloc (.cells #[.int .i64 a1, .int .i64 a2] 26)).alloc (.cells #[.int .i64 b1, .int .i64 b2] 26)).alloc (.cells #[.int .i64 c1, .int .i64 c2] 26) := ⟨_, rfl⟩
  have HT := hid (show Three w W (a1, a2) (b1, b2) (c1, c2) from hW ▸ three_new w (a1, a2) (b1, b2) (c1, c2))
  have HW := hid hW
  clear hW
  show Calls Try.prog 7 #[.agg #[.int .i64 a1, .int .i64 a2], .agg #[.int .i64 b1, .int .i64 b2], .agg #[.int .i64 c1, .int .i64 c2]] w _
  go_enter Try.func7, Try.ntmps7
  go_upto_region 1 with fail
  rw [← HW.out]
  clear HW
  go_wp2_with fail
  refine (CA.out _).mono ?_
  rintro e w0 ⟨rfl, hb⟩
  have B0 := hid hb.out
  obtain ⟨⟨x0, x1⟩, ⟨y0, y1⟩, z0, z1⟩ := HT.out.2.2 w0 B0.out
  go_wp2_with fail
  refine (C1.out _).mono ?_
  rintro e w1 ⟨rfl, hb⟩
  have B1 := hid (B0.out.trans (hb.out.mono B0.out.size))
  clear x0 x1 y0 y1 z0 z1 hb
  obtain ⟨⟨x0, x1⟩, ⟨y0, y1⟩, z0, z1⟩ := HT.out.2.2 w1 B1.out
  go_wp2_with fail
  refine (C2.out _).mono ?_
  rintro e w2 ⟨rfl, hb⟩
  have B2 := hid (B1.out.trans (hb.out.mono B1.out.size))
  clear x0 x1 y0 y1 z0 z1 hb
  obtain ⟨⟨x0, x1⟩, ⟨y0, y1⟩, z0, z1⟩ := HT.out.2.2 w2 B2.out
  go_wp2_with fail
  refine (C3.out _).mono ?_
  rintro e w3 ⟨rfl, hb⟩
  have B3 := hid (B2.out.trans (hb.out.mono B2.out.size))
  clear x0 x1 y0 y1 z0 z1 hb
  obtain ⟨⟨x0, x1⟩, ⟨y0, y1⟩, z0, z1⟩ := HT.out.2.2 w3 B3.out
  go_wp2_with fail
  refine (C4.out _).mono ?_
  rintro e w4 ⟨rfl, hb⟩
  have B4 := hid (B3.out.trans (hb.out.mono B3.out.size))
  clear x0 x1 y0 y1 z0 z1 hb
  obtain ⟨⟨x0, x1⟩, ⟨y0, y1⟩, z0, z1⟩ := HT.out.2.2 w4 B4.out
  go_wp2
  go_ret
  exact ⟨rfl, HT.out.1.trans (B4.out.mono HT.out.2.1)⟩

set_option maxRecDepth 100000 in
set_option maxHeartbeats 6400000 in
theorem total_d (a b c : De) (w : World)  (C1 : ∀ X, Calls Try.prog 8 #[dv a, dv b] X fun e w' => e = .returned (.tuple #[.bool true, .int .i64 0]) ∧ Hid (Below X.heap.size X w'))
    (C2 : ∀ X, Calls Try.prog 8 #[dv b, dv a] X fun e w' => e = .returned (.tuple #[.bool false, .int .i64 0]) ∧ Hid (Below X.heap.size X w'))
    (C3 : ∀ X, Calls Try.prog 8 #[dv b, dv c] X fun e w' => e = .returned (.tuple #[.bool true, .int .i64 0]) ∧ Hid (Below X.heap.size X w'))
    (C4 : ∀ X, Calls Try.prog 8 #[dv a, dv c] X fun e w' => e = .returned (.tuple #[.bool true, .int .i64 0]) ∧ Hid (Below X.heap.size X w')) :
    Calls Try.prog 7 #[dv a, dv b, dv c] w fun e w' => e = .returned (.bool true) ∧ Below w.heap.size w w' := by
  have CA := hid alive_any
  replace C1 := hid C1
  replace C2 := hid C2
  replace C3 := hid C3
  replace C4 := hid C4
  obtain ⟨a1, a2⟩ := a
  obtain ⟨b1, b2⟩ := b
  obtain ⟨c1, c2⟩ := c
  obtain ⟨W, hW⟩ : ∃ W, W = ((w.alloc (.cells #[.int .i64 a1, .int .i64 a2] 26)).alloc (.cells #[.int .i64 b1, .int .i64 b2] 26)).alloc (.cells #[.int .i64 c1, .int .i64 c2] 26) := ⟨_, rfl⟩
  have HT := hid (show Three w W (a1, a2) (b1, b2) (c1, c2) from hW ▸ three_new w (a1, a2) (b1, b2) (c1, c2))
  have HW := hid hW
  clear hW
  show Calls Try.prog 7 #[.agg #[.int .i64 a1, .int .i64 a2], .agg #[.int .i64 b1, .int .i64 b2], .agg #[.int .i64 c1, .int .i64 c2]] w _
  go_enter Try.func7, Try.ntmps7
  go_upto_region 1 with fail
  rw [← HW.out]
  clear HW
  go_wp2_with fail
  refine (CA.out _).mono ?_
  rintro e w0 ⟨rfl, hb⟩
  have B0 := hid hb.out
  obtain ⟨⟨x0, x1⟩, ⟨y0, y1⟩, z0, z1⟩ := HT.out.2.2 w0 B0.out
  go_wp2_with fail
  refine (C1.out _).mono ?_
  rintro e w1 ⟨rfl, hb⟩
  have B1 := hid (B0.out.trans (hb.out.mono B0.out.size))
  clear x0 x1 y0 y1 z0 z1 hb
  obtain ⟨⟨x0, x1⟩, ⟨y0, y1⟩, z0, z1⟩ := HT.out.2.2 w1 B1.out
  go_wp2_with fail
  refine (C2.out _).mono ?_
  rintro e w2 ⟨rfl, hb⟩
  have B2 := hid (B1.out.trans (hb.out.mono B1.out.size))
  clear x0 x1 y0 y1 z0 z1 hb
  obtain ⟨⟨x0, x1⟩, ⟨y0, y1⟩, z0, z1⟩ := HT.out.2.2 w2 B2.out
  go_wp2_with fail
  refine (C3.out _).mono ?_
  rintro e w3 ⟨rfl, hb⟩
  have B3 := hid (B2.out.trans (hb.out.mono B2.out.size))
  clear x0 x1 y0 y1 z0 z1 hb
  obtain ⟨⟨x0, x1⟩, ⟨y0, y1⟩, z0, z1⟩ := HT.out.2.2 w3 B3.out
  go_wp2_with fail
  refine (C4.out _).mono ?_
  rintro e w4 ⟨rfl, hb⟩
  have B4 := hid (B3.out.trans (hb.out.mono B3.out.size))
  clear x0 x1 y0 y1 z0 z1 hb
  obtain ⟨⟨x0, x1⟩, ⟨y0, y1⟩, z0, z1⟩ := HT.out.2.2 w4 B4.out
  go_wp2
  go_ret
  exact ⟨rfl, HT.out.1.trans (B4.out.mono HT.out.2.1)⟩

set_option maxRecDepth 100000 in
set_option maxHeartbeats 6400000 in
theorem total_e (a b c : De) (w : World) {z u : Bool} (C1 : ∀ X, Calls Try.prog 8 #[dv a, dv b] X fun e w' => e = .returned (.tuple #[.bool false, .int .i64 0]) ∧ Hid (Below X.heap.size X w'))
    (C2 : ∀ X, Calls Try.prog 8 #[dv b, dv a] X fun e w' => e = .returned (.tuple #[.bool true, .int .i64 0]) ∧ Hid (Below X.heap.size X w'))
    (C3 : ∀ X, Calls Try.prog 8 #[dv b, dv c] X fun e w' => e = .returned (.tuple #[.bool z, .int .i64 0]) ∧ Hid (Below X.heap.size X w'))
    (C4 : ∀ X, Calls Try.prog 8 #[dv a, dv c] X fun e w' => e = .returned (.tuple #[.bool u, .int .i64 0]) ∧ Hid (Below X.heap.size X w')) :
    Calls Try.prog 7 #[dv a, dv b, dv c] w fun e w' => e = .returned (.bool true) ∧ Below w.heap.size w w' := by
  have CA := hid alive_any
  replace C1 := hid C1
  replace C2 := hid C2
  replace C3 := hid C3
  replace C4 := hid C4
  obtain ⟨a1, a2⟩ := a
  obtain ⟨b1, b2⟩ := b
  obtain ⟨c1, c2⟩ := c
  obtain ⟨W, hW⟩ : ∃ W, W = ((w.alloc (.cells #[.int .i64 a1, .int .i64 a2] 26)).alloc (.cells #[.int .i64 b1, .int .i64 b2] 26)).alloc (.cells #[.int .i64 c1, .int .i64 c2] 26) := ⟨_, rfl⟩
  have HT := hid (show Three w W (a1, a2) (b1, b2) (c1, c2) from hW ▸ three_new w (a1, a2) (b1, b2) (c1, c2))
  have HW := hid hW
  clear hW
  show Calls Try.prog 7 #[.agg #[.int .i64 a1, .int .i64 a2], .agg #[.int .i64 b1, .int .i64 b2], .agg #[.int .i64 c1, .int .i64 c2]] w _
  go_enter Try.func7, Try.ntmps7
  go_upto_region 1 with fail
  rw [← HW.out]
  clear HW
  go_wp2_with fail
  refine (CA.out _).mono ?_
  rintro e w0 ⟨rfl, hb⟩
  have B0 := hid hb.out
  obtain ⟨⟨x0, x1⟩, ⟨y0, y1⟩, z0, z1⟩ := HT.out.2.2 w0 B0.out
  go_wp2_with fail
  refine (C1.out _).mono ?_
  rintro e w1 ⟨rfl, hb⟩
  have B1 := hid (B0.out.trans (hb.out.mono B0.out.size))
  clear x0 x1 y0 y1 z0 z1 hb
  obtain ⟨⟨x0, x1⟩, ⟨y0, y1⟩, z0, z1⟩ := HT.out.2.2 w1 B1.out
  go_wp2_with fail
  refine (C2.out _).mono ?_
  rintro e w2 ⟨rfl, hb⟩
  have B2 := hid (B1.out.trans (hb.out.mono B1.out.size))
  clear x0 x1 y0 y1 z0 z1 hb
  obtain ⟨⟨x0, x1⟩, ⟨y0, y1⟩, z0, z1⟩ := HT.out.2.2 w2 B2.out
  go_wp2_with fail
  refine (C3.out _).mono ?_
  rintro e w3 ⟨rfl, hb⟩
  have B3 := hid (B2.out.trans (hb.out.mono B2.out.size))
  clear x0 x1 y0 y1 z0 z1 hb
  obtain ⟨⟨x0, x1⟩, ⟨y0, y1⟩, z0, z1⟩ := HT.out.2.2 w3 B3.out
  go_wp2_with fail
  refine (C4.out _).mono ?_
  rintro e w4 ⟨rfl, hb⟩
  have B4 := hid (B3.out.trans (hb.out.mono B3.out.size))
  clear x0 x1 y0 y1 z0 z1 hb
  obtain ⟨⟨x0, x1⟩, ⟨y0, y1⟩, z0, z1⟩ := HT.out.2.2 w4 B4.out
  go_wp2
  go_ret
  exact ⟨rfl, HT.out.1.trans (B4.out.mono HT.out.2.1)⟩

set_option maxRecDepth 100000 in
set_option maxHeartbeats 6400000 in
theorem total_f (a b c : De) (w : World) {z u : Bool} (hab : a = b) (C1 : ∀ X, Calls Try.prog 8 #[dv a, dv b] X fun e w' => e = .returned (.tuple #[.bool false, .int .i64 0]) ∧ Hid (Below X.heap.size X w'))
    (C2 : ∀ X, Calls Try.prog 8 #[dv b, dv a] X fun e w' => e = .returned (.tuple #[.bool false, .int .i64 0]) ∧ Hid (Below X.heap.size X w'))
    (C3 : ∀ X, Calls Try.prog 8 #[dv b, dv c] X fun e w' => e = .returned (.tuple #[.bool z, .int .i64 0]) ∧ Hid (Below X.heap.size X w'))
    (C4 : ∀ X, Calls Try.prog 8 #[dv a, dv c] X fun e w' => e = .returned (.tuple #[.bool u, .int .i64 0]) ∧ Hid (Below X.heap.size X w')) :
    Calls Try.prog 7 #[dv a, dv b, dv c] w fun e w' => e = .returned (.bool true) ∧ Below w.heap.size w w' := by
  have CA := hid alive_any
  replace C1 := hid C1
  replace C2 := hid C2
  replace C3 := hid C3
  replace C4 := hid C4
  subst hab
  obtain ⟨a1, a2⟩ := a
  obtain ⟨c1, c2⟩ := c
  obtain ⟨W, hW⟩ : ∃ W, W = ((w.alloc (.cells #[.int .i64 a1, .int .i64 a2] 26)).alloc (.cells #[.int .i64 a1, .int .i64 a2] 26)).alloc (.cells #[.int .i64 c1, .int .i64 c2] 26) := ⟨_, rfl⟩
  have HT := hid (show Three w W (a1, a2) (a1, a2) (c1, c2) from hW ▸ three_new w (a1, a2) (a1, a2) (c1, c2))
  have HW := hid hW
  clear hW
  show Calls Try.prog 7 #[.agg #[.int .i64 a1, .int .i64 a2], .agg #[.int .i64 a1, .int .i64 a2], .agg #[.int .i64 c1, .int .i64 c2]] w _
  go_enter Try.func7, Try.ntmps7
  go_upto_region 1 with fail
  rw [← HW.out]
  clear HW
  go_wp2_with fail
  refine (CA.out _).mono ?_
  rintro e w0 ⟨rfl, hb⟩
  have B0 := hid hb.out
  obtain ⟨⟨x0, x1⟩, ⟨y0, y1⟩, z0, z1⟩ := HT.out.2.2 w0 B0.out
  go_wp2_with fail
  refine (C1.out _).mono ?_
  rintro e w1 ⟨rfl, hb⟩
  have B1 := hid (B0.out.trans (hb.out.mono B0.out.size))
  clear x0 x1 y0 y1 z0 z1 hb
  obtain ⟨⟨x0, x1⟩, ⟨y0, y1⟩, z0, z1⟩ := HT.out.2.2 w1 B1.out
  go_wp2_with fail
  refine (C2.out _).mono ?_
  rintro e w2 ⟨rfl, hb⟩
  have B2 := hid (B1.out.trans (hb.out.mono B1.out.size))
  clear x0 x1 y0 y1 z0 z1 hb
  obtain ⟨⟨x0, x1⟩, ⟨y0, y1⟩, z0, z1⟩ := HT.out.2.2 w2 B2.out
  go_wp2_with fail
  refine (C3.out _).mono ?_
  rintro e w3 ⟨rfl, hb⟩
  have B3 := hid (B2.out.trans (hb.out.mono B2.out.size))
  clear x0 x1 y0 y1 z0 z1 hb
  obtain ⟨⟨x0, x1⟩, ⟨y0, y1⟩, z0, z1⟩ := HT.out.2.2 w3 B3.out
  go_wp2_with fail
  refine (C4.out _).mono ?_
  rintro e w4 ⟨rfl, hb⟩
  have B4 := hid (B3.out.trans (hb.out.mono B3.out.size))
  clear x0 x1 y0 y1 z0 z1 hb
  obtain ⟨⟨x0, x1⟩, ⟨y0, y1⟩, z0, z1⟩ := HT.out.2.2 w4 B4.out
  have hgd := grdD
  have hq : ∀ X, Sem.run Try.prog (binOp .eql 26 (.agg #[.int .i64 a1, .int .i64 a2]) (.agg #[.int .i64 a1, .int .i64 a2])) X = .ok (.bool true) X := fun X => by rw [eqlD, decide_eq_true rfl]
  go_wp2
  go_ret
  exact ⟨rfl, HT.out.1.trans (B4.out.mono HT.out.2.1)⟩

theorem total_walk (a b c : De) {w : World} : Calls Try.prog 7 #[dv a, dv b, dv c] w fun e w' => e = .returned (.bool true) ∧ Below w.heap.size w w' := by
  have C1 := fun X => dFresher_any a b X
  have C2 := fun X => dFresher_any b a X
  have C3 := fun X => dFresher_any b c X
  have C4 := fun X => dFresher_any a c X
  rw [frE_comm a b] at C2
  rcases frE_two a b with h1 | h1
  · rw [frB_bad (show frE b a ≠ 0 by rw [frE_comm, h1]; decide), h1] at C2
    rw [frB_bad (by rw [h1]; decide), h1] at C1
    exact total_a a b c w C1 C2 C3 C4
  rw [frB_ok (show frE b a = 0 by rw [frE_comm, h1]), h1] at C2
  rw [frB_ok h1, h1] at C1
  rcases frE_two b c with h2 | h2
  · rw [h2] at C3
    exact total_b a b c w C1 C2 C3 C4
  rw [frB_ok h2, h2] at C3
  rw [frB_ok (frE_trans h1 h2), frE_trans h1 h2] at C4
  cases hx : fr a b with
  | true =>
    have hy := fr_asymm hx
    rw [hx] at C1
    rw [hy] at C2
    cases hz : fr b c with
    | false =>
      rw [hz] at C3
      exact total_c a b c w C1 C2 C3 C4
    | true =>
      rw [hz] at C3
      rw [fr_trans hx hz] at C4
      exact total_d a b c w C1 C2 C3 C4
  | false =>
    rw [hx] at C1
    cases hy : fr b a with
    | true =>
      rw [hy] at C2
      exact total_e a b c w C1 C2 C3 C4
    | false =>
      rw [hy] at C2
      exact total_f a b c w (fr_total hx hy) C1 C2 C3 C4
end Go.Proofs.Ytelalanhalbicaa
