/- Package mass: anyBad, by slices.ContainsFunc. -/
import Derived.Test.YtelalanhalbicaaDoorMcheck
namespace Go.Proofs.YtelalanhalbicaaDoor
open Go.RowKit Go.Shelf

instance (M : Nat → Dy) : Decidable (MMay M) := by unfold MMay; infer_instance

set_option maxHeartbeats 1600000 in
theorem mbad_one {w : World} {M : Nat → Dy} (h : Mrd w w.heap.size M) (b : Bool) (hb : b = decide (¬ MMay M)) :
    Calls Tryd.prog 43 #[.agg (mcells M)] w fun e w' => e = .returned (.bool b) ∧ Below w.heap.size w w' := by
  have bel : Below w.heap.size w (w.alloc (.cells (mcells M) 26)) := (Below.refl _ w).alloc (Nat.le_refl _) _
  have Cc := hid (mcheck_any (w := w.alloc (.cells (mcells M) 26)) ((h.below bel).mono bel.size))
  have Hb := hid bel
  clear bel h
  have HB := hid hb
  clear hb
  go_enter Tryd.func43, Tryd.ntmps43
  go_wp2_with fail
  refine Cc.out.mono ?_
  rintro e w' ⟨er, rfl, her, her2, hbel⟩
  have Hb2 := hid (Hb.out.trans (hbel.out.mono Hb.out.size))
  clear hbel
  rcases her2.out with rfl | rfl
  · obtain rfl : b = false := by rw [HB.out, decide_eq_false]; exact fun h => h (her.out.1 rfl)
    go_wp2
    go_ret
    exact ⟨rfl, Hb2.out⟩
  · obtain rfl : b = true := by rw [HB.out, decide_eq_true]; exact fun h => absurd (her.out.2 h) (by omega)
    go_wp2
    go_ret
    exact ⟨rfl, Hb2.out⟩

/-- One of the masses is asked, in whatever later world. -/
def MAsks (w : World) (d : Value) (b : Bool) : Prop := ∀ w', Below w.heap.size w w' → Calls Tryd.prog 43 #[d] w' fun e w'' => e = .returned (.bool b) ∧ Below w'.heap.size w' w''
theorem Mrd.asks {w : World} {M : Nat → Dy} (h : Mrd w w.heap.size M) : MAsks w (.agg (mcells M)) (decide (¬ MMay M)) :=
  fun _ hb => mbad_one ((h.below hb).mono hb.size) _ rfl
theorem MAsks.below {w w' : World} {d : Value} {b : Bool} (h : MAsks w d b) (hb : Below w.heap.size w w') : MAsks w' d b := fun w2 hb2 => h w2 (hb.trans (hb2.mono hb.size))

set_option maxHeartbeats 1600000 in
theorem mindex_two (g : Nat) (a0 a1 a2 a3 a4 a5 a6 a7 a8 a9 a10 a11 d0 d1 d2 d3 d4 d5 d6 d7 d8 d9 d10 d11 : Value) (b1 b2 : Bool) (w : World)
    (h0 : w.cell? ⟨g, 0, none⟩ = some a0) (h1 : w.cell? ⟨g, 1, none⟩ = some a1) (h2 : w.cell? ⟨g, 2, none⟩ = some a2) (h3 : w.cell? ⟨g, 3, none⟩ = some a3) (h4 : w.cell? ⟨g, 4, none⟩ = some a4) (h5 : w.cell? ⟨g, 5, none⟩ = some a5) (h6 : w.cell? ⟨g, 6, none⟩ = some a6) (h7 : w.cell? ⟨g, 7, none⟩ = some a7) (h8 : w.cell? ⟨g, 8, none⟩ = some a8) (h9 : w.cell? ⟨g, 9, none⟩ = some a9) (h10 : w.cell? ⟨g, 10, none⟩ = some a10) (h11 : w.cell? ⟨g, 11, none⟩ = some a11)
    (h12 : w.cell? ⟨g, 12, none⟩ = some d0) (h13 : w.cell? ⟨g, 13, none⟩ = some d1) (h14 : w.cell? ⟨g, 14, none⟩ = some d2) (h15 : w.cell? ⟨g, 15, none⟩ = some d3) (h16 : w.cell? ⟨g, 16, none⟩ = some d4) (h17 : w.cell? ⟨g, 17, none⟩ = some d5) (h18 : w.cell? ⟨g, 18, none⟩ = some d6) (h19 : w.cell? ⟨g, 19, none⟩ = some d7) (h20 : w.cell? ⟨g, 20, none⟩ = some d8) (h21 : w.cell? ⟨g, 21, none⟩ = some d9) (h22 : w.cell? ⟨g, 22, none⟩ = some d10) (h23 : w.cell? ⟨g, 23, none⟩ = some d11)
    (H1 : Hid (MAsks w (.agg #[a0, a1, a2, a3, a4, a5, a6, a7, a8, a9, a10, a11]) b1)) (H2 : Hid (MAsks w (.agg #[d0, d1, d2, d3, d4, d5, d6, d7, d8, d9, d10, d11]) b2)) :
    Calls Tryd.prog 61 #[.slice (some ⟨g, 0, none⟩) 2 2, .func (.func 43) #[] #[]] w fun e w' => e = .returned (.int .i64 (which b1 b2)) ∧ Below w.heap.size w w' := by
  have C1 := hid (H1.out w (Below.refl _ _))
  have hg := block_lt_of_cell h0
  have Hg := hid hg
  clear hg
  cases b1 with
  | true =>
    go_enter Tryd.func61, Tryd.ntmps61
    go_wp2
    refine wp_loop_rounds 3 ?_
    rw [rounds_succ]
    go_wp2_with fail
    refine C1.out.mono ?_
    rintro e w' ⟨rfl, hbel⟩
    have Hb2 := hid hbel
    clear hbel
    go_wp2
    go_ret
    exact ⟨rfl, Hb2.out⟩
  | false =>
    cases b2 with
    | true =>
      go_enter Tryd.func61, Tryd.ntmps61
      go_wp2
      refine wp_loop_rounds 3 ?_
      rw [rounds_succ]
      go_wp2_with fail
      refine C1.out.mono ?_
      rintro e w' ⟨rfl, hbel⟩
      have C2 := hid (H2.out w' hbel)
      have k12 := (hbel.cell (p := ⟨g, 12, none⟩) Hg.out).trans h12
      have k13 := (hbel.cell (p := ⟨g, 13, none⟩) Hg.out).trans h13
      have k14 := (hbel.cell (p := ⟨g, 14, none⟩) Hg.out).trans h14
      have k15 := (hbel.cell (p := ⟨g, 15, none⟩) Hg.out).trans h15
      have k16 := (hbel.cell (p := ⟨g, 16, none⟩) Hg.out).trans h16
      have k17 := (hbel.cell (p := ⟨g, 17, none⟩) Hg.out).trans h17
      have k18 := (hbel.cell (p := ⟨g, 18, none⟩) Hg.out).trans h18
      have k19 := (hbel.cell (p := ⟨g, 19, none⟩) Hg.out).trans h19
      have k20 := (hbel.cell (p := ⟨g, 20, none⟩) Hg.out).trans h20
      have k21 := (hbel.cell (p := ⟨g, 21, none⟩) Hg.out).trans h21
      have k22 := (hbel.cell (p := ⟨g, 22, none⟩) Hg.out).trans h22
      have k23 := (hbel.cell (p := ⟨g, 23, none⟩) Hg.out).trans h23
      have Hb2 := hid hbel
      clear hbel
      go_wp2_with fail
      rw [rounds_succ]
      go_wp2_with fail
      refine C2.out.mono ?_
      rintro e w2 ⟨rfl, hbel⟩
      have Hb3 := hid (Hb2.out.trans (hbel.mono Hb2.out.size))
      clear hbel
      go_wp2
      go_ret
      exact ⟨rfl, Hb3.out⟩
    | false =>
      go_enter Tryd.func61, Tryd.ntmps61
      go_wp2
      refine wp_loop_rounds 3 ?_
      rw [rounds_succ]
      go_wp2_with fail
      refine C1.out.mono ?_
      rintro e w' ⟨rfl, hbel⟩
      have C2 := hid (H2.out w' hbel)
      have k12 := (hbel.cell (p := ⟨g, 12, none⟩) Hg.out).trans h12
      have k13 := (hbel.cell (p := ⟨g, 13, none⟩) Hg.out).trans h13
      have k14 := (hbel.cell (p := ⟨g, 14, none⟩) Hg.out).trans h14
      have k15 := (hbel.cell (p := ⟨g, 15, none⟩) Hg.out).trans h15
      have k16 := (hbel.cell (p := ⟨g, 16, none⟩) Hg.out).trans h16
      have k17 := (hbel.cell (p := ⟨g, 17, none⟩) Hg.out).trans h17
      have k18 := (hbel.cell (p := ⟨g, 18, none⟩) Hg.out).trans h18
      have k19 := (hbel.cell (p := ⟨g, 19, none⟩) Hg.out).trans h19
      have k20 := (hbel.cell (p := ⟨g, 20, none⟩) Hg.out).trans h20
      have k21 := (hbel.cell (p := ⟨g, 21, none⟩) Hg.out).trans h21
      have k22 := (hbel.cell (p := ⟨g, 22, none⟩) Hg.out).trans h22
      have k23 := (hbel.cell (p := ⟨g, 23, none⟩) Hg.out).trans h23
      have Hb2 := hid hbel
      clear hbel
      go_wp2_with fail
      rw [rounds_succ]
      go_wp2_with fail
      refine C2.out.mono ?_
      rintro e w2 ⟨rfl, hbel⟩
      have Hb3 := hid (Hb2.out.trans (hbel.mono Hb2.out.size))
      clear hbel
      go_wp2_with fail
      rw [rounds_succ]
      go_wp2
      go_ret
      exact ⟨rfl, Hb3.out⟩

section
variable (g : Nat) (a0 a1 a2 a3 a4 a5 a6 a7 a8 a9 a10 a11 d0 d1 d2 d3 d4 d5 d6 d7 d8 d9 d10 d11 : Value) (b1 b2 : Bool) (w : World)
set_option maxHeartbeats 1600000 in
theorem manybad_two
    (h0 : w.cell? ⟨g, 0, none⟩ = some a0) (h1 : w.cell? ⟨g, 1, none⟩ = some a1) (h2 : w.cell? ⟨g, 2, none⟩ = some a2) (h3 : w.cell? ⟨g, 3, none⟩ = some a3) (h4 : w.cell? ⟨g, 4, none⟩ = some a4) (h5 : w.cell? ⟨g, 5, none⟩ = some a5) (h6 : w.cell? ⟨g, 6, none⟩ = some a6) (h7 : w.cell? ⟨g, 7, none⟩ = some a7) (h8 : w.cell? ⟨g, 8, none⟩ = some a8) (h9 : w.cell? ⟨g, 9, none⟩ = some a9) (h10 : w.cell? ⟨g, 10, none⟩ = some a10) (h11 : w.cell? ⟨g, 11, none⟩ = some a11)
    (h12 : w.cell? ⟨g, 12, none⟩ = some d0) (h13 : w.cell? ⟨g, 13, none⟩ = some d1) (h14 : w.cell? ⟨g, 14, none⟩ = some d2) (h15 : w.cell? ⟨g, 15, none⟩ = some d3) (h16 : w.cell? ⟨g, 16, none⟩ = some d4) (h17 : w.cell? ⟨g, 17, none⟩ = some d5) (h18 : w.cell? ⟨g, 18, none⟩ = some d6) (h19 : w.cell? ⟨g, 19, none⟩ = some d7) (h20 : w.cell? ⟨g, 20, none⟩ = some d8) (h21 : w.cell? ⟨g, 21, none⟩ = some d9) (h22 : w.cell? ⟨g, 22, none⟩ = some d10) (h23 : w.cell? ⟨g, 23, none⟩ = some d11)
    (H1 : Hid (MAsks w (.agg #[a0, a1, a2, a3, a4, a5, a6, a7, a8, a9, a10, a11]) b1)) (H2 : Hid (MAsks w (.agg #[d0, d1, d2, d3, d4, d5, d6, d7, d8, d9, d10, d11]) b2)) :
    Calls Tryd.prog 25 #[.slice (some ⟨g, 0, none⟩) 2 2] w fun e w' => e = .returned (.bool (b1 || b2)) ∧ Below w.heap.size w w' := by
  have C := hid (mindex_two g a0 a1 a2 a3 a4 a5 a6 a7 a8 a9 a10 a11 d0 d1 d2 d3 d4 d5 d6 d7 d8 d9 d10 d11 b1 b2 w h0 h1 h2 h3 h4 h5 h6 h7 h8 h9 h10 h11 h12 h13 h14 h15 h16 h17 h18 h19 h20 h21 h22 h23 H1 H2)
  clear h0 h1 h2 h3 h4 h5 h6 h7 h8 h9 h10 h11 h12 h13 h14 h15 h16 h17 h18 h19 h20 h21 h22 h23 H1 H2
  have C2 : Calls Tryd.prog 42 #[.slice (some ⟨g, 0, none⟩) 2 2, .func (.func 43) #[] #[]] w fun e w' => e = .returned (.bool (b1 || b2)) ∧ Below w.heap.size w w' := by
    cases b1 <;> cases b2
    all_goals
      go_enter Tryd.func42, Tryd.ntmps42
      go_wp2_with fail
      refine C.out.mono ?_
      rintro e w' ⟨rfl, hbel⟩
      have Hb2 := hid hbel
      clear hbel
      go_wp2
      go_ret
      exact ⟨rfl, Hb2.out⟩
  clear C
  have C2 := hid C2
  go_enter Tryd.func25, Tryd.ntmps25
  go_wp2_with fail
  refine C2.out.mono ?_
  rintro e w' ⟨rfl, hbel⟩
  have Hb2 := hid hbel
  clear hbel
  go_wp2
  go_ret
  exact ⟨rfl, Hb2.out⟩
end

end Go.Proofs.YtelalanhalbicaaDoor
