/- Package dyad: anyBad, by slices.ContainsFunc. -/
import Derived.Test.YtjppogmhibmebaaDoorDleaf
namespace Go.Proofs.YtjppogmhibmebaaDoor
open Go.RowKit

set_option maxHeartbeats 800000 in
theorem dbad_one {A : Option Addr} {n c : Nat} {f : Nat → Nat} {w : World} (h : Rd w w.heap.size A n c f) (s : Bool) (x : Int) (b : Bool) (hb : b = decide (¬ DMay s n f x)) :
    Calls Tryd.prog 62 #[.agg #[.bool s, .slice A n c, .int .i64 x]] w fun e w' => e = .returned (.bool b) ∧ Below w.heap.size w w' := by
  have bel : Below w.heap.size w (w.alloc (.cells #[.bool s, .slice A n c, .int .i64 x] 24)) := (Below.refl _ w).alloc (Nat.le_refl _) _
  have Cc := hid (dcheck_any (w := w.alloc (.cells #[.bool s, .slice A n c, .int .i64 x] 24)) ((h.below bel).mono bel.size) s x)
  have Hb := hid bel
  clear bel h
  by_cases hd : DMay s n f x
  · rw [show dchk s n f x = 0 from if_pos hd] at Cc
    obtain rfl : b = false := by simp [hb, hd]
    clear hb hd
    go_enter Tryd.func62, Tryd.ntmps62
    go_wp2_with fail
    refine Cc.out.mono ?_
    rintro e w' ⟨rfl, hbel⟩
    have Hb2 := hid (Hb.out.trans (hbel.mono Hb.out.size))
    clear hbel
    go_wp2
    go_ret
    exact ⟨rfl, Hb2.out⟩
  · rw [show dchk s n f x = 8 from if_neg hd] at Cc
    obtain rfl : b = true := by simp [hb, hd]
    clear hb hd
    go_enter Tryd.func62, Tryd.ntmps62
    go_wp2_with fail
    refine Cc.out.mono ?_
    rintro e w' ⟨rfl, hbel⟩
    have Hb2 := hid (Hb.out.trans (hbel.mono Hb.out.size))
    clear hbel
    go_wp2
    go_ret
    exact ⟨rfl, Hb2.out⟩

/-- One of the numbers is asked, in whatever later world. -/
def Asks (w : World) (d : Value) (b : Bool) : Prop := ∀ w', Below w.heap.size w w' → Calls Tryd.prog 62 #[d] w' fun e w'' => e = .returned (.bool b) ∧ Below w'.heap.size w' w''
theorem Rd.asks {A : Option Addr} {n c : Nat} {f : Nat → Nat} {w : World} (h : Rd w w.heap.size A n c f) (s : Bool) (x : Int) : Asks w (.agg #[.bool s, .slice A n c, .int .i64 x]) (decide (¬ DMay s n f x)) :=
  fun _ hb => dbad_one ((h.below hb).mono hb.size) s x _ rfl
theorem Asks.below {w w' : World} {d : Value} {b : Bool} (h : Asks w d b) (hb : Below w.heap.size w w') : Asks w' d b := fun w2 hb2 => h w2 (hb.trans (hb2.mono hb.size))

/-- Which of two is asked to be. -/
def which (b1 b2 : Bool) : Int := if b1 then 0 else if b2 then 1 else -1

set_option maxHeartbeats 1600000 in
theorem dindex_two (g : Nat) (a0 a1 a2 d0 d1 d2 : Value) (b1 b2 : Bool) (w : World)
    (h0 : w.cell? ⟨g, 0, none⟩ = some a0) (h1 : w.cell? ⟨g, 1, none⟩ = some a1) (h2 : w.cell? ⟨g, 2, none⟩ = some a2)
    (h3 : w.cell? ⟨g, 3, none⟩ = some d0) (h4 : w.cell? ⟨g, 4, none⟩ = some d1) (h5 : w.cell? ⟨g, 5, none⟩ = some d2)
    (H1 : Hid (Asks w (.agg #[a0, a1, a2]) b1)) (H2 : Hid (Asks w (.agg #[d0, d1, d2]) b2)) :
    Calls Tryd.prog 85 #[.slice (some ⟨g, 0, none⟩) 2 2, .func (.func 62) #[] #[]] w fun e w' => e = .returned (.int .i64 (which b1 b2)) ∧ Below w.heap.size w w' := by
  have C1 := hid (H1.out w (Below.refl _ _))
  have hg := block_lt_of_cell h0
  have Hg := hid hg
  clear hg
  cases b1 with
  | true =>
    go_enter Tryd.func85, Tryd.ntmps85
    go_wp2
    refine wp_loop_rounds 3 ?_
    rw [rounds_succ]
    go_wp2_with fail
    refine C1.out.mono ?_
    rintro e w' ⟨rfl, hbel⟩
    have Hb2 := hid hbel
    clear hbel
    go_wp2
    go_ret
    exact ⟨rfl, Hb2.out⟩
  | false =>
    cases b2 with
    | true =>
      go_enter Tryd.func85, Tryd.ntmps85
      go_wp2
      refine wp_loop_rounds 3 ?_
      rw [rounds_succ]
      go_wp2_with fail
      refine C1.out.mono ?_
      rintro e w' ⟨rfl, hbel⟩
      have C2 := hid (H2.out w' hbel)
      have k3 := (hbel.cell (p := ⟨g, 3, none⟩) Hg.out).trans h3
      have k4 := (hbel.cell (p := ⟨g, 4, none⟩) Hg.out).trans h4
      have k5 := (hbel.cell (p := ⟨g, 5, none⟩) Hg.out).trans h5
      have Hb2 := hid hbel
      clear hbel
      go_wp2_with fail
      rw [rounds_succ]
      go_wp2_with fail
      refine C2.out.mono ?_
      rintro e w2 ⟨rfl, hbel⟩
      have Hb3 := hid (Hb2.out.trans (hbel.mono Hb2.out.size))
      clear hbel
      go_wp2
      go_ret
      exact ⟨rfl, Hb3.out⟩
    | false =>
      go_enter Tryd.func85, Tryd.ntmps85
      go_wp2
      refine wp_loop_rounds 3 ?_
      rw [rounds_succ]
      go_wp2_with fail
      refine C1.out.mono ?_
      rintro e w' ⟨rfl, hbel⟩
      have C2 := hid (H2.out w' hbel)
      have k3 := (hbel.cell (p := ⟨g, 3, none⟩) Hg.out).trans h3
      have k4 := (hbel.cell (p := ⟨g, 4, none⟩) Hg.out).trans h4
      have k5 := (hbel.cell (p := ⟨g, 5, none⟩) Hg.out).trans h5
      have Hb2 := hid hbel
      clear hbel
      go_wp2_with fail
      rw [rounds_succ]
      go_wp2_with fail
      refine C2.out.mono ?_
      rintro e w2 ⟨rfl, hbel⟩
      have Hb3 := hid (Hb2.out.trans (hbel.mono Hb2.out.size))
      clear hbel
      go_wp2_with fail
      rw [rounds_succ]
      go_wp2
      go_ret
      exact ⟨rfl, Hb3.out⟩

set_option maxHeartbeats 1600000 in
theorem dindex_one (g : Nat) (a0 a1 a2 : Value) (b1 : Bool) (w : World)
    (h0 : w.cell? ⟨g, 0, none⟩ = some a0) (h1 : w.cell? ⟨g, 1, none⟩ = some a1) (h2 : w.cell? ⟨g, 2, none⟩ = some a2) (H1 : Hid (Asks w (.agg #[a0, a1, a2]) b1)) :
    Calls Tryd.prog 85 #[.slice (some ⟨g, 0, none⟩) 1 1, .func (.func 62) #[] #[]] w fun e w' => e = .returned (.int .i64 (if b1 then 0 else -1)) ∧ Below w.heap.size w w' := by
  have C1 := hid (H1.out w (Below.refl _ _))
  cases b1 with
  | true =>
    go_enter Tryd.func85, Tryd.ntmps85
    go_wp2
    refine wp_loop_rounds 3 ?_
    rw [rounds_succ]
    go_wp2_with fail
    refine C1.out.mono ?_
    rintro e w' ⟨rfl, hbel⟩
    have Hb2 := hid hbel
    clear hbel
    go_wp2
    go_ret
    exact ⟨rfl, Hb2.out⟩
  | false =>
    go_enter Tryd.func85, Tryd.ntmps85
    go_wp2
    refine wp_loop_rounds 3 ?_
    rw [rounds_succ]
    go_wp2_with fail
    refine C1.out.mono ?_
    rintro e w' ⟨rfl, hbel⟩
    have Hb2 := hid hbel
    clear hbel
    go_wp2_with fail
    rw [rounds_succ]
    go_wp2
    go_ret
    exact ⟨rfl, Hb2.out⟩

section
variable (g : Nat) (a0 a1 a2 d0 d1 d2 : Value) (b1 b2 : Bool) (w : World)
set_option maxHeartbeats 1600000 in
theorem danybad_two
    (h0 : w.cell? ⟨g, 0, none⟩ = some a0) (h1 : w.cell? ⟨g, 1, none⟩ = some a1) (h2 : w.cell? ⟨g, 2, none⟩ = some a2)
    (h3 : w.cell? ⟨g, 3, none⟩ = some d0) (h4 : w.cell? ⟨g, 4, none⟩ = some d1) (h5 : w.cell? ⟨g, 5, none⟩ = some d2)
    (H1 : Hid (Asks w (.agg #[a0, a1, a2]) b1)) (H2 : Hid (Asks w (.agg #[d0, d1, d2]) b2)) :
    Calls Tryd.prog 34 #[.slice (some ⟨g, 0, none⟩) 2 2] w fun e w' => e = .returned (.bool (b1 || b2)) ∧ Below w.heap.size w w' := by
  have C := hid (dindex_two g a0 a1 a2 d0 d1 d2 b1 b2 w h0 h1 h2 h3 h4 h5 H1 H2)
  clear h0 h1 h2 h3 h4 h5 H1 H2
  have C2 : Calls Tryd.prog 61 #[.slice (some ⟨g, 0, none⟩) 2 2, .func (.func 62) #[] #[]] w fun e w' => e = .returned (.bool (b1 || b2)) ∧ Below w.heap.size w w' := by
    cases b1 <;> cases b2
    all_goals
      go_enter Tryd.func61, Tryd.ntmps61
      go_wp2_with fail
      refine C.out.mono ?_
      rintro e w' ⟨rfl, hbel⟩
      have Hb2 := hid hbel
      clear hbel
      go_wp2
      go_ret
      exact ⟨rfl, Hb2.out⟩
  clear C
  have C2 := hid C2
  go_enter Tryd.func34, Tryd.ntmps34
  go_wp2_with fail
  refine C2.out.mono ?_
  rintro e w' ⟨rfl, hbel⟩
  have Hb2 := hid hbel
  clear hbel
  go_wp2
  go_ret
  exact ⟨rfl, Hb2.out⟩
set_option maxHeartbeats 1600000 in
theorem danybad_one
    (h0 : w.cell? ⟨g, 0, none⟩ = some a0) (h1 : w.cell? ⟨g, 1, none⟩ = some a1) (h2 : w.cell? ⟨g, 2, none⟩ = some a2)
    (H1 : Hid (Asks w (.agg #[a0, a1, a2]) b1)) :
    Calls Tryd.prog 34 #[.slice (some ⟨g, 0, none⟩) 1 1] w fun e w' => e = .returned (.bool b1) ∧ Below w.heap.size w w' := by
  have C := hid (dindex_one g a0 a1 a2 b1 w h0 h1 h2 H1)
  clear h0 h1 h2 H1
  have C2 : Calls Tryd.prog 61 #[.slice (some ⟨g, 0, none⟩) 1 1, .func (.func 62) #[] #[]] w fun e w' => e = .returned (.bool b1) ∧ Below w.heap.size w w' := by
    cases b1
    all_goals
      go_enter Tryd.func61, Tryd.ntmps61
      go_wp2_with fail
      refine C.out.mono ?_
      rintro e w' ⟨rfl, hbel⟩
      have Hb2 := hid hbel
      clear hbel
      go_wp2
      go_ret
      exact ⟨rfl, Hb2.out⟩
  clear C
  have C2 := hid C2
  go_enter Tryd.func34, Tryd.ntmps34
  go_wp2_with fail
  refine C2.out.mono ?_
  rintro e w' ⟨rfl, hbel⟩
  have Hb2 := hid hbel
  clear hbel
  go_wp2
  go_ret
  exact ⟨rfl, Hb2.out⟩
end

end Go.Proofs.YtjppogmhibmebaaDoor
