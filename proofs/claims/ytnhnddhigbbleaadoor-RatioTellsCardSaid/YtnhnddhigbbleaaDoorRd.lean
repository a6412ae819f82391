/- Package dyad: lowest, Check, anyBad, side. -/
/- Package dyad: anyBad, by slices.ContainsFunc. -/
/- Dyads as whole numbers of parts of 2^-4000. -/
/- The contracts of package limb that whatever asks dyads uses, for numbers that may be. -/
/- The contracts of package limb that package dyad uses, for numbers that may be. -/
/- Package dyad: sum. -/
/- Dyads: words for their boxes, for what is handed in, and for what is answered. -/
import Derived.Test.YtnhnddhigbbleaaDoorProg
import Derived.Test.YtnhnddhigbbleaaDoorRc
import Derived.Test.YtnhnddhigbbleaaDoorRa
import Derived.Test.YtnhnddhigbbleaaDoorRb
import Derived.Laws.ResultCell
import Derived.Laws.Rows

namespace Go.Proofs.YtnhnddhigbbleaaDoor
open Go.RowKit

theorem and_one_u32 (x : Nat) (hx : x < 4294967296) : bits BinOp.and IntKind.u32 (x : Int) 1 = ((x % 2 : Nat) : Int) := by
  have h := bit_u32 x 0 hx
  simpa using h

set_option maxHeartbeats 400000 in
theorem lowest_nil (A : Option Addr) (c : Nat) (w : World) :
    Calls Tryd.prog 39 #[.slice A 0 c] w fun e w' => e = .returned (.int .u32 0) ∧ w = w' := by
  go_enter Tryd.func39, Tryd.ntmps39
  go_wp2
  go_ret
  exact ⟨rfl, rfl⟩
set_option maxHeartbeats 400000 in
theorem lowest_pos (b off n c x : Nat) (w : World) (h0 : 0 < n) (_hc : n ≤ c) (_hm : n ≤ 140737488355328) (hl : x < 4294967296) (hx : w.cell? ⟨b, off, none⟩ = some (.int .u32 (x : Int))) :
    Calls Tryd.prog 39 #[.slice (some ⟨b, off, none⟩) n c] w fun e w' => e = .returned (.int .u32 ((x % 2 : Nat) : Int)) ∧ w = w' := by
  have hn : ((n : Int) == 0) = false := by simp; omega
  have e := and_one_u32 x hl
  go_enter Tryd.func39, Tryd.ntmps39
  go_wp2
  go_ret
  exact ⟨rfl, rfl⟩
theorem lowest_any {B : Nat} {A : Option Addr} {n c : Nat} {f : Nat → Nat} {w : World} (h : Rd w B A n c f) :
    Calls Tryd.prog 39 #[.slice A n c] w fun e w' => e = .returned (.int .u32 ((f 0 % 2 : Nat) : Int)) ∧ w = w' := by
  rcases Nat.eq_zero_or_pos n with h0 | h0
  · subst h0
    rw [h.out 0 (Nat.le_refl _)]
    exact lowest_nil A c w
  · obtain ⟨b, off, rfl, _, hc⟩ := h.at_ h0
    have := hc 0 h0
    exact lowest_pos b off n c _ w h0 h.cap h.max (h.lt 0) this

/-- May a dyad be? -/
def DMay (s : Bool) (n : Nat) (f : Nat → Nat) (x : Int) : Prop := Fit n f ∧ 0 ≤ x ∧ x ≤ 1024 ∧ (n = 0 → s = false) ∧ (0 < x → f 0 % 2 = 1)

instance (s : Bool) (n : Nat) (f : Nat → Nat) (x : Int) : Decidable (DMay s n f x) := by unfold DMay; infer_instance

/-- Check's number. -/
def dchk (s : Bool) (n : Nat) (f : Nat → Nat) (x : Int) : Int := if DMay s n f x then 0 else 8

set_option maxHeartbeats 800000 in
theorem dcheck_any {A : Option Addr} {n c : Nat} {f : Nat → Nat} {w : World} (h : Rd w w.heap.size A n c f) (s : Bool) (x : Int) :
    Calls Tryd.prog 25 #[.agg #[.bool s, .slice A n c, .int .i64 x]] w fun e w' => e = .returned (.int .i64 (dchk s n f x)) ∧ Below w.heap.size w w' := by
  have bel : Below w.heap.size w (w.alloc (.cells #[.bool s, .slice A n c, .int .i64 x] 24)) := (Below.refl _ w).alloc (Nat.le_refl _) _
  have Cc := hid (check_any (h.below bel))
  have Cl := hid (lowest_any (h.below bel))
  have Hb := hid bel
  clear bel
  by_cases hf : Fit n f
  · rw [chk_fit hf] at Cc
    have hm := h.max
    by_cases hx0 : x < 0
    · have hd : dchk s n f x = 8 := if_neg (fun h => by have := h.2.1; omega)
      rw [hd]
      clear hd hf h Cl
      go_enter Tryd.func25, Tryd.ntmps25
      go_wp2_with fail
      refine Cc.out.mono ?_
      rintro e w' ⟨rfl, rfl⟩
      go_wp2
      go_ret
      exact ⟨rfl, Hb.out⟩
    · by_cases hx1 : 1024 < x
      · have hd : dchk s n f x = 8 := if_neg (fun h => by have := h.2.2.1; omega)
        rw [hd]
        clear hd hf h Cl
        go_enter Tryd.func25, Tryd.ntmps25
        go_wp2_with fail
        refine Cc.out.mono ?_
        rintro e w' ⟨rfl, rfl⟩
        go_wp2
        go_ret
        exact ⟨rfl, Hb.out⟩
      · have he := @id (n = 0 ∧ s = true ∨ (n = 0 → s = false)) (by cases s <;> simp; omega)
        rcases he with ⟨rfl, rfl⟩ | hs
        · have hd : dchk true 0 f x = 8 := if_neg (fun h => by have := h.2.2.2.1 rfl; cases this)
          rw [hd]
          clear hd hf h Cl
          go_enter Tryd.func25, Tryd.ntmps25
          go_wp2_with fail
          refine Cc.out.mono ?_
          rintro e w' ⟨rfl, rfl⟩
          go_wp2
          go_ret
          exact ⟨rfl, Hb.out⟩
        · by_cases hx2 : 0 < x
          · by_cases hp : f 0 % 2 = 1
            · have hd : dchk s n f x = 0 := if_pos ⟨hf, by omega, by omega, hs, fun _ => hp⟩
              rw [hd]
              rw [hp] at Cl
              have hn0 : n ≠ 0 := by
                rintro rfl
                rw [h.out 0 (Nat.le_refl _)] at hp
                cases hp
              have hn1 : ((n : Int) == 0) = false := by simp; omega
              clear hd hf h hs hp
              go_enter Tryd.func25, Tryd.ntmps25
              go_wp2_with fail
              refine Cc.out.mono ?_
              rintro e w' ⟨rfl, rfl⟩
              go_wp2_with fail
              refine Cl.out.mono ?_
              rintro e w' ⟨rfl, rfl⟩
              go_wp2
              go_ret
              exact ⟨rfl, Hb.out⟩
            · have hd : dchk s n f x = 8 := if_neg (fun h => hp (h.2.2.2.2 hx2))
              rw [hd]
              have hp0 : f 0 % 2 = 0 := by omega
              rw [hp0] at Cl
              have he2 := @id (n = 0 ∧ s = false ∨ ((n : Int) == 0) = false) (by
                rcases Nat.eq_zero_or_pos n with h0 | h0
                · exact .inl ⟨h0, hs h0⟩
                · right; simp; omega)
              clear hd hf h hs hp hp0
              rcases he2 with ⟨rfl, rfl⟩ | hn1
              all_goals
                go_enter Tryd.func25, Tryd.ntmps25
                go_wp2_with fail
                refine Cc.out.mono ?_
                rintro e w' ⟨rfl, rfl⟩
                go_wp2_with fail
                refine Cl.out.mono ?_
                rintro e w' ⟨rfl, rfl⟩
                go_wp2
                go_ret
                exact ⟨rfl, Hb.out⟩
          · have hd : dchk s n f x = 0 := if_pos ⟨hf, by omega, by omega, hs, fun h => absurd h hx2⟩
            rw [hd]
            have he2 := @id (n = 0 ∧ s = false ∨ ((n : Int) == 0) = false) (by
              rcases Nat.eq_zero_or_pos n with h0 | h0
              · exact .inl ⟨h0, hs h0⟩
              · right; simp; omega)
            clear hd hf h hs Cl
            rcases he2 with ⟨rfl, rfl⟩ | hn1
            all_goals
              go_enter Tryd.func25, Tryd.ntmps25
              go_wp2_with fail
              refine Cc.out.mono ?_
              rintro e w' ⟨rfl, rfl⟩
              go_wp2
              go_ret
              exact ⟨rfl, Hb.out⟩
  · rw [chk_bad hf] at Cc
    have hd : dchk s n f x = 8 := if_neg (fun h => hf h.1)
    rw [hd]
    clear hd hf h
    go_enter Tryd.func25, Tryd.ntmps25
    go_wp2_with fail
    refine Cc.out.mono ?_
    rintro e w' ⟨rfl, rfl⟩
    go_wp2
    go_ret
    exact ⟨rfl, Hb.out⟩

end Go.Proofs.YtnhnddhigbbleaaDoor


namespace Go.Proofs.YtnhnddhigbbleaaDoor
open Go.RowKit

set_option maxHeartbeats 800000 in
theorem dbad_one {A : Option Addr} {n c : Nat} {f : Nat → Nat} {w : World} (h : Rd w w.heap.size A n c f) (s : Bool) (x : Int) (b : Bool) (hb : b = decide (¬ DMay s n f x)) :
    Calls Tryd.prog 67 #[.agg #[.bool s, .slice A n c, .int .i64 x]] w fun e w' => e = .returned (.bool b) ∧ Below w.heap.size w w' := by
  have bel : Below w.heap.size w (w.alloc (.cells #[.bool s, .slice A n c, .int .i64 x] 24)) := (Below.refl _ w).alloc (Nat.le_refl _) _
  have Cc := hid (dcheck_any (w := w.alloc (.cells #[.bool s, .slice A n c, .int .i64 x] 24)) ((h.below bel).mono bel.size) s x)
  have Hb := hid bel
  clear bel h
  by_cases hd : DMay s n f x
  · rw [show dchk s n f x = 0 from if_pos hd] at Cc
    obtain rfl : b = false := by simp [hb, hd]
    clear hb hd
    go_enter Tryd.func67, Tryd.ntmps67
    go_wp2_with fail
    refine Cc.out.mono ?_
    rintro e w' ⟨rfl, hbel⟩
    have Hb2 := hid (Hb.out.trans (hbel.mono Hb.out.size))
    clear hbel
    go_wp2
    go_ret
    exact ⟨rfl, Hb2.out⟩
  · rw [show dchk s n f x = 8 from if_neg hd] at Cc
    obtain rfl : b = true := by simp [hb, hd]
    clear hb hd
    go_enter Tryd.func67, Tryd.ntmps67
    go_wp2_with fail
    refine Cc.out.mono ?_
    rintro e w' ⟨rfl, hbel⟩
    have Hb2 := hid (Hb.out.trans (hbel.mono Hb.out.size))
    clear hbel
    go_wp2
    go_ret
    exact ⟨rfl, Hb2.out⟩

/-- One of the numbers is asked, in whatever later world. -/
def Asks (w : World) (d : Value) (b : Bool) : Prop := ∀ w', Below w.heap.size w w' → Calls Tryd.prog 67 #[d] w' fun e w'' => e = .returned (.bool b) ∧ Below w'.heap.size w' w''
theorem Rd.asks {A : Option Addr} {n c : Nat} {f : Nat → Nat} {w : World} (h : Rd w w.heap.size A n c f) (s : Bool) (x : Int) : Asks w (.agg #[.bool s, .slice A n c, .int .i64 x]) (decide (¬ DMay s n f x)) :=
  fun _ hb => dbad_one ((h.below hb).mono hb.size) s x _ rfl
theorem Asks.below {w w' : World} {d : Value} {b : Bool} (h : Asks w d b) (hb : Below w.heap.size w w') : Asks w' d b := fun w2 hb2 => h w2 (hb.trans (hb2.mono hb.size))

/-- Which of two is asked to be. -/
def which (b1 b2 : Bool) : Int := if b1 then 0 else if b2 then 1 else -1

set_option maxHeartbeats 1600000 in
theorem dindex_two (g : Nat) (a0 a1 a2 d0 d1 d2 : Value) (b1 b2 : Bool) (w : World)
    (h0 : w.cell? ⟨g, 0, none⟩ = some a0) (h1 : w.cell? ⟨g, 1, none⟩ = some a1) (h2 : w.cell? ⟨g, 2, none⟩ = some a2)
    (h3 : w.cell? ⟨g, 3, none⟩ = some d0) (h4 : w.cell? ⟨g, 4, none⟩ = some d1) (h5 : w.cell? ⟨g, 5, none⟩ = some d2)
    (H1 : Hid (Asks w (.agg #[a0, a1, a2]) b1)) (H2 : Hid (Asks w (.agg #[d0, d1, d2]) b2)) :
    Calls Tryd.prog 77 #[.slice (some ⟨g, 0, none⟩) 2 2, .func (.func 67) #[] #[]] w fun e w' => e = .returned (.int .i64 (which b1 b2)) ∧ Below w.heap.size w w' := by
  have C1 := hid (H1.out w (Below.refl _ _))
  have hg := block_lt_of_cell h0
  have Hg := hid hg
  clear hg
  cases b1 with
  | true =>
    go_enter Tryd.func77, Tryd.ntmps77
    go_wp2
    refine wp_loop_rounds 3 ?_
    rw [rounds_succ]
    go_wp2_with fail
    refine C1.out.mono ?_
    rintro e w' ⟨rfl, hbel⟩
    have Hb2 := hid hbel
    clear hbel
    go_wp2
    go_ret
    exact ⟨rfl, Hb2.out⟩
  | false =>
    cases b2 with
    | true =>
      go_enter Tryd.func77, Tryd.ntmps77
      go_wp2
      refine wp_loop_rounds 3 ?_
      rw [rounds_succ]
      go_wp2_with fail
      refine C1.out.mono ?_
      rintro e w' ⟨rfl, hbel⟩
      have C2 := hid (H2.out w' hbel)
      have k3 := (hbel.cell (p := ⟨g, 3, none⟩) Hg.out).trans h3
      have k4 := (hbel.cell (p := ⟨g, 4, none⟩) Hg.out).trans h4
      have k5 := (hbel.cell (p := ⟨g, 5, none⟩) Hg.out).trans h5
      have Hb2 := hid hbel
      clear hbel
      go_wp2_with fail
      rw [rounds_succ]
      go_wp2_with fail
      refine C2.out.mono ?_
      rintro e w2 ⟨rfl, hbel⟩
      have Hb3 := hid (Hb2.out.trans (hbel.mono Hb2.out.size))
      clear hbel
      go_wp2
      go_ret
      exact ⟨rfl, Hb3.out⟩
    | false =>
      go_enter Tryd.func77, Tryd.ntmps77
      go_wp2
      refine wp_loop_rounds 3 ?_
      rw [rounds_succ]
      go_wp2_with fail
      refine C1.out.mono ?_
      rintro e w' ⟨rfl, hbel⟩
      have C2 := hid (H2.out w' hbel)
      have k3 := (hbel.cell (p := ⟨g, 3, none⟩) Hg.out).trans h3
      have k4 := (hbel.cell (p := ⟨g, 4, none⟩) Hg.out).trans h4
      have k5 := (hbel.cell (p := ⟨g, 5, none⟩) Hg.out).trans h5
      have Hb2 := hid hbel
      clear hbel
      go_wp2_with fail
      rw [rounds_succ]
      go_wp2_with fail
      refine C2.out.mono ?_
      rintro e w2 ⟨rfl, hbel⟩
      have Hb3 := hid (Hb2.out.trans (hbel.mono Hb2.out.size))
      clear hbel
      go_wp2_with fail
      rw [rounds_succ]
      go_wp2
      go_ret
      exact ⟨rfl, Hb3.out⟩

set_option maxHeartbeats 1600000 in
theorem dindex_one (g : Nat) (a0 a1 a2 : Value) (b1 : Bool) (w : World)
    (h0 : w.cell? ⟨g, 0, none⟩ = some a0) (h1 : w.cell? ⟨g, 1, none⟩ = some a1) (h2 : w.cell? ⟨g, 2, none⟩ = some a2) (H1 : Hid (Asks w (.agg #[a0, a1, a2]) b1)) :
    Calls Tryd.prog 77 #[.slice (some ⟨g, 0, none⟩) 1 1, .func (.func 67) #[] #[]] w fun e w' => e = .returned (.int .i64 (if b1 then 0 else -1)) ∧ Below w.heap.size w w' := by
  have C1 := hid (H1.out w (Below.refl _ _))
  cases b1 with
  | true =>
    go_enter Tryd.func77, Tryd.ntmps77
    go_wp2
    refine wp_loop_rounds 3 ?_
    rw [rounds_succ]
    go_wp2_with fail
    refine C1.out.mono ?_
    rintro e w' ⟨rfl, hbel⟩
    have Hb2 := hid hbel
    clear hbel
    go_wp2
    go_ret
    exact ⟨rfl, Hb2.out⟩
  | false =>
    go_enter Tryd.func77, Tryd.ntmps77
    go_wp2
    refine wp_loop_rounds 3 ?_
    rw [rounds_succ]
    go_wp2_with fail
    refine C1.out.mono ?_
    rintro e w' ⟨rfl, hbel⟩
    have Hb2 := hid hbel
    clear hbel
    go_wp2_with fail
    rw [rounds_succ]
    go_wp2
    go_ret
    exact ⟨rfl, Hb2.out⟩

section
variable (g : Nat) (a0 a1 a2 d0 d1 d2 : Value) (b1 b2 : Bool) (w : World)
set_option maxHeartbeats 1600000 in
theorem danybad_two
    (h0 : w.cell? ⟨g, 0, none⟩ = some a0) (h1 : w.cell? ⟨g, 1, none⟩ = some a1) (h2 : w.cell? ⟨g, 2, none⟩ = some a2)
    (h3 : w.cell? ⟨g, 3, none⟩ = some d0) (h4 : w.cell? ⟨g, 4, none⟩ = some d1) (h5 : w.cell? ⟨g, 5, none⟩ = some d2)
    (H1 : Hid (Asks w (.agg #[a0, a1, a2]) b1)) (H2 : Hid (Asks w (.agg #[d0, d1, d2]) b2)) :
    Calls Tryd.prog 56 #[.slice (some ⟨g, 0, none⟩) 2 2] w fun e w' => e = .returned (.bool (b1 || b2)) ∧ Below w.heap.size w w' := by
  have C := hid (dindex_two g a0 a1 a2 d0 d1 d2 b1 b2 w h0 h1 h2 h3 h4 h5 H1 H2)
  clear h0 h1 h2 h3 h4 h5 H1 H2
  have C2 : Calls Tryd.prog 66 #[.slice (some ⟨g, 0, none⟩) 2 2, .func (.func 67) #[] #[]] w fun e w' => e = .returned (.bool (b1 || b2)) ∧ Below w.heap.size w w' := by
    cases b1 <;> cases b2
    all_goals
      go_enter Tryd.func66, Tryd.ntmps66
      go_wp2_with fail
      refine C.out.mono ?_
      rintro e w' ⟨rfl, hbel⟩
      have Hb2 := hid hbel
      clear hbel
      go_wp2
      go_ret
      exact ⟨rfl, Hb2.out⟩
  clear C
  have C2 := hid C2
  go_enter Tryd.func56, Tryd.ntmps56
  go_wp2_with fail
  refine C2.out.mono ?_
  rintro e w' ⟨rfl, hbel⟩
  have Hb2 := hid hbel
  clear hbel
  go_wp2
  go_ret
  exact ⟨rfl, Hb2.out⟩
set_option maxHeartbeats 1600000 in
theorem danybad_one
    (h0 : w.cell? ⟨g, 0, none⟩ = some a0) (h1 : w.cell? ⟨g, 1, none⟩ = some a1) (h2 : w.cell? ⟨g, 2, none⟩ = some a2)
    (H1 : Hid (Asks w (.agg #[a0, a1, a2]) b1)) :
    Calls Tryd.prog 56 #[.slice (some ⟨g, 0, none⟩) 1 1] w fun e w' => e = .returned (.bool b1) ∧ Below w.heap.size w w' := by
  have C := hid (dindex_one g a0 a1 a2 b1 w h0 h1 h2 H1)
  clear h0 h1 h2 H1
  have C2 : Calls Tryd.prog 66 #[.slice (some ⟨g, 0, none⟩) 1 1, .func (.func 67) #[] #[]] w fun e w' => e = .returned (.bool b1) ∧ Below w.heap.size w w' := by
    cases b1
    all_goals
      go_enter Tryd.func66, Tryd.ntmps66
      go_wp2_with fail
      refine C.out.mono ?_
      rintro e w' ⟨rfl, hbel⟩
      have Hb2 := hid hbel
      clear hbel
      go_wp2
      go_ret
      exact ⟨rfl, Hb2.out⟩
  clear C
  have C2 := hid C2
  go_enter Tryd.func56, Tryd.ntmps56
  go_wp2_with fail
  refine C2.out.mono ?_
  rintro e w' ⟨rfl, hbel⟩
  have Hb2 := hid hbel
  clear hbel
  go_wp2
  go_ret
  exact ⟨rfl, Hb2.out⟩
end

end Go.Proofs.YtnhnddhigbbleaaDoor


namespace Go.Proofs.YtnhnddhigbbleaaDoor

/-- Powers of two, kept shut. -/
def tp (k : Nat) : Nat := 2 ^ k
theorem tp_zero : tp 0 = 1 := rfl
theorem tp_one : tp 1 = 2 := rfl
theorem tp_pos (k : Nat) : 0 < tp k := by unfold tp; exact Nat.pow_pos (by omega)
theorem tp_add (j k : Nat) : tp (j + k) = tp j * tp k := by unfold tp; rw [Nat.pow_add]
theorem tp_succ (k : Nat) : tp (k + 1) = tp k * 2 := by unfold tp; rw [Nat.pow_succ]

/-- A number, below 0 if s. -/
def num (s : Bool) (n : Nat) : Int := if s then -(n : Int) else n
theorem num_zero (s : Bool) : num s 0 = 0 := by cases s <;> rfl
theorem num_neg (s : Bool) (n : Nat) : num (!s) n = - num s n := by cases s <;> simp [num]
theorem num_inj {s t : Bool} {n m : Nat} (h : num s n = num t m) : n = m ∧ (n ≠ 0 → s = t) := by
  cases s <;> cases t <;> simp [num] at h ⊢ <;> omega
theorem num_like (s : Bool) (n m : Nat) : num s (n + m) = num s n + num s m := by cases s <;> simp [num] <;> omega
theorem num_unlike {s t : Bool} (h : s ≠ t) {n m : Nat} (hm : m ≤ n) : num s (n - m) = num s n + num t m := by
  cases s <;> cases t <;> simp [num] at h ⊢ <;> omega
theorem num_mul (s : Bool) (n m : Nat) : num s (n * m) = num s n * (m : Int) := by cases s <;> simp [num, Int.neg_mul]

/-- The number of parts that a dyad is. -/
def dv (s : Bool) (V x : Nat) : Int := num s (V * tp (4000 - x))
/-- The one form. -/
def Canon (s : Bool) (V x : Nat) : Prop := (V = 0 → s = false ∧ x = 0) ∧ (0 < x → V % 2 = 1)

theorem canon_uniq {s t : Bool} {V U x y : Nat} (h1 : Canon s V x) (h2 : Canon t U y) (hx : x ≤ 4000) (hy : y ≤ 4000) (h : dv s V x = dv t U y) : s = t ∧ V = U ∧ x = y := by
  obtain ⟨hm, hs⟩ := num_inj h
  have key : ∀ {V U x y : Nat}, x < y → y ≤ 4000 → (0 < y → U % 2 = 1) → V * tp (4000 - x) = U * tp (4000 - y) → False := by
    intro V U x y hxy hy hu h
    obtain ⟨d, rfl⟩ : ∃ d, y = x + d + 1 := ⟨y - x - 1, by omega⟩
    rw [show 4000 - x = (4000 - (x + d + 1)) + (d + 1) by omega, tp_add, tp_succ, Nat.mul_comm (tp (4000 - (x + d + 1))), ← Nat.mul_assoc] at h
    have h3 := Nat.eq_of_mul_eq_mul_right (tp_pos _) h
    have h4 := hu (by omega)
    rw [← h3, ← Nat.mul_assoc] at h4
    omega
  have hxy : x = y := by
    rcases Nat.lt_trichotomy x y with h | h | h
    · exact (key h hy h2.2 hm).elim
    · exact h
    · exact (key h hx h1.2 hm.symm).elim
  subst hxy
  have hV := Nat.eq_of_mul_eq_mul_right (tp_pos _) hm
  subst hV
  refine ⟨?_, rfl, rfl⟩
  rcases Nat.eq_zero_or_pos V with h0 | h0
  · rw [(h1.1 h0).1, (h2.1 h0).1]
  · refine hs ?_
    have := Nat.mul_pos h0 (tp_pos (4000 - x))
    omega

/-- Some dyad that may be is M. -/
def Okay (M : Int) : Prop := ∃ s V x, Canon s V x ∧ V < pw 40 ∧ x ≤ 1024 ∧ dv s V x = M
/-- The error where M is to be told. -/
def Derr (M : Int) (er : Int) : Prop := (Okay M ∧ er = 0) ∨ (¬ Okay M ∧ er = 10)
theorem Derr.uniq {M a b : Int} (h : Derr M a) (k : Derr M b) : a = b := by
  rcases h with ⟨h, rfl⟩ | ⟨h, rfl⟩ <;> rcases k with ⟨k, rfl⟩ | ⟨k, rfl⟩
  · rfl
  · exact absurd h k
  · exact absurd k h
  · rfl
theorem not_okay {s : Bool} {V x : Nat} (hc : Canon s V x) (hx : x ≤ 4000) (h : pw 40 ≤ V ∨ 1024 < x) : ¬ Okay (dv s V x) := by
  rintro ⟨t, U, y, hu, hU, hy, he⟩
  obtain ⟨rfl, rfl, rfl⟩ := canon_uniq hu hc (by omega) hx he
  omega

theorem okay_zero : Okay 0 := ⟨false, 0, 0, ⟨fun _ => ⟨rfl, rfl⟩, fun h => absurd h (by omega)⟩, pw_pos 40, by omega, by simp [dv, num]⟩
theorem okay_neg {M : Int} (h : Okay M) : Okay (-M) := by
  obtain ⟨s, V, x, hc, hV, hx, rfl⟩ := h
  rcases Nat.eq_zero_or_pos V with h0 | h0
  · subst h0
    rw [show -(dv s 0 x) = 0 by simp [dv, num_zero]]
    exact okay_zero
  · exact ⟨!s, V, x, ⟨fun h => absurd h (by omega), hc.2⟩, hV, hx, num_neg s _⟩

end Go.Proofs.YtnhnddhigbbleaaDoor


namespace Go.Proofs.YtnhnddhigbbleaaDoor
open Go.RowKit

/-- The slice v lies from block B on, or nowhere. -/
def New (B : Nat) (v : Value) : Prop := ∀ b off n c, v = .slice (some ⟨b, off, none⟩) n c → B ≤ b
theorem New.nil (B c n : Nat) : New B (.slice none n c) := fun b off n c h => by cases h
theorem New.mono {B B' : Nat} {v : Value} (h : New B v) (hB : B' ≤ B) : New B' v := fun b off n c hv => Nat.le_trans hB (h b off n c hv)
theorem Num.new {t : TypeId} {B V : Nat} {w : World} {v : Value} (h : Num t B w V v) : New B v := by
  obtain ⟨A, k, c, f, rfl, hm, _, _⟩ := h
  intro b off n c hv
  rcases hm.own with ⟨rfl, _, _⟩ | ⟨g, cs, rfl, hg, _⟩
  · cases hv
  · injection hv with h1
    injection h1 with h1
    injection h1 with h1
    omega
theorem Val.shape {w : World} {V : Nat} {v : Value} (h : Val w V v) : ∃ A n c, v = .slice A n c := by
  obtain ⟨A, n, c, _, rfl, _⟩ := h
  exact ⟨A, n, c, rfl⟩
/-- A store elsewhere. -/
theorem Val.set {w : World} {V g : Nat} {v : Value} (h : Val w V v) (hn : New (g + 1) v) (j : Nat) (u : Value) : Val (w.setCell ⟨g, j, none⟩ u) V v := by
  obtain ⟨A, n, c, f, rfl, hr, hf, hV⟩ := h
  refine ⟨A, n, c, f, rfl, ⟨hr.cap, hr.max, hr.lt, hr.out, fun hn0 => ?_⟩, hf, hV⟩
  obtain ⟨b, off, rfl, hB, hc⟩ := hr.at_ hn0
  have hb := hn b off n c rfl
  have hblk := Below.heap_setCell w ⟨g, j, none⟩ u b (by show b ≠ g; omega)
  refine ⟨b, off, rfl, by simpa [World.setCell] using hB, fun j hj => ?_⟩
  rw [← hc j hj]
  exact World.cell?_of_block hblk

theorem Num.shape {t : TypeId} {B V : Nat} {w : World} {v : Value} (h : Num t B w V v) : ∃ A n c, v = .slice A n c := by
  obtain ⟨A, n, c, _, rfl, _⟩ := h
  exact ⟨A, n, c, rfl⟩
theorem Num.set {t : TypeId} {B V g : Nat} {w : World} {v : Value} (h : Num t B w V v) (hg : g < B) (j : Nat) (u : Value) : Num t B (w.setCell ⟨g, j, none⟩ u) V v := by
  obtain ⟨A, n, c, f, rfl, hm, hf, hV⟩ := h
  refine ⟨A, n, c, f, rfl, ⟨hm.cap, hm.max, hm.lt, hm.out, ?_⟩, hf, hV⟩
  rcases hm.own with h0 | ⟨b, cs, rfl, hB, hh, hs, hc⟩
  · exact .inl h0
  · exact .inr ⟨b, cs, rfl, hB, (Below.heap_setCell w ⟨g, j, none⟩ u b (by show b ≠ g; omega)).trans hh, hs, hc⟩

/-- As Back, and the limbs lie in new memory. -/
def Backn (w : World) (E : Int → Prop) (V : Nat) (e : Ending) (w' : World) : Prop := ∃ v er, e = .returned (.tuple #[v, .int .i64 er]) ∧ Hid (E er) ∧ Hid (Num 63 w.heap.size w' (resV er V) v) ∧ Hid (Below w.heap.size w w')
theorem Ans.backn {w w' : World} {er : Int} {V : Nat} {e : Ending} {E : Int → Prop} (h : Ans 63 w er V e w') (hE : E er) : Backn w E V e w' := by
  obtain ⟨hb, v, rfl, hg, hn⟩ := h
  refine ⟨v, er, rfl, hE, ?_, hb⟩
  by_cases he : er = 0
  · rw [resV_ok he]; exact hg he
  · rw [resV_bad he, hn he]; exact Num.zero _ _ _

section
variable {V U : Nat} {w : World} {v1 v2 : Value}
theorem left_val (h1 : Val w V v1) (k : Nat) (hk : k ≤ 9223372036854775807) : Calls Tryd.prog 68 #[v1, .int .i64 (k : Int)] w (Backn w (· = overErr (V * tp k)) (V * tp k)) := by
  obtain ⟨A, n, c, f, rfl, hr, hf, rfl⟩ := h1
  have h := Left_any hr (k : Int) (by omega)
  rw [Int.toNat_natCast] at h
  refine h.mono fun e w' hA => hA.backn ?_
  unfold leftErr
  rw [if_pos hf, if_neg (by omega), Int.toNat_natCast]
  rfl
theorem dcmp_val (h1 : Val w V v1) (h2 : Val w U v2) : Calls Tryd.prog 82 #[v1, v2] w fun e w' => e = .returned (.tuple #[.int .i64 (cmpN V U), .int .i64 0]) ∧ Below w.heap.size w w' := by
  obtain ⟨A, k, c, f, rfl, hr, hf, rfl⟩ := h1
  obtain ⟨D, m, d, g, rfl, hs, hg, rfl⟩ := h2
  refine (cmp_any hr hs).mono ?_
  rintro e w' ⟨rfl, hb⟩
  rw [show cmpErr k f m g = 0 from if_pos ⟨hf, hg⟩, show cmpRes k f m g = cmpN (vl f k) (vl g m) from if_pos ⟨hf, hg⟩]
  exact ⟨rfl, hb⟩
theorem of_val (x : Nat) (hx : x ≤ 18446744073709551615) (w : World) : Calls Tryd.prog 49 #[.int .u64 (x : Int)] w fun e w' => ∃ v, e = .returned v ∧ Hid (Num 63 w.heap.size w' x v) ∧ Hid (Below w.heap.size w w') := by
  refine (of_any x hx w).mono ?_
  rintro e w' ⟨v, rfl, hn, hb⟩
  exact ⟨v, rfl, hn, hb⟩
end
theorem over_ok {V : Nat} (h : V < pw 40) : overErr V = 0 := if_pos h
theorem over_bad {V : Nat} (h : ¬ V < pw 40) : overErr V = 10 := if_neg h


end Go.Proofs.YtnhnddhigbbleaaDoor


namespace Go.Proofs.YtnhnddhigbbleaaDoor
open Go.RowKit

section
variable {V U : Nat} {w : World} {v1 v2 : Value}
theorem right_val (h1 : Val w V v1) (k : Nat) (hk : k ≤ 9223372036854775807) : Calls Tryd.prog 69 #[v1, .int .i64 (k : Int)] w (Backn w (· = 0) (V / tp k)) := by
  obtain ⟨A, n, c, f, rfl, hr, hf, rfl⟩ := h1
  have h := Right_any hr (k : Int) (by omega)
  rw [Int.toNat_natCast] at h
  refine h.mono fun e w' hA => hA.backn ?_
  unfold rightErr
  rw [if_pos hf, if_neg (by omega)]
theorem low_val (h1 : Val w V v1) (hT : Tab w) : Calls Tryd.prog 85 #[v1] w fun e w' => ∃ k : Nat, e = .returned (.tuple #[.int .i64 (k : Int), .int .i64 0]) ∧ Hid (LowOf V k) ∧ Hid (Below w.heap.size w w') := by
  obtain ⟨A, n, c, f, rfl, hr, hf, rfl⟩ := h1
  refine (Low_any hr hT).mono ?_
  rintro e w' ⟨hb, k, rfl, hgood, _⟩
  rw [chk_fit hf]
  exact ⟨k, rfl, hgood hf, hb⟩
theorem add_val (h1 : Val w V v1) (h2 : Val w U v2) : Calls Tryd.prog 70 #[v1, v2] w (Backn w (· = overErr (V + U)) (V + U)) := by
  obtain ⟨A, k, c, f, rfl, hr, hf, rfl⟩ := h1
  obtain ⟨D, m, d, g, rfl, hs, hg, rfl⟩ := h2
  refine (add_any hr hs).mono fun e w' hA => hA.backn ?_
  unfold addErr
  exact if_pos ⟨hf, hg⟩
theorem sub_val (h1 : Val w V v1) (h2 : Val w U v2) (hle : U ≤ V) : Calls Tryd.prog 72 #[v1, v2] w (Backn w (· = 0) (V - U)) := by
  obtain ⟨A, k, c, f, rfl, hr, hf, rfl⟩ := h1
  obtain ⟨D, m, d, g, rfl, hs, hg, rfl⟩ := h2
  refine (sub_any hr hs).mono fun e w' hA => hA.backn ?_
  unfold subErr
  rw [if_pos ⟨hf, hg⟩, if_neg (by omega)]
end
end Go.Proofs.YtnhnddhigbbleaaDoor


namespace Go.Proofs.YtnhnddhigbbleaaDoor
open Go.RowKit

theorem vl_mod2 {f : Nat → Nat} {n : Nat} (h0 : 0 < n) : vl f n % 2 = f 0 % 2 := by
  rw [show n = 1 + (n - 1) by omega, vl_shift]
  rw [show vl f 1 = f 0 by simp [vl, pw], show pw 1 = 2 * 2147483648 by decide, Nat.mul_assoc]
  omega
theorem vl_zero_iff {f : Nat → Nat} {n : Nat} (hf : Fit n f) : vl f n = 0 ↔ n = 0 := by
  constructor
  · intro hV
    rcases Nat.eq_zero_or_pos n with h0 | h0
    · exact h0
    · have a := vl_ge (f := f) h0 (hf.2 h0)
      have b := pw_pos (n - 1)
      omega
  · rintro rfl; rfl
theorem may_canon {s : Bool} {n : Nat} {f : Nat → Nat} {x : Int} (h : DMay s n f x) (hout : ∀ j, n ≤ j → f j = 0) : ∃ X : Nat, x = (X : Int) ∧ Canon s (vl f n) X ∧ X ≤ 1024 := by
  obtain ⟨hf, h0, h1, h2, h3⟩ := h
  obtain ⟨X, rfl⟩ := Int.eq_ofNat_of_zero_le h0
  refine ⟨X, rfl, ⟨fun hV => ?_, fun hx => ?_⟩, by omega⟩
  · have hn := (vl_zero_iff hf).1 hV
    refine ⟨h2 hn, ?_⟩
    rcases Nat.eq_zero_or_pos X with hX | hX
    · exact hX
    · have a := h3 (by omega)
      rw [hout 0 (by omega)] at a
      cases a
  · have a := h3 (by omega)
    rcases Nat.eq_zero_or_pos n with hn | hn
    · rw [hout 0 (by omega)] at a
      cases a
    · rw [vl_mod2 hn]
      exact a
theorem canon_may {s : Bool} {n : Nat} {f : Nat → Nat} {X : Nat} (hf : Fit n f) (hc : Canon s (vl f n) X) (hX : X ≤ 1024) : DMay s n f (X : Int) := by
  refine ⟨hf, by omega, by omega, fun hn => (hc.1 ((vl_zero_iff hf).2 hn)).1, fun hx => ?_⟩
  have a := hc.2 (by omega)
  rcases Nat.eq_zero_or_pos n with hn | hn
  · subst hn
    cases a
  · rwa [vl_mod2 hn] at a

theorem tp_split {E X : Nat} (h : X ≤ E) (hE : E ≤ 4000) : tp (4000 - X) = tp (E - X) * tp (4000 - E) := by
  rw [← tp_add]
  congr 1
  omega
theorem sum_scaled {s t : Bool} {V U X Y E : Nat} (hX : X ≤ E) (hY : Y ≤ E) (hE : E ≤ 4000) : dv s V X + dv t U Y = (num s (V * tp (E - X)) + num t (U * tp (E - Y))) * (tp (4000 - E) : Int) := by
  unfold dv
  rw [tp_split hX hE, tp_split hY hE, ← Nat.mul_assoc, ← Nat.mul_assoc, num_mul, num_mul s, num_mul t (U * _), Int.add_mul]
theorem sum_not {r : Bool} {N E : Nat} {M : Int} (h : M = num r N * (tp (4000 - E) : Int)) (hN : pw 40 ≤ N) (hor : E = 0 ∨ N % 2 = 1) (hE : E ≤ 1024) : ¬ Okay M := by
  rw [← num_mul] at h
  rw [h]
  have := pw_pos 40
  exact not_okay (s := r) (V := N) (x := E) ⟨fun h0 => by omega, fun h1 => by omega⟩ (by omega) (.inl hN)
theorem sum_form (s t : Bool) (n m : Nat) : ∃ r N, num r N = num s n + num t m ∧ N % 2 = (n + m) % 2 ∧ n ≤ N + m ∧ m ≤ N + n := by
  by_cases h : s = t
  · subst h
    exact ⟨s, n + m, num_like s n m, rfl, by omega, by omega⟩
  · rcases Nat.le_total m n with h2 | h2
    · exact ⟨s, n - m, num_unlike h h2, by omega, by omega, by omega⟩
    · exact ⟨t, m - n, by rw [num_unlike (Ne.symm h) h2, Int.add_comm], by omega, by omega, by omega⟩
theorem tp_even {k : Nat} (h : 0 < k) (V : Nat) : (V * tp k) % 2 = 0 := by
  obtain ⟨j, rfl⟩ : ∃ j, k = j + 1 := ⟨k - 1, by omega⟩
  rw [tp_succ, ← Nat.mul_assoc]
  omega
/-- One of the two is too great to be written in the other's parts: then the sum is too great. -/
theorem wide_not {s t : Bool} {V U X Y E : Nat} (hU : U < pw 40) (hc : 0 < Y → U % 2 = 1) (hYE : Y = E) (hX : X < E) (hE : E ≤ 1024) (hbig : 2 * pw 40 ≤ V * tp (E - X)) : ¬ Okay (dv s V X + dv t U Y) := by
  subst hYE
  rw [sum_scaled (by omega : X ≤ Y) (Nat.le_refl Y) (by omega), Nat.sub_self, tp_zero, Nat.mul_one]
  obtain ⟨r, N, hN, hpar, h1, h2⟩ := sum_form s t (V * tp (Y - X)) U
  rw [← hN]
  have ho := hc (by omega)
  have he := tp_even (by omega : 0 < Y - X) V
  exact sum_not rfl (by omega) (.inr (by omega)) hE
/-- Two of like signs that are too great together. -/
theorem like_not {s : Bool} {V U X Y E : Nat} (hV : V < pw 40) (hU : U < pw 40) (hc : 0 < X → V % 2 = 1) (hc2 : 0 < Y → U % 2 = 1) (hX : X ≤ E) (hY : Y ≤ E) (hor : X = E ∨ Y = E) (hE : E ≤ 1024) (hbig : 2 * pw 40 ≤ V * tp (E - X) + U * tp (E - Y)) : ¬ Okay (dv s V X + dv s U Y) := by
  rw [sum_scaled hX hY (by omega), ← num_like]
  refine sum_not rfl (by omega) ?_ hE
  rcases Nat.eq_zero_or_pos E with h0 | h0
  · exact .inl h0
  · right
    rcases Nat.lt_or_ge X E with h1 | h1
    · have h2 : Y = E := by omega
      subst h2
      have a := tp_even (by omega : 0 < Y - X) V
      have b := hc2 h0
      rw [Nat.sub_self, tp_zero, Nat.mul_one]
      omega
    · have h2 : X = E := by omega
      subst h2
      rcases Nat.lt_or_ge Y X with h3 | h3
      · have a := tp_even (by omega : 0 < X - Y) U
        have b := hc h0
        rw [Nat.sub_self, tp_zero, Nat.mul_one]
        omega
      · have h4 : Y = X := by omega
        subst h4
        rw [Nat.sub_self, tp_zero, Nat.mul_one, Nat.mul_one] at hbig
        omega

end Go.Proofs.YtnhnddhigbbleaaDoor


namespace Go.Proofs.YtnhnddhigbbleaaDoor
open Go.RowKit

theorem bool_of_dec {p : Prop} [Decidable p] (h : p) : decide p = true := by simp [h]
theorem bool_of_not {p : Prop} [Decidable p] (h : ¬ p) : decide p = false := by simp [h]

theorem heap3_0 (w : World) (a b c : Obj) : (((w.alloc a).alloc b).alloc c).heap[w.heap.size]? = some a :=
  (Below.heap_alloc _ c _ (by simp; omega)).trans ((Below.heap_alloc _ b _ (by simp)).trans (heap_alloc_new w a))
theorem heap3_1 (w : World) (a b c : Obj) : (((w.alloc a).alloc b).alloc c).heap[w.heap.size + 1]? = some b :=
  (Below.heap_alloc _ c _ (by simp)).trans (heap_alloc2_new w a b)
theorem heap3_2 (w : World) (a b c : Obj) : (((w.alloc a).alloc b).alloc c).heap[w.heap.size + 2]? = some c := by
  have h := heap_alloc_new ((w.alloc a).alloc b) c
  have e : ((w.alloc a).alloc b).heap.size = w.heap.size + 2 := by simp
  rwa [e] at h

section
variable (w : World) (a b c d : Obj)
theorem heap4_0 : ((((w.alloc a).alloc b).alloc c).alloc d).heap[w.heap.size]? = some a := (Below.heap_alloc _ d _ (by simp; omega)).trans (heap3_0 w a b c)
theorem heap4_1 : ((((w.alloc a).alloc b).alloc c).alloc d).heap[w.heap.size + 1]? = some b := (Below.heap_alloc _ d _ (by simp <;> omega)).trans (heap3_1 w a b c)
theorem heap4_2 : ((((w.alloc a).alloc b).alloc c).alloc d).heap[w.heap.size + 2]? = some c := (Below.heap_alloc _ d _ (by simp)).trans (heap3_2 w a b c)
theorem heap4_3 : ((((w.alloc a).alloc b).alloc c).alloc d).heap[w.heap.size + 3]? = some d := by
  have h := heap_alloc_new (((w.alloc a).alloc b).alloc c) d
  have e : (((w.alloc a).alloc b).alloc c).heap.size = w.heap.size + 3 := by simp
  rwa [e] at h
theorem below4 : Below w.heap.size w ((((w.alloc a).alloc b).alloc c).alloc d) :=
  ((((Below.refl w.heap.size w).alloc (Nat.le_refl _) a).alloc (by simp) b).alloc (by simp <;> omega) c).alloc (by simp <;> omega) d
end

/-- Block g is a dyad's. -/
def Dbox (w : World) (g : Nat) (s : Bool) (v : Value) (x : Int) : Prop := w.heap[g]? = some (.cells #[.bool s, v, .int .i64 x] 24 (0, 0))
section
variable {w w' : World} {g : Nat} {s : Bool} {v : Value} {x : Int}
theorem Dbox.lt (h : Dbox w g s v x) : g < w.heap.size := lt_of_heap h
theorem Dbox.c0 (h : Dbox w g s v x) : w.cell? ⟨g, 0, none⟩ = some (.bool s) := by rw [cell_of_row w g 0 _ _ (0, 0) h]; rfl
theorem Dbox.c1 (h : Dbox w g s v x) : w.cell? ⟨g, 1, none⟩ = some v := by rw [cell_of_row w g 1 _ _ (0, 0) h]; rfl
theorem Dbox.c2 (h : Dbox w g s v x) : w.cell? ⟨g, 2, none⟩ = some (.int .i64 x) := by rw [cell_of_row w g 2 _ _ (0, 0) h]; rfl
theorem Dbox.frozen (h : Dbox w g s v x) (j : Nat) : w.frozen? ⟨g, j, none⟩ = false := frozen_of_row w g j _ _ h
theorem Dbox.below {B : Nat} (h : Dbox w g s v x) (hb : Below B w w') (hg : g < B) : Dbox w' g s v x := (hb.block g hg).trans h
theorem Dbox.grown {k : Nat} (h : Dbox w g s v x) (hb : w.grownBy w' (some k)) (hg : g ≠ k) : Dbox w' g s v x := (hb.block g h.lt (by intro e; injection e with e; exact hg e)).trans h
end

/-- d is a dyad that may be, of the call's own, and M of it. -/
def Dn (B : Nat) (w : World) (M : Int) (d : Value) : Prop := ∃ s v x V, d = .agg #[.bool s, v, .int .i64 ((x : Nat) : Int)] ∧ Num 63 B w V v ∧ Canon s V x ∧ x ≤ 1024 ∧ dv s V x = M
/-- What is told beside an error. -/
def resD (er : Int) (M : Int) : Int := if er = 0 then M else 0
theorem resD_ok {er M : Int} (h : er = 0) : resD er M = M := if_pos h
theorem resD_bad {er M : Int} (h : er ≠ 0) : resD er M = 0 := if_neg h
/-- What a call hands back that answers a dyad and an error. -/
def DRes (w : World) (E : Int → Prop) (M : Int) (e : Ending) (w' : World) : Prop := ∃ d er, e = .returned (.tuple #[d, .int .i64 er]) ∧ Hid (E er) ∧ Hid (Dn w.heap.size w' (resD er M) d) ∧ Hid (Below w.heap.size w w')
theorem Dn.zero (B : Nat) (w : World) : Dn B w 0 (.agg #[.bool false, .slice none 0 0, .int .i64 0]) :=
  ⟨false, _, 0, 0, rfl, Num.zero _ _ _, ⟨fun _ => ⟨rfl, rfl⟩, fun h => absurd h (by omega)⟩, by omega, by simp [dv, num]⟩

theorem Val.len0 {w : World} {V n c : Nat} {A : Option Addr} (h : Val w V (.slice A n c)) : (n = 0 ↔ V = 0) := by
  obtain ⟨A', n', c', f, hv, hr, hf, rfl⟩ := h
  injection hv with _ hn _
  subst hn
  constructor
  · rintro rfl; rfl
  · intro hV
    rcases Nat.eq_zero_or_pos n with h0 | h0
    · exact h0
    · have a := vl_ge (f := f) h0 (hf.2 h0)
      have b := pw_pos (n - 1)
      omega
theorem Val.len {w : World} {V n c : Nat} {A : Option Addr} (h : Val w V (.slice A n c)) : n ≤ 40 ∧ n ≤ c := by
  obtain ⟨A', n', c', f, hv, hr, hf, rfl⟩ := h
  injection hv with _ hn hc
  subst hn hc
  exact ⟨hf.1, hr.cap⟩

/-- The world behind a dyad that is stored into its box. -/
def put3 (w : World) (g : Nat) (s : Bool) (v : Value) (x : Int) : World := ((w.setCell ⟨g, 0, none⟩ (.bool s)).setCell ⟨g, 1, none⟩ v).setCell ⟨g, 2, none⟩ (.int .i64 x)
theorem Dbox.store {w : World} {g : Nat} {s t : Bool} {v u : Value} {x y : Int} (h : Dbox w g s v x) : Dbox (put3 w g t u y) g t u y := by
  have h0 := heap_setCell_same w g 0 _ _ (.bool t) h
  have h1 := heap_setCell_same _ g 1 _ _ u h0
  exact heap_setCell_same _ g 2 _ _ (.int .i64 y) h1
theorem below_put3 {B : Nat} {w w' : World} {g : Nat} {s : Bool} {v : Value} {x : Int} (h : Below B w w') (hg : B ≤ g) : Below B w (put3 w' g s v x) :=
  ((h.setCell (p := ⟨g, 0, none⟩) hg _).setCell (p := ⟨g, 1, none⟩) hg _).setCell (p := ⟨g, 2, none⟩) hg _
theorem Num.put3 {t : TypeId} {B V g : Nat} {w : World} {v u : Value} {s : Bool} {x : Int} (h : Num t B w V v) (hg : g < B) : Num t B (put3 w g s u x) V v := ((h.set hg 0 _).set hg 1 _).set hg 2 _

theorem cells_agg_tmp {P : Program} {fn : Func} {p u : Tmp} {ty : TypeId} (h : fn.results = #[.cell p ty, .tmp u]) (tmps : Array Value) (w : World) (g : Nat) (t : TypeId) (cs : Array Value) (fr : Nat × Nat) (d : TypeDesc)
    (hp : tmps.getD p undef = .pointer (some ⟨g, 0, none⟩)) (hg : w.heap[g]? = some (.cells cs t fr))
    (hu : P.underlying ty = some d) (hd : (match d with | .struct _ | .array _ _ => true | _ => false) = true) (hi : (P.info? ty).map (·.size) = some cs.size) :
    (results fn tmps).run P w = .ok (.tuple #[.agg cs, tmps.getD u undef]) w := by
  rw [results_cell_tmp h, hp]
  simp [asAddr, Result.andThen, run_loadVar_row w g t ty cs fr d hg hu hd hi]
theorem dyad_size : (Tryd.prog.info? 24).map (·.size) = some 3 := by kernel_rfl
theorem ret_dyad {fn : Func} {R : Ending → World → Prop} {a : Act} {w : World} {p u : Tmp} {g : Nat} {s : Bool} {v er : Value} {x : Int} (h : fn.results = #[.cell p 24, .tmp u]) (hp : a.tmps.getD p undef = .pointer (some ⟨g, 0, none⟩)) (hu : a.tmps.getD u undef = er)
    (hd : a.defers = []) (hg : Dbox w g s v x) (hR : R (.returned (.tuple #[.agg #[.bool s, v, .int .i64 x], er])) w) : bodyPost Tryd.prog fn R .ret a w := by
  refine bodyPost_ret ?_ hd hR
  rw [← hu]
  exact cells_agg_tmp h a.tmps w g _ _ _ _ hp hg Tryd.underlying24 rfl dyad_size
theorem Dbox.alloc {w : World} {g : Nat} {s : Bool} {v : Value} {x : Int} (h : Dbox w g s v x) (o : Obj) : Dbox (w.alloc o) g s v x := (Below.heap_alloc w o g h.lt).trans h
theorem Num.alloc {t : TypeId} {B V : Nat} {w : World} {v : Value} (h : Num t B w V v) (o : Obj) : Num t B (w.alloc o) V v := h.below ((Below.refl w.heap.size w).alloc (Nat.le_refl _) o) (Nat.le_refl _)

theorem Dbox.drew {w : World} {g : Nat} {s : Bool} {v : Value} {x : Int} (h : Dbox w g s v x) : Dbox w.drew g s v x := h

/-- A result that lies in one variable. -/
theorem cells_agg {P : Program} {fn : Func} {p : Tmp} {ty : TypeId} (h : fn.results = #[.cell p ty]) (tmps : Array Value) (w : World) (g : Nat) (t : TypeId) (cs : Array Value) (fr : Nat × Nat) (d : TypeDesc)
    (hp : tmps.getD p undef = .pointer (some ⟨g, 0, none⟩)) (hg : w.heap[g]? = some (.cells cs t fr))
    (hu : P.underlying ty = some d) (hd : (match d with | .struct _ | .array _ _ => true | _ => false) = true) (hi : (P.info? ty).map (·.size) = some cs.size) :
    (results fn tmps).run P w = .ok (.agg cs) w := results_cell_row h tmps w g t cs fr d hp hg hu hd hi
theorem ret_one {fn : Func} {R : Ending → World → Prop} {a : Act} {w : World} {p : Tmp} {g : Nat} {s : Bool} {v : Value} {x : Int} (h : fn.results = #[.cell p 24]) (hp : a.tmps.getD p undef = .pointer (some ⟨g, 0, none⟩))
    (hd : a.defers = []) (hg : Dbox w g s v x) (hR : R (.returned (.agg #[.bool s, v, .int .i64 x])) w) : bodyPost Tryd.prog fn R .ret a w :=
  bodyPost_ret (cells_agg h a.tmps w g _ _ _ _ hp hg Tryd.underlying24 rfl dyad_size) hd hR

/-- A dyad that may be just if p, of so many parts. -/
def DArg (w : World) (p : Prop) (M : Int) (v : Value) : Prop := ∃ s A n c f x, v = .agg #[.bool s, .slice A n c, .int .i64 x] ∧ Rd w w.heap.size A n c f ∧ (p ↔ DMay s n f x) ∧ (p → ∃ X : Nat, x = (X : Int) ∧ M = dv s (vl f n) X)
theorem DArg.below {w w' : World} {p : Prop} {M : Int} {v : Value} (h : DArg w p M v) (hb : Below w.heap.size w w') : DArg w' p M v := by
  obtain ⟨s, A, n, c, f, x, hv, hr, hp, hM⟩ := h
  exact ⟨s, A, n, c, f, x, hv, (hr.below hb).mono hb.size, hp, hM⟩
theorem Dn.arg {B : Nat} {w : World} {M : Int} {v : Value} (h : Dn B w M v) : DArg w True M v := by
  obtain ⟨s, u, X, V, rfl, hn, hc, hX, hd⟩ := h
  obtain ⟨A, n, c, f, rfl, hr, hf, rfl⟩ := hn.val
  exact ⟨s, A, n, c, f, (X : Int), rfl, hr, ⟨fun _ => canon_may hf hc hX, fun _ => trivial⟩, fun _ => ⟨X, rfl, hd.symm⟩⟩
/-- The error of a call on dyads: bad ones first, then 'over'. -/
def Derrs (p : Prop) (M : Int) (er : Int) : Prop := (p → Derr M er) ∧ (¬ p → er = 8)


end Go.Proofs.YtnhnddhigbbleaaDoor

