/- Seen: alive and SeenNames. -/
import Derived.Test.YtohofgmdellpnaaSpt
namespace Go.Proofs.Ytohofgmdellpnaa.Seen
open Go.RowKit Go.Shelf Go.Lib

/-- Put of a list of its own kind, at a number: what it answers, laid. -/
theorem put_at {w : World} {B n c : Nat} {A : Option Addr} {l : List Int} (h : Gs w B A n c 1 (cellsI l)) (hB : B ≤ w.heap.size) (x : Int) {q : Int} {r : List Int} (hq : ptE l x = q) (hr : ptL l x = r) :
    Calls Try.prog 8 #[.slice A n c, .int .i64 x] w fun e w' => ∃ A' n' c', e = .returned (.tuple #[.slice A' n' c', .int .i64 q]) ∧ Hid (Gs w' w'.heap.size A' n' c' 1 (cellsI r) ∧ Below w.heap.size w w' ∧ n' = r.length) := by
  refine (put_any h hB x).mono ?_
  rintro e w1 ⟨v, rfl, hv⟩
  obtain ⟨A', n', c', rfl, _, h2, _⟩ := hv.out.1.form
  rw [hr] at h2
  exact ⟨A', n', c', by rw [hq], hid ⟨h2, hv.out.2, h2.ilen.symm⟩⟩

set_option maxHeartbeats 6400000 in
set_option maxRecDepth 100000 in
theorem alive_any (w : World) : Calls Try.prog 11 #[] w fun e w' => e = .returned (.bool true) ∧ Hid (Below w.heap.size w w') := by
  go_enter Try.func11, Try.ntmps11
  go_wp2_with fail
  refine (put_at (l := [1, 4, 6]) (gi_new w [1, 4, 6] 3 (by decide)) (Nat.le_refl _) 5 (q := 0) (r := [1, 4, 5, 6]) (by decide) (by decide)).mono ?_
  rintro e w1 ⟨A1, n1, c1, rfl, h1⟩
  have B1 := hid (((Below.refl _ w).alloc (Nat.le_refl w.heap.size) (.cells #[.int .i64 1, .int .i64 4, .int .i64 6] 3)).trans (h1.out.2.1.mono (by simp)))
  go_wp2_with fail
  refine (below_any (l := [1, 4, 5, 6]) h1.out.1 (Nat.le_refl _) 5).mono ?_
  rw [show beA [1, 4, 5, 6] 5 = 2 by decide, show fiE [1, 4, 5, 6] 5 = 0 by decide]
  rintro e w2 ⟨rfl, h2⟩
  have B2 := hid (gbelow_on B1.out (Nat.le_refl _) h2.out)
  have G2 := hid (h1.out.1.on (Nat.le_refl _) h2.out)
  clear h1 B1 h2
  go_wp2_with fail
  refine (first_any (l := [0, 1, 3]) (gi_new w2 [0, 1, 3] 3 (by decide)) (Nat.le_refl _)).mono ?_
  rw [show fsA [0, 1, 3] = 2 by decide, show schk [0, 1, 3] = 0 by decide]
  rintro e w3 ⟨rfl, h3⟩
  have b3 := hid (((Below.refl _ w2).alloc (Nat.le_refl w2.heap.size) (.cells #[.int .i64 0, .int .i64 1, .int .i64 3] 3)).trans (h3.out.mono (by simp)))
  have B3 := hid (gbelow_on B2.out (Nat.le_refl _) b3.out)
  have G3 := hid (G2.out.on (Nat.le_refl _) b3.out)
  clear h3 B2 b3 G2
  go_wp2_with fail
  refine (put_at (l := [1, 4]) (gi_new w3 [1, 4] 3 (by decide)) (Nat.le_refl _) 4 (q := 12) (r := []) (by decide) (by decide)).mono ?_
  rintro e w4 ⟨A4, n4, c4, rfl, h4⟩
  have b4 := hid (((Below.refl _ w3).alloc (Nat.le_refl w3.heap.size) (.cells #[.int .i64 1, .int .i64 4] 3)).trans (h4.out.2.1.mono (by simp)))
  have B4 := hid (gbelow_on B3.out (Nat.le_refl _) b4.out)
  have G4 := hid (G3.out.on (Nat.le_refl _) b4.out)
  have b5 := hid ((Below.refl w4.heap.size w4).alloc (Nat.le_refl w4.heap.size) (.cells #[.int .i64 1, .int .i64 4, .int .i64 5, .int .i64 6] 3))
  have CS := hid (same_any (l := [1, 4, 5, 6]) (r := [1, 4, 5, 6]) (G4.out.on (Nat.le_refl _) b5.out) (gi_new w4 [1, 4, 5, 6] 3 (by decide)) (Nat.le_refl _) (Nat.le_refl _))
  rw [decide_eq_true rfl] at CS
  clear h4 B3 b4 G3
  go_wp2_with fail
  refine CS.out.mono ?_
  rintro e w5 ⟨rfl, h5⟩
  have B5 := hid (gbelow_on (gbelow_on B4.out (Nat.le_refl _) b5.out) (Nat.le_refl _) h5.out)
  clear CS
  go_wp2
  go_ret
  exact ⟨rfl, B5⟩
end Go.Proofs.Ytohofgmdellpnaa.Seen
