/- Bytes of a row of the call's own are written; what a written byte does to a text's number. -/
import Derived.Test.YtmaggpigodkhhaaFpure
namespace Go.Proofs.Ytmaggpigodkhhaa
open Go.RowKit

theorem xor_shift (a b k : Nat) : (a ^^^ b) * 2 ^ k = a * 2 ^ k ^^^ b * 2 ^ k := by
  rw [← Nat.shiftLeft_eq, ← Nat.shiftLeft_eq, ← Nat.shiftLeft_eq, Nat.shiftLeft_xor_distrib]
theorem cons_xor {x N : Nat} (h : x < 256) : x + 256 * N = x ^^^ N * 2 ^ 8 := by
  rw [xor_add (k := 8) (by omega)]
  omega
theorem nm_set : ∀ {xs : List Nat} {j o : Nat}, j < xs.length → (∀ x ∈ xs, x < 256) → o < 256 → nm (xs.set j (xs.getD j 0 ^^^ o)) = nm xs ^^^ o * 256 ^ j
  | [], _, _, h, _, _ => absurd h (Nat.not_lt_zero _)
  | x :: xs, 0, o, _, hx, ho => by
    have h1 := hx x List.mem_cons_self
    show (x ^^^ o) + 256 * nm xs = (x + 256 * nm xs) ^^^ o * 256 ^ 0
    rw [cons_xor (Nat.xor_lt_two_pow (n := 8) (by omega) (by omega)), cons_xor h1, Nat.pow_zero, Nat.mul_one, Nat.xor_assoc, Nat.xor_assoc, Nat.xor_comm o]
  | x :: xs, j + 1, o, h, hx, ho => by
    have h1 := hx x List.mem_cons_self
    have ih := nm_set (xs := xs) (j := j) (o := o) (by simpa using h) (fun y hy => hx y (List.mem_cons_of_mem _ hy)) ho
    show x + 256 * nm (xs.set j (xs.getD j 0 ^^^ o)) = (x + 256 * nm xs) ^^^ o * 256 ^ (j + 1)
    rw [ih, cons_xor h1, cons_xor h1, xor_shift, Nat.xor_assoc, Nat.mul_assoc, show 256 ^ j * 2 ^ 8 = 256 ^ (j + 1) from (Nat.pow_succ (n := 256) (m := j)).symm]

theorem Ow.open_ {w : World} {B n c : Nat} {A : Option Addr} {xs : List Nat} (h : Ow w B (.slice A n c) xs) (hn : 0 < n) : ∃ g, A = some ⟨g, 0, none⟩ ∧ n = xs.length ∧ n ≤ c ∧ B ≤ g ∧ g < w.heap.size ∧
    (∀ j, j < n → w.cell? ⟨g, j, none⟩ = some (.int .u8 (xs.getD j 0 : Int))) ∧ (∀ j, w.frozen? ⟨g, j, none⟩ = false) := by
  obtain ⟨hl, hb⟩ := h.by_
  obtain ⟨⟨_, hor⟩, hlt, hmax⟩ := h
  rcases hor with ⟨e, h0⟩ | ⟨g, cap, cur, e, hg, hh, hn2, hc, hs, ht⟩
  · injection e with e1 e2 e3
    omega
  · injection e with e1 e2 e3
    subst e1
    refine ⟨g, rfl, hl, by omega, hg, lt_of_heap hh, fun j hj => ?_, fun j => frozen_of_row w g j cur 5 hh⟩
    obtain ⟨b', off', e, _, hcc⟩ := hb.at_ hn
    injection e with e
    injection e with f1 f2
    subst f1
    subst f2
    have hx : xs[j]? = some (xs.getD j 0) := by
      rw [List.getD_eq_getElem?_getD, List.getElem?_eq_getElem (by omega)]; rfl
    have := hcc j _ hx
    rwa [Nat.zero_add] at this
theorem Ow.set {w : World} {B g n c : Nat} {xs : List Nat} (h : Ow w B (.slice (some ⟨g, 0, none⟩) n c) xs) (j : Nat) {y : Nat} (hy : y < 256) : Ow (w.setCell ⟨g, j, none⟩ (.int .u8 (y : Int))) B (.slice (some ⟨g, 0, none⟩) n c) (xs.set j y) := by
  obtain ⟨hl, hb⟩ := h.by_
  obtain ⟨⟨hlen, hor⟩, hlt, hmax⟩ := h
  rcases hor with ⟨e, h0⟩ | ⟨g', cap, cur, e, hg, hh, hn2, hc, hs, ht⟩
  · cases e
  · injection e with e1 e2 e3
    injection e1 with e1
    injection e1 with f1 f2
    subst f1
    subst e3
    refine ⟨⟨by rw [vals_length, List.length_set, Nat.mul_one], .inr ⟨g, c, cur.setIfInBounds j (.int .u8 (y : Int)), by rw [List.length_set, hl], hg, heap_setCell_same w g j cur 5 _ hh, by rw [List.length_set]; exact hn2, hc, by simpa using hs, ?_⟩⟩, ?_, by rw [List.length_set]; exact hmax⟩
    · rw [Array.toList_setIfInBounds, List.length_set, List.take_set, ht]
      unfold vals
      rw [List.map_set]
    · intro x hx
      rcases List.mem_or_eq_of_mem_set hx with h1 | rfl
      · exact hlt x h1
      · exact hy

theorem By.nth {w : World} {B n c : Nat} {A : Option Addr} {xs : List Nat} (h : By w B A n c xs) (j : Nat) : xs.getD j 0 < 256 := by
  rw [List.getD_eq_getElem?_getD]
  cases hx : xs[j]? with
  | none => show 0 < 256; omega
  | some x => exact h.lt x (List.mem_of_getElem? hx)

end Go.Proofs.Ytmaggpigodkhhaa
