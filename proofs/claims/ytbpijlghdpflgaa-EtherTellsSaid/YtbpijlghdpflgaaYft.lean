/- Ether: the document's Fits and Turned. -/
import Derived.Test.YtbpijlghdpflgaaYtk2
namespace Go.Proofs.Ytbpijlghdpflgaa.Eth
open Go.RowKit Go.Shelf Go.Lib

theorem bit_of (m k : Nat) : ((m : Int) / 2 ^ k).tmod 2 = ((m / 2 ^ k % 2 : Nat) : Int) := by
  have h1 : ((m : Int) / 2 ^ k) = ((m / 2 ^ k : Nat) : Int) := by
    rw [Int.natCast_ediv, Int.natCast_pow]
    rfl
  rw [h1]
  rfl
/-- A cell of an own row is written over. -/
theorem gw_set1 {w : World} {B g n c : Nat} {e : TypeId} {cs : List Value} (h : Gw w B e 1 (.slice (some ⟨g, 0, none⟩) n c) n cs) (i : Nat) (hi : i < n) (u : Value) : Gw (w.setCell ⟨g, i, none⟩ u) B e 1 (.slice (some ⟨g, 0, none⟩) n c) n (cs.set i u) ∧ Gq g w (w.setCell ⟨g, i, none⟩ u) ∧ w.cell? ⟨g, i, none⟩ = cs[i]? ∧ w.frozen? ⟨g, i, none⟩ = false ∧ B ≤ g := by
  obtain ⟨⟨hl, hor⟩, hm⟩ := h
  rcases hor with ⟨e0, _⟩ | ⟨g', cap, cur, e0, hB, hg, hn, hc, hs, ht⟩
  · cases e0
  · injection e0 with e1 e2 e3
    injection e1 with e1
    injection e1 with e1 _ _
    subst e1 e3
    refine ⟨⟨⟨by rw [List.length_set]; exact hl, .inr ⟨g, c, _, rfl, hB, heap_setCell_same w g i cur _ u hg, hn, hc, by simpa using hs, ?_⟩⟩, hm⟩, ⟨rfl, rfl, rfl, by simp [World.setCell], fun b hb => Below.heap_setCell _ ⟨g, i, none⟩ _ b hb⟩, ?_, frozen_of_row w g i _ _ hg, hB⟩
    · rw [Array.toList_setIfInBounds, List.take_set, ht]
    · rw [cell_of_row w g i cur _ (0, 0) hg, ← ht, List.getElem?_take, if_pos (by omega), Array.getElem?_toList]

theorem xor_u8 {x j : Nat} (hx : x < 256) (hj : j < 8) : bits BinOp.xor IntKind.u8 (x : Int) (2 ^ j % 256) = ((x ^^^ 2 ^ j : Nat) : Int) := by
  have h2 : 2 ^ j < 256 := Nat.lt_of_lt_of_eq (Nat.pow_lt_pow_right (a := 2) (by omega) hj) (by decide)
  have h3 : (2 : Int) ^ j = ((2 ^ j : Nat) : Int) := by rw [Int.natCast_pow]; rfl
  have h1 : (2 : Int) ^ j % 256 = ((2 ^ j : Nat) : Int) := by
    rw [h3]
    exact Int.emod_eq_of_lt (Int.natCast_nonneg _) (Int.ofNat_lt.2 h2)
  rw [h1]
  exact u8_xor_nat x (2 ^ j) hx h2
theorem trn_no (t : List Nat) (a : Nat) {m k : Nat} (ho : ¬ one m k) : trn t a m (k + 1) = trn t a m k := if_neg ho
/-- What Turned leaves. -/
def TurR (w : World) (n : Nat) (t : List Nat) (e : Ending) (w' : World) : Prop := ∃ g c', e = .returned (.slice (some ⟨g, 0, none⟩) n c') ∧ Hid (Gw w' w.heap.size 5 1 (.slice (some ⟨g, 0, none⟩) n c') n (cellsB t) ∧ Below w.heap.size w w')
end Go.Proofs.Ytbpijlghdpflgaa.Eth
