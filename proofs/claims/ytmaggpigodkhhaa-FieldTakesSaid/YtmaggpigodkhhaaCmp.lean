/- Contracts: compare, Cmp, slices.Equal, Same. -/
import Derived.Test.YtmaggpigodkhhaaCut
namespace Go.Proofs.Ytmaggpigodkhhaa
open Go.RowKit

/-- A number is handed back, and memory has not turned (but for draws). -/
def Told (w : World) (r : Int) (e : Ending) (w' : World) : Prop := e = .returned (.int .i64 r) ∧ ∃ q, w.drewN q = w'

/-- Cmp's answer. -/
def cmpErr (n : Nat) (f : Nat → Nat) (m : Nat) (h : Nat → Nat) : Int := if Fit n f ∧ Fit m h then 0 else 8
def cmpRes (n : Nat) (f : Nat → Nat) (m : Nat) (h : Nat → Nat) : Int := if Fit n f ∧ Fit m h then cmpN (vl f n) (vl h m) else 0

def TwoInts (w : World) (a b : Int) (e : Ending) (w' : World) : Prop := e = .returned (.tuple #[.int .i64 a, .int .i64 b]) ∧ Below w.heap.size w w'

theorem cell_row2_0 (w : World) (a b : Value) (t : TypeId) : (w.alloc (.cells #[a, b] t)).cell? ⟨w.heap.size, 0, none⟩ = some a := by
  rw [World.cell?_alloc_at _ _ _ _ rfl]; rfl
theorem cell_row2_1 (w : World) (a b : Value) (t : TypeId) : (w.alloc (.cells #[a, b] t)).cell? ⟨w.heap.size, 1, none⟩ = some b := by
  rw [World.cell?_alloc_at _ _ _ _ rfl]; rfl
theorem cell_row1_0 (w : World) (a : Value) (t : TypeId) : (w.alloc (.cells #[a] t)).cell? ⟨w.heap.size, 0, none⟩ = some a := by
  rw [World.cell?_alloc_at _ _ _ _ rfl]; rfl

theorem below_told {w0 w w' : World} {r : Int} {e : Ending} (h : Told w r e w') (hb : Below w0.heap.size w0 w) : Below w0.heap.size w0 w' := by
  obtain ⟨_, q, rfl⟩ := h
  exact below_drewN hb q

/-- A bool that tells p is handed back, and memory has not turned (but for draws). -/
def Tells (w : World) (p : Prop) (e : Ending) (w' : World) : Prop := ∃ r : Bool, e = .returned (.bool r) ∧ (r = true ↔ p) ∧ ∃ q, w.drewN q = w'

theorem Tells.of {w : World} {p q : Prop} {e : Ending} {w' : World} (h : Tells w p e w') (hpq : p ↔ q) : Tells w q e w' := by
  obtain ⟨r, he, hr, hw⟩ := h
  exact ⟨r, he, hr.trans hpq, hw⟩

end Go.Proofs.Ytmaggpigodkhhaa
