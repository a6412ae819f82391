/- The document's Add, Sub, Half. -/
import Derived.Test.YtnhnddhigbbleaaDoorEplus
import Derived.Test.YtnhnddhigbbleaaDoorEform
namespace Go.Proofs.YtnhnddhigbbleaaDoor
open Go.RowKit

theorem Sg.alloc {w : World} {L : Nat} {M : Int} {v : Value} (h : Sg w L M v) (o : Obj) : Sg (w.alloc o) L M v := h.below ((Below.refl _ _).alloc (Nat.le_refl _) o)
theorem Sg.below2 {w w' : World} {L : Nat} {M : Int} {v : Value} {o : Obj} (h : Sg w L M v) (hb : Below (w.alloc o).heap.size (w.alloc o) w') : Sg w' L M v := (h.alloc o).below hb
theorem box_of {X w' : World} (hb : Below (X.alloc (.cells #[.bool false, .slice none 0 0, .int .i64 0] 24)).heap.size (X.alloc (.cells #[.bool false, .slice none 0 0, .int .i64 0] 24)) w') : ∃ g, g = X.heap.size ∧ Dbox w' g false (.slice none 0 0) 0 :=
  ⟨_, rfl, Dbox.below (heap_alloc_new X _) hb (by simp)⟩
theorem Dv.store {w : World} {M : Int} {d : Value} {g : Nat} {s t : Bool} {D : Option Addr} {m k : Nat} {x y : Int} {u : Value} (h : Dv w M d) (hg : Dbox w g s (.slice D m k) x) : Dv (put3 w g t u y) M d := by
  obtain ⟨s', v, X, V, hd, hn, hc, hx, hM⟩ := h
  obtain ⟨A, n, c, f, rfl, hr, hf, hV⟩ := hn
  exact ⟨s', _, X, V, hd, ⟨A, n, c, f, rfl, hr.stay hg, hf, hV⟩, hc, hx, hM⟩
theorem Dv.alloc {w : World} {M : Int} {d : Value} (h : Dv w M d) (o : Obj) : Dv (w.alloc o) M d := h.below ((Below.refl _ _).alloc (Nat.le_refl _) o)


theorem half_eq {s : Bool} {V X : Nat} (hX : X ≤ 1024) : 2 * num s (V * tp (4000 - (X + 1))) = dv s V X := by
  unfold dv
  rw [show 4000 - X = (4000 - (X + 1)) + 1 by omega, tp_succ, ← Nat.mul_assoc]
  generalize V * tp (4000 - (X + 1)) = a
  cases s <;> simp [num] <;> omega
end Go.Proofs.YtnhnddhigbbleaaDoor
