/- What the listed table gives. -/
import Derived.Test.YtbpijlghdpflgaaDoorYframe
import Derived.Test.YtbpijlghdpflgaaDoorYbt
import Derived.LaidMore
import Derived.Lib.LaidTab
namespace Go.Proofs.YtbpijlghdpflgaaDoor
open Go.ChangeShapes Go.WideShapes Go.ChangeAt Go.RowKit

theorem gTab : Tryd.prog.globalNamed "math/bits.deBruijn32tab" = some 0 := by kernel_rfl
theorem tTab : (Tryd.prog.globals[0]?).map (·.type) = some 72 := by kernel_rfl
def seatLaid : List (String × DataW Unit) := [("math/bits.deBruijn32tab", Rows.laid_math_bits_deBruijn32tab)]

/-- The door's own heap meets the condition. -/
theorem door_met (os : Os) (args : Array Value) : laidMetH Tryd.prog seatLaid ((World.doorLaid Tryd.prog 400 os).forCall (fun _ _ => 0) ⟨#[], args, []⟩).memory :=
  laidMetH_of_parts3 (fuel := 8) (laidMet_of_run' 8 (by kernel_rfl) (by kernel_rfl)) (by kernel_rfl) (by kernel_rfl)

theorem tab_of_laid {W : World} (h : laidMetH Tryd.prog seatLaid W) : Tab W := by
  rw [MakeChecks.laidMetH_plain _ _ _ (by kernel_rfl)] at h
  have h2 : laidMet Tryd.prog [("math/bits.deBruijn32tab", Lib.tabData .u8 (Lib.deBruijn32tab.map fun x : Nat => (x : Int)))] W := h
  have ht := Lib.tabIs_of_head gTab tTab Tryd.underlying72 Tryd.underlying5 (by kernel_rfl) (by kernel_rfl) h2
  intro j hj
  have hl : Lib.deBruijn32tab.length = 32 := by decide
  have := ht.cell gTab j (by rw [List.length_map, hl]; exact hj)
  rw [this, List.getD_eq_getElem?_getD, List.getElem?_map, List.getD_eq_getElem?_getD, List.getElem?_eq_getElem (by rw [hl]; exact hj)]
  rfl

end Go.Proofs.YtbpijlghdpflgaaDoor
