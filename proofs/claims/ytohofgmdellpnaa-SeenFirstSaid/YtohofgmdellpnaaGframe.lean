/- How a list of int that came in is read. -/
import Derived.Test.YtohofgmdellpnaaRows
import Derived.Test.YtohofgmdellpnaaGi
import Derived.WalkKit
import Derived.ProofKit
import Derived.OpenShut
import Derived.ShutString
import Derived.ChangeOld
import Derived.Below
import Derived.SizedLaws
import Derived.Lib.SmallJoins
namespace Go.Proofs.Ytohofgmdellpnaa
open Go.ChangeShapes Go.WideShapes Go.ChangeAt Go.RowKit Go.Joins Go.Deep

theorem own : ownKnob Try.prog.godebug = none := by kernel_rfl
theorem laidOut : laidOutB Try.prog = true := by kernel_rfl
theorem bytes_int : Try.prog.bytesOf 3 = 8 := by kernel_rfl
theorem is_in {H : Type} {enc : TypeId × Value → H} {W : World} {A : Option Addr} {n c : Nat} {d : DataW H} {p : List MemPlace}
    (h : DataW.Trod enc Try.prog W 0 (fun _ => true) true 22 (.slice A n c) d p) (hw : ∀ l1 l2, d = .slice l1 l2 → (l1.length + l2.length) * Try.prog.bytesOf 3 ≤ reachBytes) :
    ∃ l, Gs W W.heap.size A n c 1 (cellsI l) := by
  obtain ⟨fuel, hf⟩ := h
  rcases open_ints Try.underlying22 Try.underlying3 (by kernel_rfl) hf with ⟨hcs, _⟩ | ⟨x, l, c', zs, hcs, _, hl, hm, hz, hx, hcell, hwz⟩
  · simp [Value.cells] at hcs
    obtain ⟨rfl, rfl, rfl⟩ := hcs
    exact ⟨[], Gs.nil' W _ _⟩
  · simp [Value.cells] at hcs
    obtain ⟨rfl, rfl, rfl⟩ := hcs
    simp only [Prod.mk.injEq] at hx
    have hr := hw _ _ hx.1
    rw [bytes_int] at hr
    have hzc : zs.length = c := by simpa using hz
    simp only [lits, List.length_map, List.length_take, List.length_drop, reachBytes] at hr
    refine ⟨zs.take n, by rw [cellsI_length, List.length_take]; omega, hl, by omega, fun e => (by cases e), fun h0 => ?_⟩
    obtain ⟨b, off, spot⟩ := x
    have c0 := hcell 0 (by omega)
    have hspot : spot = none := by simpa [Addr.add] using World.cell?_spot c0
    subst hspot
    rw [Addr.add_lit] at c0
    refine ⟨b, off, rfl, block_lt_of_cell c0, fun j y hj => ?_⟩
    have hjl := (List.getElem?_eq_some_iff.1 hj).1
    rw [cellsI_length, List.length_take] at hjl
    have hzj : zs[j]? = some (zs[j]'(by omega)) := List.getElem?_eq_getElem _
    have h1 := hcell j (by omega)
    rw [Addr.add_lit] at h1
    have h2 : zs.getD j 0 = zs[j]'(by omega) := by simp [List.getD_eq_getElem?_getD, hzj]
    rw [h2] at h1
    have h3 := cellsI_get (l := zs.take n) (j := j) (d := zs[j]'(by omega)) (by rw [List.getElem?_take, if_pos (by omega), hzj])
    rw [hj] at h3
    injection h3 with h3
    rw [h1, h3]
end Go.Proofs.Ytohofgmdellpnaa
