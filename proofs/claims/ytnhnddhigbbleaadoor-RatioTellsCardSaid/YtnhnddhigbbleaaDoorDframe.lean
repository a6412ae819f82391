/- How a dyad that came in is read. -/
import Derived.Test.YtnhnddhigbbleaaDoorFrame
import Derived.Test.YtnhnddhigbbleaaDoorRg
import Derived.Lib.SmallJoins
namespace Go.Proofs.YtnhnddhigbbleaaDoor
open Go.ChangeShapes Go.WideShapes Go.ChangeAt Go.RowKit Go.Joins

set_option maxRecDepth 100000 in
theorem dyad_in {H : Type} {enc : TypeId × Value → H} {W : World} {r : Reach} {b0 : Nat} {v : Value} {d : DataW H} {p : List MemPlace} (hval : Value.okWide Tryd.prog W r b0 24 v)
    (h : DataW.Trod enc Tryd.prog W 0 (fun _ => true) true 24 v d p) (hw : ∀ m ∈ d.weights Tryd.prog 24, m ≤ reachBytes) :
    ∃ s A n c f x, v = .agg #[.bool s, .slice A n c, .int .i64 x] ∧ Rd W W.heap.size A n c f ∧ (A = none → n = 0 ∧ c = 0) := by
  obtain ⟨v0, v1, v2, y0, y1, y2, m, rfl, rfl, rfl, h0, h1, h2⟩ := open_agg3 Tryd.underlying24 (by kernel_rfl) (by kernel_rfl) hval h
  obtain ⟨s, hs, _⟩ := DataW.trod_bool Tryd.underlying4 h0
  obtain ⟨x, hx, _, _⟩ := DataW.trod_int Tryd.underlying3 h2
  injection hs with hs
  injection hx with hx
  subst hs hx
  rcases open_ints Tryd.underlying22 Tryd.underlying63 (by kernel_rfl) h1 with ⟨hcs, _⟩ | ⟨a, l, c, zs, hcs, _, hl, hm, hz, hx, hcell, hwz⟩
  · injection hcs with hcs
    subst hcs
    exact ⟨s, none, 0, 0, _, x, rfl, Rd.nil W _, fun _ => ⟨rfl, rfl⟩⟩
  · injection hcs with hcs
    subst hcs
    subst hx
    have hr := hw (((lits (H := H) .u32 (zs.take l)).length + (lits (H := H) .u32 (zs.drop l)).length) * Tryd.prog.bytesOf 63) (by
      simp [DataW.weights, DataW.weightsEach, Tryd.underlying24, Tryd.underlying22])
    exact ⟨s, some a, l, c, _, x, rfl, rd_of_ints hl (by simpa using hz) hr hcell hwz, fun h => by cases h⟩

end Go.Proofs.YtnhnddhigbbleaaDoor
