/- How a dyad that came in is read. -/
import Derived.Test.YtmaggpigodkhhaaFramePlain
import Derived.Test.YtmaggpigodkhhaaDbox
import Derived.Lib.SmallJoins
namespace Go.Proofs.Ytmaggpigodkhhaa
open Go.ChangeShapes Go.WideShapes Go.ChangeAt Go.RowKit Go.Joins

set_option maxRecDepth 100000 in
theorem dyad_in {H : Type} {enc : TypeId × Value → H} {W : World} {r : Reach} {b0 : Nat} {v : Value} {d : DataW H} {p : List MemPlace} (hval : Value.okWide Try.prog W r b0 26 v)
    (h : DataW.Trod enc Try.prog W 0 (fun _ => true) true 26 v d p) (hw : ∀ m ∈ d.weights Try.prog 26, m ≤ reachBytes) :
    ∃ s A n c f x, v = .agg #[.bool s, .slice A n c, .int .i64 x] ∧ Rd W W.heap.size A n c f ∧ (A = none → n = 0 ∧ c = 0) := by
  obtain ⟨v0, v1, v2, y0, y1, y2, m, rfl, rfl, rfl, h0, h1, h2⟩ := open_agg3 Try.underlying26 (by kernel_rfl) (by kernel_rfl) hval h
  obtain ⟨s, hs, _⟩ := DataW.trod_bool Try.underlying4 h0
  obtain ⟨x, hx, _, _⟩ := DataW.trod_int Try.underlying3 h2
  injection hs with hs
  injection hx with hx
  subst hs hx
  rcases open_ints Try.underlying24 Try.underlying50 (by kernel_rfl) h1 with ⟨hcs, _⟩ | ⟨a, l, c, zs, hcs, _, hl, hm, hz, hx, hcell, hwz⟩
  · injection hcs with hcs
    subst hcs
    exact ⟨s, none, 0, 0, _, x, rfl, Rd.nil W _, fun _ => ⟨rfl, rfl⟩⟩
  · injection hcs with hcs
    subst hcs
    subst hx
    have hr := hw (((lits (H := H) .u32 (zs.take l)).length + (lits (H := H) .u32 (zs.drop l)).length) * Try.prog.bytesOf 50) (by
      simp [DataW.weights, DataW.weightsEach, Try.underlying26, Try.underlying24])
    exact ⟨s, some a, l, c, _, x, rfl, rd_of_ints hl (by simpa using hz) hr hcell hwz, fun h => by cases h⟩

theorem wf_i64 {n : Int} (h : (Lit.int .i64 n).wf = true) : -9223372036854775808 ≤ n ∧ n ≤ 9223372036854775807 := by
  have hmin : IntKind.i64.min = -9223372036854775808 := rfl
  have hmax : IntKind.i64.max = 9223372036854775807 := rfl
  simp only [Lit.wf, Bool.and_eq_true, decide_eq_true_eq] at h
  omega

end Go.Proofs.Ytmaggpigodkhhaa
