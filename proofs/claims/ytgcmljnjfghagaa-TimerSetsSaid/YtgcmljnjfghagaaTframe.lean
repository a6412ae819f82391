/- How descriptors, and lists of them, that came in are read. -/
import Derived.Test.YtgcmljnjfghagaaRows
import Derived.Test.YtgcmljnjfghagaaTds
import Derived.WalkKit
import Derived.ProofKit
import Derived.OpenShut
import Derived.ShutString
import Derived.ChangeOld
import Derived.Below
import Derived.SizedLaws
import Derived.Lib.SmallJoins
import Derived.Deep.SlicePairs
namespace Go.Proofs.Ytgcmljnjfghagaa
open Go.ChangeShapes Go.WideShapes Go.ChangeAt Go.RowKit Go.Joins Go.Deep

theorem own : ownKnob Try.prog.godebug = none := by kernel_rfl
theorem laidOut : laidOutB Try.prog = true := by kernel_rfl
end Go.Proofs.Ytgcmljnjfghagaa
namespace Go.Proofs.Ytgcmljnjfghagaa.Tm
open Go.ChangeShapes Go.WideShapes Go.ChangeAt Go.RowKit Go.Joins Go.Deep
theorem bytes_de : Try.prog.bytesOf 23 = 16 := by kernel_rfl

set_option maxRecDepth 100000 in
theorem desc_in {H : Type} {enc : TypeId × Value → H} {W : World} {r : Reach} {b0 : Nat} {v : Value} {d : DataW H} {p : List MemPlace} (hval : Value.okWide Try.prog W r b0 23 v)
    (h : DataW.Trod enc Try.prog W 0 (fun _ => true) true 23 v d p) : ∃ x : De, v = dv x := by
  obtain ⟨v0, v1, y0, y1, m, rfl, rfl, rfl, h0, h1⟩ := open_agg2 Try.underlying23 (by kernel_rfl) (by kernel_rfl) hval h
  obtain ⟨a, ha, _, _⟩ := DataW.trod_int Try.underlying3 h0
  obtain ⟨b, hb, _, _⟩ := DataW.trod_int Try.underlying3 h1
  injection ha with ha
  injection hb with hb
  subst ha hb
  exact ⟨(a, b), rfl⟩

theorem descs_in {H : Type} {enc : TypeId × Value → H} {W : World} {A : Option Addr} {n c : Nat} {d : DataW H} {p : List MemPlace}
    (h : DataW.Trod enc Try.prog W 0 (fun _ => true) true 27 (.slice A n c) d p) (hw : ∀ l1 l2, d = .slice l1 l2 → (l1.length + l2.length) * Try.prog.bytesOf 23 ≤ reachBytes) :
    ∃ l, Ds W W.heap.size A n c l := by
  obtain ⟨fuel, hf⟩ := h
  rcases open_slice_pairs Try.underlying27 Try.underlying23 (by kernel_rfl) rfl rfl (by kernel_rfl) (by kernel_rfl) hf with ⟨hcs, _⟩ | ⟨a, len, cap, m, k, V0, V1, D0, D1, P0, P1, hcs, _, hl, hm, hmm, hx, hcell⟩
  · simp [Value.cells] at hcs
    obtain ⟨rfl, rfl, rfl⟩ := hcs
    exact ⟨[], Ds.nil' W _⟩
  · simp [Value.cells] at hcs
    obtain ⟨rfl, rfl, rfl⟩ := hcs
    simp only [Prod.mk.injEq] at hx
    have hr := hw _ _ hx.1
    rw [bytes_de] at hr
    simp only [List.length_map, List.length_range, reachBytes] at hr
    simp only [if_true] at hmm
    have hints : ∀ i, i < n → ∃ e : De, W.cell? (a.add (i * 2)) = some (.int .i64 e.1) ∧ W.cell? (a.add (i * 2 + 1)) = some (.int .i64 e.2) := fun i hi => by
      obtain ⟨c0, c1, t0, t1⟩ := hcell i (by omega)
      obtain ⟨x, hx0, _, _⟩ := DataW.trod_int Try.underlying3 t0
      obtain ⟨y, hy0, _, _⟩ := DataW.trod_int Try.underlying3 t1
      injection hx0 with hx0
      injection hy0 with hy0
      rw [hx0] at c0
      rw [hy0] at c1
      exact ⟨(x, y), c0, c1⟩
    obtain ⟨f, hfc⟩ := choose_lt hints
    refine ⟨(List.range n).map f, by simp, hl, by omega, fun e => (by cases e), fun h0 => ?_⟩
    obtain ⟨b, off, spot⟩ := a
    have hspot : spot = none := by simpa [Addr.add] using World.cell?_spot (hfc 0 h0).1
    subst hspot
    have e0 := (hfc 0 h0).1
    rw [Addr.add_lit] at e0
    refine ⟨b, off, rfl, block_lt_of_cell e0, fun j d hj => ?_⟩
    obtain ⟨hjl, hjd⟩ := List.getElem?_eq_some_iff.1 hj
    have hjn : j < n := by simpa using hjl
    have hd : f j = d := by rw [← hjd]; simp
    have := hfc j hjn
    rw [Addr.add_lit, Addr.add_lit, hd] at this
    exact ⟨this.1, by rw [Nat.add_assoc]; exact this.2⟩
end Go.Proofs.Ytgcmljnjfghagaa.Tm
