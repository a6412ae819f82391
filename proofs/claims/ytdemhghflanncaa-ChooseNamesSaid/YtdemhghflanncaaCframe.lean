/- How a cache that came in is read. -/
import Derived.Test.YtdemhghflanncaaKframe
import Derived.Test.YtdemhghflanncaaCbox
namespace Go.Proofs.Ytdemhghflanncaa
open Go.ChangeShapes Go.WideShapes Go.ChangeAt Go.RowKit Go.Joins Go.Deep

set_option maxRecDepth 100000 in
theorem cache_in {H : Type} {enc : TypeId × Value → H} {W : World} {r : Reach} {b0 : Nat} {v : Value} {d : DataW H} {p : List MemPlace} (hval : Value.okWide Try.prog W r b0 29 v)
    (h : DataW.Trod enc Try.prog W 0 (fun _ => true) true 29 v d p) (hw : ∀ m ∈ d.weights Try.prog 29, m ≤ reachBytes) :
    ∃ o q A n c l, v = cav o q (.slice A n c) ∧ Ds W W.heap.size A n c l := by
  obtain ⟨v0, v1, v2, y0, y1, y2, m, rfl, rfl, rfl, h0, h1, h2⟩ := open_agg3 Try.underlying29 (by kernel_rfl) (by kernel_rfl) hval h
  obtain ⟨x, hx, _, _⟩ := DataW.trod_int Try.underlying3 h0
  obtain ⟨y, hy, _, _⟩ := DataW.trod_int Try.underlying3 h1
  injection hx with hx
  injection hy with hy
  subst hx hy
  have h2' := h2
  rcases open_slice_pairs Try.underlying27 Try.underlying23 (by kernel_rfl) rfl rfl (by kernel_rfl) (by kernel_rfl) h2 with ⟨hcs, _⟩ | ⟨a, len, cap, m, k, V0, V1, D0, D1, P0, P1, hcs, _, hl, hm, hmm, hx, hcell⟩
  · injection hcs with hcs
    subst hcs
    exact ⟨x, y, none, 0, 0, [], rfl, Ds.nil' W _⟩
  · injection hcs with hcs
    subst hcs
    obtain ⟨l, hl⟩ := descs_in ⟨_, h2'⟩ (fun l1 l2 hd => hw _ (by rw [hd]; simp [DataW.weights, DataW.weightsEach, Try.underlying29, Try.underlying27]))
    exact ⟨x, y, some a, len, cap, l, rfl, hl⟩
end Go.Proofs.Ytdemhghflanncaa
