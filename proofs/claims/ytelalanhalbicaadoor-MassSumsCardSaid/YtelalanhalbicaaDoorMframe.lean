/- How a mass that came in is read. -/
import Derived.Test.YtelalanhalbicaaDoorDframe
import Derived.Test.YtelalanhalbicaaDoorMcheck
namespace Go.Proofs.YtelalanhalbicaaDoor
open Go.ChangeShapes Go.WideShapes Go.ChangeAt Go.RowKit Go.Joins Go.Deep

theorem list12 {α : Type} {l : List α} (h : l.length = 12) : ∃ a0 a1 a2 a3 a4 a5 a6 a7 a8 a9 a10 a11, l = [a0, a1, a2, a3, a4, a5, a6, a7, a8, a9, a10, a11] := by
  match l, h with
  | [a0, a1, a2, a3, a4, a5, a6, a7, a8, a9, a10, a11], _ => exact ⟨a0, a1, a2, a3, a4, a5, a6, a7, a8, a9, a10, a11, rfl⟩

set_option maxRecDepth 100000 in
theorem dyad_read {H : Type} {enc : TypeId × Value → H} {W : World} {n : Nat} {c0 c1 c2 : Value} {y : DataW H × List MemPlace} (h : DataW.trod enc Tryd.prog W 0 (fun _ => true) true n 24 [c0, c1, c2] = some y) (hw : ∀ m ∈ y.1.weights Tryd.prog 24, m ≤ reachBytes) :
    ∃ d : Dy, c0 = .bool d.s ∧ c1 = .slice d.A d.n d.c ∧ c2 = .int .i64 d.x ∧ Rd W W.heap.size d.A d.n d.c d.f ∧ (d.A = none → d.n = 0 ∧ d.c = 0) := by
  obtain ⟨y0, y1, y2, n', hx, _, h0, h1, h2⟩ := trod_struct3 Tryd.underlying24 h
  have k0 : DataW.trod enc Tryd.prog W 0 (fun _ => true) true n' 4 [c0] = some y0 := h0
  have k1 : DataW.trod enc Tryd.prog W 0 (fun _ => true) true n' 22 [c1] = some y1 := h1
  have k2 : DataW.trod enc Tryd.prog W 0 (fun _ => true) true n' 3 [c2] = some y2 := h2
  obtain ⟨s, hs, _⟩ := DataW.trod_bool Tryd.underlying4 k0
  obtain ⟨x, hx2, _, _⟩ := DataW.trod_int Tryd.underlying3 k2
  injection hs with hs
  injection hx2 with hx2
  subst hs hx2
  rcases open_ints Tryd.underlying22 Tryd.underlying71 (by kernel_rfl) k1 with ⟨hcs, _⟩ | ⟨a, l, c, zs, hcs, _, hl, hm, hz, hx1, hcell, hwz⟩
  · injection hcs with hcs
    subst hcs
    exact ⟨⟨s, none, 0, 0, x, _⟩, rfl, rfl, rfl, Rd.nil W _, fun _ => ⟨rfl, rfl⟩⟩
  · injection hcs with hcs
    subst hcs
    subst hx1
    subst hx
    have hr := hw (((lits (H := H) .u32 (zs.take l)).length + (lits (H := H) .u32 (zs.drop l)).length) * Tryd.prog.bytesOf 71) (by
      simp [DataW.weights, DataW.weightsEach, Tryd.underlying24, Tryd.underlying22])
    exact ⟨⟨s, some a, l, c, x, _⟩, rfl, rfl, rfl, rd_of_ints hl (by simpa using hz) hr hcell hwz, fun h => by cases h⟩

set_option maxRecDepth 100000 in
theorem mass_in {H : Type} {enc : TypeId × Value → H} {W : World} {r : Reach} {b0 : Nat} {v : Value} {d : DataW H} {p : List MemPlace} (hval : Value.okWide Tryd.prog W r b0 26 v)
    (h : DataW.Trod enc Tryd.prog W 0 (fun _ => true) true 26 v d p) (hw : ∀ m ∈ d.weights Tryd.prog 26, m ≤ reachBytes) :
    ∃ D, v = .agg (mcells D) ∧ Mrd W W.heap.size D ∧ ∀ k, k < 4 → (D k).A = none → (D k).n = 0 ∧ (D k).c = 0 := by
  obtain ⟨cs, rfl, hsz⟩ := okWide_struct Tryd.underlying26 hval
  have h12 : cs.toList.length = 12 := by rw [Array.length_toList, hsz]; kernel_rfl
  obtain ⟨a0, a1, a2, a3, a4, a5, a6, a7, a8, a9, a10, a11, hl⟩ := list12 h12
  obtain ⟨fuel, hf⟩ := h
  have hf2 : DataW.trod enc Tryd.prog W 0 (fun _ => true) true fuel 26 [a0, a1, a2, a3, a4, a5, a6, a7, a8, a9, a10, a11] = some (d, p) := by rw [← hl]; exact hf
  obtain ⟨y0, y1, y2, y3, n, hx, _, h0, h1, h2, h3⟩ := trod_struct4 Tryd.underlying26 hf2
  simp only [Prod.mk.injEq] at hx
  obtain ⟨rfl, rfl⟩ := hx
  have w4 : ∀ m, (m ∈ y0.1.weights Tryd.prog 24 ∨ m ∈ y1.1.weights Tryd.prog 24 ∨ m ∈ y2.1.weights Tryd.prog 24 ∨ m ∈ y3.1.weights Tryd.prog 24) → m ≤ reachBytes := fun m hm => hw m (by
    simpa [DataW.weights, DataW.weightsEach, Tryd.underlying26] using hm)
  obtain ⟨d0, e00, e01, e02, r0, n0⟩ := dyad_read (c0 := a0) (c1 := a1) (c2 := a2) h0 (fun m hm => w4 m (.inl hm))
  obtain ⟨d1, e10, e11, e12, r1, n1⟩ := dyad_read (c0 := a3) (c1 := a4) (c2 := a5) h1 (fun m hm => w4 m (.inr (.inl hm)))
  obtain ⟨d2, e20, e21, e22, r2, n2⟩ := dyad_read (c0 := a6) (c1 := a7) (c2 := a8) h2 (fun m hm => w4 m (.inr (.inr (.inl hm))))
  obtain ⟨d3, e30, e31, e32, r3, n3⟩ := dyad_read (c0 := a9) (c1 := a10) (c2 := a11) h3 (fun m hm => w4 m (.inr (.inr (.inr hm))))
  subst e00 e01 e02 e10 e11 e12 e20 e21 e22 e30 e31 e32
  refine ⟨fun k => match k with | 0 => d0 | 1 => d1 | 2 => d2 | _ => d3, ?_, ?_, ?_⟩
  · congr 1
    exact Array.toList_inj.1 hl
  · intro k hk
    have hc : k = 0 ∨ k = 1 ∨ k = 2 ∨ k = 3 := by omega
    rcases hc with rfl | rfl | rfl | rfl <;> assumption
  · intro k hk
    have hc : k = 0 ∨ k = 1 ∨ k = 2 ∨ k = 3 := by omega
    rcases hc with rfl | rfl | rfl | rfl <;> assumption

end Go.Proofs.YtelalanhalbicaaDoor
