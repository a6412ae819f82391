/- What carries a walk over to a given statement: how a slice of uint32 that came in is read, and what the listed table gives. -/
/- How a dyad that came in is read. -/
/- How a mail that came in is read. -/
import Derived.Test.YtbankbehfjogpaaGreatRows
import Derived.Test.YtbankbehfjogpaaGreatVaa
import Derived.WalkKit
import Derived.ProofKit
import Derived.OpenShut
import Derived.ShutString
import Derived.ChangeOld
import Derived.Below
import Derived.SizedLaws
import Derived.Test.YtbankbehfjogpaaGreatVab
import Derived.Lib.SmallJoins
import Derived.Test.YtbankbehfjogpaaGreatVae
import Derived.Test.YtbankbehfjogpaaGreatVaf
import Derived.Deep.SlicePairs
namespace Go.Proofs.YtbankbehfjogpaaGreat
open Go.ChangeShapes Go.WideShapes Go.ChangeAt Go.RowKit
theorem own : ownKnob Tryz.prog.godebug = none := by kernel_rfl
theorem laidOut : laidOutB Tryz.prog = true := by kernel_rfl
theorem bytes_u32 : Tryz.prog.bytesOf 75 = 4 := by kernel_rfl
theorem rd_of_ints {H : Type} {W : World} {x : Addr} {l c : Nat} {zs : List Int} (hl : l ≤ c) (hz : zs.length = c)
    (hr : ((lits (H := H) .u32 (zs.take l)).length + (lits (H := H) .u32 (zs.drop l)).length) * Tryz.prog.bytesOf 75 ≤ reachBytes)
    (hcell : ∀ i, i < zs.length → W.cell? (x.add i) = some (.int .u32 (zs.getD i 0))) (hwz : ∀ n ∈ zs, (Lit.int .u32 n).wf = true) :
    Rd W W.heap.size (some x) l c (fun j => if j < l then (zs.getD j 0).toNat else 0) := by
  have hc : c ≤ 140737488355328 := by
    rw [bytes_u32] at hr
    simp only [lits, List.length_map, List.length_take, List.length_drop, reachBytes] at hr
    omega
  have hb : ∀ j, j < c → 0 ≤ zs.getD j 0 ∧ zs.getD j 0 ≤ 4294967295 := fun j hj => by
    have hm : zs.getD j 0 ∈ zs := by
      rw [List.getD_eq_getElem?_getD, List.getElem?_eq_getElem (by omega), Option.getD_some]
      exact List.getElem_mem _
    have := hwz _ hm
    have hmin : IntKind.u32.min = 0 := rfl
    have hmax : IntKind.u32.max = 4294967295 := rfl
    simp only [Lit.wf, Bool.and_eq_true, decide_eq_true_eq] at this
    omega
  refine ⟨hl, by omega, fun j => ?_, fun j hj => if_neg (by omega), fun hn => ?_⟩
  · show (if j < l then (zs.getD j 0).toNat else 0) < _
    split
    · have := hb j (by omega)
      omega
    · omega
  · obtain ⟨b, off, rfl, hc2⟩ := ints_at hcell (by omega)
    refine ⟨b, off, rfl, block_lt_of_cell (hc2 0 (by omega)), fun j hj => ?_⟩
    rw [hc2 j (by omega)]
    show _ = some (Value.int .u32 ((if j < l then (zs.getD j 0).toNat else 0 : Nat) : Int))
    rw [if_pos hj, Int.toNat_of_nonneg (hb j (by omega)).1]
open Go.ChangeShapes Go.WideShapes Go.ChangeAt Go.RowKit Go.Joins
open Go.ChangeShapes Go.WideShapes Go.ChangeAt Go.RowKit Go.Joins Go.Deep
theorem bytes_de : Tryz.prog.bytesOf 73 = 16 := by kernel_rfl
theorem bytes_u8 : Tryz.prog.bytesOf 5 = 1 := by kernel_rfl
theorem wf_u8 {a : Int} (h : (Lit.int .u8 a).wf = true) : 0 ≤ a ∧ a ≤ 255 := by
  have hmin : IntKind.u8.min = 0 := rfl
  have hmax : IntKind.u8.max = 255 := rfl
  simp only [Lit.wf, Bool.and_eq_true, decide_eq_true_eq] at h
  omega
theorem by_of_ints {H : Type} {W : World} {x : Addr} {l c : Nat} {zs : List Int} (hl : l ≤ c) (hz : zs.length = c)
    (hr : ((lits (H := H) .u8 (zs.take l)).length + (lits (H := H) .u8 (zs.drop l)).length) * Tryz.prog.bytesOf 5 ≤ reachBytes)
    (hcell : ∀ i, i < zs.length → W.cell? (x.add i) = some (.int .u8 (zs.getD i 0))) (hwz : ∀ n ∈ zs, (Lit.int .u8 n).wf = true) :
    By W W.heap.size (some x) l c ((zs.take l).map Int.toNat) := by
  have hc : c ≤ 140737488355328 := by
    rw [bytes_u8] at hr
    simp only [lits, List.length_map, List.length_take, List.length_drop, reachBytes] at hr
    omega
  refine ⟨by rw [List.length_map, List.length_take]; omega, hl, by omega, fun y hy => ?_, fun h => (by cases h), fun hn => ?_⟩
  · obtain ⟨z, hz1, rfl⟩ := List.mem_map.1 hy
    have := wf_u8 (hwz z (List.mem_of_mem_take hz1))
    omega
  · obtain ⟨b, off, rfl, hc2⟩ := ints_at hcell (by omega)
    refine ⟨b, off, rfl, block_lt_of_cell (hc2 0 (by omega)), fun j y hj => ?_⟩
    have hjl : j < l := by
      have := (List.getElem?_eq_some_iff.1 hj).1
      rw [List.length_map, List.length_take] at this
      omega
    rw [hc2 j (by omega)]
    rw [List.getElem?_map, List.getElem?_take, if_pos hjl, List.getElem?_eq_getElem (by omega)] at hj
    injection hj with hj
    rw [← hj, List.getD_eq_getElem?_getD, List.getElem?_eq_getElem (by omega), Option.getD_some, Int.toNat_of_nonneg (wf_u8 (hwz _ (List.getElem_mem _))).1]
theorem By.nul' (W : World) (B : Nat) : By W B none 0 0 [] := ⟨rfl, Nat.le_refl _, by omega, by simp, fun _ => ⟨rfl, rfl⟩, fun h => absurd h (by omega)⟩
set_option maxRecDepth 100000 in
theorem dyad_read {H : Type} {enc : TypeId × Value → H} {W : World} {n : Nat} {c0 c1 c2 : Value} {y : DataW H × List MemPlace} (h : DataW.trod enc Tryz.prog W 0 (fun _ => true) true n 24 [c0, c1, c2] = some y) (hw : ∀ m ∈ y.1.weights Tryz.prog 24, m ≤ reachBytes) :
    ∃ d : Dy, c0 = .bool d.s ∧ c1 = .slice d.A d.n d.c ∧ c2 = .int .i64 d.x ∧ Rd W W.heap.size d.A d.n d.c d.f ∧ (d.A = none → d.n = 0 ∧ d.c = 0) := by
  obtain ⟨y0, y1, y2, n', hx, _, h0, h1, h2⟩ := trod_struct3 Tryz.underlying24 h
  have k0 : DataW.trod enc Tryz.prog W 0 (fun _ => true) true n' 4 [c0] = some y0 := h0
  have k1 : DataW.trod enc Tryz.prog W 0 (fun _ => true) true n' 22 [c1] = some y1 := h1
  have k2 : DataW.trod enc Tryz.prog W 0 (fun _ => true) true n' 3 [c2] = some y2 := h2
  obtain ⟨s, hs, _⟩ := DataW.trod_bool Tryz.underlying4 k0
  obtain ⟨x, hx2, _, _⟩ := DataW.trod_int Tryz.underlying3 k2
  injection hs with hs
  injection hx2 with hx2
  subst hs hx2
  rcases open_ints Tryz.underlying22 Tryz.underlying75 (by kernel_rfl) k1 with ⟨hcs, _⟩ | ⟨a, l, c, zs, hcs, _, hl, hm, hz, hx1, hcell, hwz⟩
  · injection hcs with hcs
    subst hcs
    exact ⟨⟨s, none, 0, 0, x, _⟩, rfl, rfl, rfl, Rd.nil W _, fun _ => ⟨rfl, rfl⟩⟩
  · injection hcs with hcs
    subst hcs
    subst hx1
    subst hx
    have hr := hw (((lits (H := H) .u32 (zs.take l)).length + (lits (H := H) .u32 (zs.drop l)).length) * Tryz.prog.bytesOf 75) (by
      simp [DataW.weights, DataW.weightsEach, Tryz.underlying24, Tryz.underlying22])
    exact ⟨⟨s, some a, l, c, x, _⟩, rfl, rfl, rfl, rd_of_ints hl (by simpa using hz) hr hcell hwz, fun h => by cases h⟩
set_option maxRecDepth 100000 in
theorem descs_in {H : Type} {enc : TypeId × Value → H} {W : World} {A : Option Addr} {n c : Nat} {d : DataW H} {p : List MemPlace}
    (h : DataW.Trod enc Tryz.prog W 0 (fun _ => true) true 27 (.slice A n c) d p) (hw : ∀ l1 l2, d = .slice l1 l2 → (l1.length + l2.length) * Tryz.prog.bytesOf 73 ≤ reachBytes) :
    ∃ l, Ds W W.heap.size A n c l := by
  obtain ⟨fuel, hf⟩ := h
  rcases open_slice_pairs Tryz.underlying27 Tryz.underlying73 (by kernel_rfl) rfl rfl (by kernel_rfl) (by kernel_rfl) hf with ⟨hcs, _⟩ | ⟨a, len, cap, m, k, V0, V1, D0, D1, P0, P1, hcs, _, hl, hm, hmm, hx, hcell⟩
  · simp [Value.cells] at hcs
    obtain ⟨rfl, rfl, rfl⟩ := hcs
    exact ⟨[], Ds.nil' W _⟩
  · simp [Value.cells] at hcs
    obtain ⟨rfl, rfl, rfl⟩ := hcs
    simp only [Prod.mk.injEq] at hx
    have hr := hw _ _ hx.1
    rw [bytes_de] at hr
    simp only [List.length_map, List.length_range, reachBytes] at hr
    simp only [if_true] at hmm
    have hints : ∀ i, i < n → ∃ e : De, W.cell? (a.add (i * 2)) = some (.int .i64 e.1) ∧ W.cell? (a.add (i * 2 + 1)) = some (.int .i64 e.2) := fun i hi => by
      obtain ⟨c0, c1, t0, t1⟩ := hcell i (by omega)
      obtain ⟨x, hx0, _, _⟩ := DataW.trod_int Tryz.underlying3 t0
      obtain ⟨y, hy0, _, _⟩ := DataW.trod_int Tryz.underlying3 t1
      injection hx0 with hx0
      injection hy0 with hy0
      rw [hx0] at c0
      rw [hy0] at c1
      exact ⟨(x, y), c0, c1⟩
    obtain ⟨f, hfc⟩ := choose_lt hints
    refine ⟨(List.range n).map f, by simp, hl, by omega, fun e => (by cases e), fun h0 => ?_⟩
    obtain ⟨b, off, spot⟩ := a
    have hspot : spot = none := by simpa [Addr.add] using World.cell?_spot (hfc 0 h0).1
    subst hspot
    have e0 := (hfc 0 h0).1
    rw [Addr.add_lit] at e0
    refine ⟨b, off, rfl, block_lt_of_cell e0, fun j d hj => ?_⟩
    obtain ⟨hjl, hjd⟩ := List.getElem?_eq_some_iff.1 hj
    have hjn : j < n := by simpa using hjl
    have hd : f j = d := by rw [← hjd]; simp
    have := hfc j hjn
    rw [Addr.add_lit, Addr.add_lit, hd] at this
    exact ⟨this.1, by rw [Nat.add_assoc]; exact this.2⟩
theorem trod_struct11 {H : Type} {enc : TypeId × Value → H} {P : Program} {w : World} {base : Nat} {spare : Nat → Bool} {held : Bool} {t : TypeId} {f0 f1 f2 f3 f4 f5 f6 f7 f8 f9 f10 : Field} {fuel : Nat} {cs : List Value} {x : DataW H × List MemPlace} (ht : P.underlying t = some (.struct #[f0, f1, f2, f3, f4, f5, f6, f7, f8, f9, f10])) (h : DataW.trod enc P w base spare held fuel t cs = some x) :
    ∃ y0 y1 y2 y3 y4 y5 y6 y7 y8 y9 y10 n, x.1 = .agg [y0.1, y1.1, y2.1, y3.1, y4.1, y5.1, y6.1, y7.1, y8.1, y9.1, y10.1] ∧ cs.length = P.cellsOf t ∧ DataW.trod enc P w base spare held n f0.type ((cs.drop f0.offset).take (P.cellsOf f0.type)) = some y0 ∧ DataW.trod enc P w base spare held n f1.type ((cs.drop f1.offset).take (P.cellsOf f1.type)) = some y1 ∧ DataW.trod enc P w base spare held n f2.type ((cs.drop f2.offset).take (P.cellsOf f2.type)) = some y2 ∧ DataW.trod enc P w base spare held n f3.type ((cs.drop f3.offset).take (P.cellsOf f3.type)) = some y3 ∧ DataW.trod enc P w base spare held n f4.type ((cs.drop f4.offset).take (P.cellsOf f4.type)) = some y4 ∧ DataW.trod enc P w base spare held n f5.type ((cs.drop f5.offset).take (P.cellsOf f5.type)) = some y5 ∧ DataW.trod enc P w base spare held n f6.type ((cs.drop f6.offset).take (P.cellsOf f6.type)) = some y6 ∧ DataW.trod enc P w base spare held n f7.type ((cs.drop f7.offset).take (P.cellsOf f7.type)) = some y7 ∧ DataW.trod enc P w base spare held n f8.type ((cs.drop f8.offset).take (P.cellsOf f8.type)) = some y8 ∧ DataW.trod enc P w base spare held n f9.type ((cs.drop f9.offset).take (P.cellsOf f9.type)) = some y9 ∧ DataW.trod enc P w base spare held n f10.type ((cs.drop f10.offset).take (P.cellsOf f10.type)) = some y10 := by
  obtain ⟨xs, n, _, rfl, hl, hlen, hf⟩ := DataW.trod_struct ht h
  match xs, hlen with
  | [y0, y1, y2, y3, y4, y5, y6, y7, y8, y9, y10], _ => exact ⟨y0, y1, y2, y3, y4, y5, y6, y7, y8, y9, y10, n, by simp, hl, by simpa using hf 0 f0 rfl, by simpa using hf 1 f1 rfl, by simpa using hf 2 f2 rfl, by simpa using hf 3 f3 rfl, by simpa using hf 4 f4 rfl, by simpa using hf 5 f5 rfl, by simpa using hf 6 f6 rfl, by simpa using hf 7 f7 rfl, by simpa using hf 8 f8 rfl, by simpa using hf 9 f9 rfl, by simpa using hf 10 f10 rfl⟩
theorem list24 {α : Type} {l : List α} (h : l.length = 24) : ∃ a0 a1 a2 a3 a4 a5 a6 a7 a8 a9 a10 a11 a12 a13 a14 a15 a16 a17 a18 a19 a20 a21 a22 a23, l = [a0, a1, a2, a3, a4, a5, a6, a7, a8, a9, a10, a11, a12, a13, a14, a15, a16, a17, a18, a19, a20, a21, a22, a23] := by
  match l, h with
  | [a0, a1, a2, a3, a4, a5, a6, a7, a8, a9, a10, a11, a12, a13, a14, a15, a16, a17, a18, a19, a20, a21, a22, a23], _ => exact ⟨a0, a1, a2, a3, a4, a5, a6, a7, a8, a9, a10, a11, a12, a13, a14, a15, a16, a17, a18, a19, a20, a21, a22, a23, rfl⟩
set_option maxRecDepth 100000 in
theorem read_mass {H : Type} {enc : TypeId × Value → H} {W : World} {n : Nat} {a0 a1 a2 a3 a4 a5 a6 a7 a8 a9 a10 a11 : Value} {y : DataW H × List MemPlace} (hf : DataW.trod enc Tryz.prog W 0 (fun _ => true) true n 26 [a0, a1, a2, a3, a4, a5, a6, a7, a8, a9, a10, a11] = some y) (hw : ∀ m ∈ y.1.weights Tryz.prog 26, m ≤ reachBytes) :
    ∃ D, a0 = .bool (D 0).s ∧ a1 = .slice (D 0).A (D 0).n (D 0).c ∧ a2 = .int .i64 (D 0).x ∧ a3 = .bool (D 1).s ∧ a4 = .slice (D 1).A (D 1).n (D 1).c ∧ a5 = .int .i64 (D 1).x ∧ a6 = .bool (D 2).s ∧ a7 = .slice (D 2).A (D 2).n (D 2).c ∧ a8 = .int .i64 (D 2).x ∧ a9 = .bool (D 3).s ∧ a10 = .slice (D 3).A (D 3).n (D 3).c ∧ a11 = .int .i64 (D 3).x ∧ Mrd W W.heap.size D ∧ ∀ k, k < 4 → (D k).A = none → (D k).n = 0 ∧ (D k).c = 0 := by
  obtain ⟨y0, y1, y2, y3, n, hx, _, h0, h1, h2, h3⟩ := trod_struct4 Tryz.underlying26 hf
  subst hx
  have w4 : ∀ m, (m ∈ y0.1.weights Tryz.prog 24 ∨ m ∈ y1.1.weights Tryz.prog 24 ∨ m ∈ y2.1.weights Tryz.prog 24 ∨ m ∈ y3.1.weights Tryz.prog 24) → m ≤ reachBytes := fun m hm => hw m (by
    simpa [DataW.weights, DataW.weightsEach, Tryz.underlying26] using hm)
  obtain ⟨d0, e00, e01, e02, r0, n0⟩ := dyad_read (c0 := a0) (c1 := a1) (c2 := a2) h0 (fun m hm => w4 m (.inl hm))
  obtain ⟨d1, e10, e11, e12, r1, n1⟩ := dyad_read (c0 := a3) (c1 := a4) (c2 := a5) h1 (fun m hm => w4 m (.inr (.inl hm)))
  obtain ⟨d2, e20, e21, e22, r2, n2⟩ := dyad_read (c0 := a6) (c1 := a7) (c2 := a8) h2 (fun m hm => w4 m (.inr (.inr (.inl hm))))
  obtain ⟨d3, e30, e31, e32, r3, n3⟩ := dyad_read (c0 := a9) (c1 := a10) (c2 := a11) h3 (fun m hm => w4 m (.inr (.inr (.inr hm))))
  refine ⟨fun k => match k with | 0 => d0 | 1 => d1 | 2 => d2 | _ => d3, e00, e01, e02, e10, e11, e12, e20, e21, e22, e30, e31, e32, ?_, ?_⟩
  · intro k hk
    have hc : k = 0 ∨ k = 1 ∨ k = 2 ∨ k = 3 := by omega
    rcases hc with rfl | rfl | rfl | rfl <;> assumption
  · intro k hk
    have hc : k = 0 ∨ k = 1 ∨ k = 2 ∨ k = 3 := by omega
    rcases hc with rfl | rfl | rfl | rfl <;> assumption
set_option maxRecDepth 100000 in
theorem edge_cells {H : Type} {enc : TypeId × Value → H} {W : World} {n : Nat} {a0 a1 a2 : Value} {y : DataW H × List MemPlace} (hf : DataW.trod enc Tryz.prog W 0 (fun _ => true) true n 29 [a0, a1, a2] = some y) :
    ∃ b x z, a0 = .bool b ∧ a1 = .int .i64 x ∧ a2 = .int .i64 z := by
  obtain ⟨y0, y1, y2, n', _, _, h0, h1, h2⟩ := trod_struct3 Tryz.underlying29 hf
  have k0 : DataW.trod enc Tryz.prog W 0 (fun _ => true) true n' 4 [a0] = some y0 := h0
  have k1 : DataW.trod enc Tryz.prog W 0 (fun _ => true) true n' 3 [a1] = some y1 := h1
  have k2 : DataW.trod enc Tryz.prog W 0 (fun _ => true) true n' 3 [a2] = some y2 := h2
  obtain ⟨b, hb, _⟩ := DataW.trod_bool Tryz.underlying4 k0
  obtain ⟨x, hx, _, _⟩ := DataW.trod_int Tryz.underlying3 k1
  obtain ⟨z, hz, _, _⟩ := DataW.trod_int Tryz.underlying3 k2
  injection hb with hb
  injection hx with hx
  injection hz with hz
  exact ⟨b, x, z, hb, hx, hz⟩
set_option maxRecDepth 100000 in
theorem tags_cells {H : Type} {enc : TypeId × Value → H} {W : World} {n : Nat} {a : Value} {y : DataW H × List MemPlace} (hf : DataW.trod enc Tryz.prog W 0 (fun _ => true) true n 22 [a] = some y) (hw : ∀ m ∈ y.1.weights Tryz.prog 22, m ≤ reachBytes) :
    ∃ T k d t, a = .slice T k d ∧ Rd W W.heap.size T k d t ∧ (T = none → k = 0 ∧ d = 0) := by
  rcases open_ints Tryz.underlying22 Tryz.underlying75 (by kernel_rfl) hf with ⟨hcs, _⟩ | ⟨a, l, c, zs, hcs, _, hl, hm, hz, hx, hcell, hwz⟩
  · injection hcs with hcs
    subst hcs
    exact ⟨none, 0, 0, _, rfl, Rd.nil W _, fun _ => ⟨rfl, rfl⟩⟩
  · injection hcs with hcs
    subst hcs
    subst hx
    have hr := hw (((lits (H := H) .u32 (zs.take l)).length + (lits (H := H) .u32 (zs.drop l)).length) * Tryz.prog.bytesOf 75) (by
      simp [DataW.weights, Tryz.underlying22])
    exact ⟨some a, l, c, _, rfl, rd_of_ints hl (by simpa using hz) hr hcell hwz, fun h => by cases h⟩
set_option maxRecDepth 100000 in
theorem list_cells {H : Type} {enc : TypeId × Value → H} {W : World} {n : Nat} {a : Value} {y : DataW H × List MemPlace} (hf : DataW.trod enc Tryz.prog W 0 (fun _ => true) true n 27 [a] = some y) (hw : ∀ m ∈ y.1.weights Tryz.prog 27, m ≤ reachBytes) :
    ∃ A n c l, a = .slice A n c ∧ Ds W W.heap.size A n c l ∧ (A = none → n = 0 ∧ c = 0) := by
  have hf' := hf
  rcases open_slice_pairs Tryz.underlying27 Tryz.underlying73 (by kernel_rfl) rfl rfl (by kernel_rfl) (by kernel_rfl) hf with ⟨hcs, _⟩ | ⟨a, len, cap, m, k, V0, V1, D0, D1, P0, P1, hcs, _, hl, hm, hmm, hx, hcell⟩
  · injection hcs with hcs
    subst hcs
    exact ⟨none, 0, 0, [], rfl, Ds.nil' W _, fun _ => ⟨rfl, rfl⟩⟩
  · injection hcs with hcs
    subst hcs
    obtain ⟨l, hl⟩ := descs_in (d := y.1) (p := y.2) ⟨_, hf'⟩ (fun l1 l2 hd => hw _ (by rw [hd]; simp [DataW.weights, Tryz.underlying27]))
    exact ⟨some a, len, cap, l, rfl, hl, fun h => by cases h⟩
set_option maxRecDepth 100000 in
theorem mail_in {H : Type} {enc : TypeId × Value → H} {W : World} {r : Reach} {b0 : Nat} {v : Value} {d : DataW H} {p : List MemPlace} (hval : Value.okWide Tryz.prog W r b0 31 v)
    (h : DataW.Trod enc Tryz.prog W 0 (fun _ => true) true 31 v d p) (hw : ∀ m ∈ d.weights Tryz.prog 31, m ≤ reachBytes) :
    ∃ m l t, v = .agg (mdc m) ∧ Prd W W.heap.size m l t ∧ (∀ k, k < 4 → (m.D k).A = none → (m.D k).n = 0 ∧ (m.D k).c = 0) ∧ (m.A = none → m.n = 0 ∧ m.c = 0) ∧ (m.T = none → m.k = 0 ∧ m.d = 0) := by
  obtain ⟨cs, rfl, hsz⟩ := okWide_struct Tryz.underlying31 hval
  have h24 : cs.toList.length = 24 := by rw [Array.length_toList, hsz]; kernel_rfl
  obtain ⟨a0, a1, a2, a3, a4, a5, a6, a7, a8, a9, a10, a11, a12, a13, a14, a15, a16, a17, a18, a19, a20, a21, a22, a23, hl⟩ := list24 h24
  obtain ⟨fuel, hf⟩ := h
  have hf2 : DataW.trod enc Tryz.prog W 0 (fun _ => true) true fuel 31 [a0, a1, a2, a3, a4, a5, a6, a7, a8, a9, a10, a11, a12, a13, a14, a15, a16, a17, a18, a19, a20, a21, a22, a23] = some (d, p) := by rw [← hl]; exact hf
  obtain ⟨y0, y1, y2, y3, y4, y5, y6, y7, y8, y9, y10, n, hx, _, h0, h1, h2, h3, h4, h5, h6, h7, h8, h9, h10⟩ := trod_struct11 Tryz.underlying31 hf2
  have hx' : d = _ := hx
  subst hx'
  have w6 : ∀ m, m ∈ y6.1.weights Tryz.prog 26 → m ≤ reachBytes := fun m hm => hw m (by
    simp [DataW.weights, DataW.weightsEach, Tryz.underlying31, hm])
  have w8 : ∀ m, m ∈ y8.1.weights Tryz.prog 27 → m ≤ reachBytes := fun m hm => hw m (by
    simp [DataW.weights, DataW.weightsEach, Tryz.underlying31, hm])
  have w10 : ∀ m, m ∈ y10.1.weights Tryz.prog 22 → m ≤ reachBytes := fun m hm => hw m (by
    simp [DataW.weights, DataW.weightsEach, Tryz.underlying31, hm])
  have k0 : DataW.trod enc Tryz.prog W 0 (fun _ => true) true n 5 [a0] = some y0 := h0
  have k1 : DataW.trod enc Tryz.prog W 0 (fun _ => true) true n 3 [a1] = some y1 := h1
  have k2 : DataW.trod enc Tryz.prog W 0 (fun _ => true) true n 3 [a2] = some y2 := h2
  have k3 : DataW.trod enc Tryz.prog W 0 (fun _ => true) true n 3 [a3] = some y3 := h3
  have k4 : DataW.trod enc Tryz.prog W 0 (fun _ => true) true n 3 [a4] = some y4 := h4
  have k5 : DataW.trod enc Tryz.prog W 0 (fun _ => true) true n 3 [a5] = some y5 := h5
  have k6 : DataW.trod enc Tryz.prog W 0 (fun _ => true) true n 26 [a6, a7, a8, a9, a10, a11, a12, a13, a14, a15, a16, a17] = some y6 := h6
  have k7 : DataW.trod enc Tryz.prog W 0 (fun _ => true) true n 4 [a18] = some y7 := h7
  have k8 : DataW.trod enc Tryz.prog W 0 (fun _ => true) true n 27 [a19] = some y8 := h8
  have k9 : DataW.trod enc Tryz.prog W 0 (fun _ => true) true n 29 [a20, a21, a22] = some y9 := h9
  have k10 : DataW.trod enc Tryz.prog W 0 (fun _ => true) true n 22 [a23] = some y10 := h10
  clear h0 h1 h2 h3 h4 h5 h6 h7 h8 h9 h10
  obtain ⟨x0, e0, _, z0⟩ := DataW.trod_int Tryz.underlying5 k0
  obtain ⟨x1, e1, _, _⟩ := DataW.trod_int Tryz.underlying3 k1
  obtain ⟨x2, e2, _, _⟩ := DataW.trod_int Tryz.underlying3 k2
  obtain ⟨x3, e3, _, _⟩ := DataW.trod_int Tryz.underlying3 k3
  obtain ⟨x4, e4, _, _⟩ := DataW.trod_int Tryz.underlying3 k4
  obtain ⟨x5, e5, _, _⟩ := DataW.trod_int Tryz.underlying3 k5
  obtain ⟨D, g6, g7, g8, g9, g10, g11, g12, g13, g14, g15, g16, g17, hD, nD⟩ := read_mass k6 w6
  obtain ⟨wa, e18, _⟩ := DataW.trod_bool Tryz.underlying4 k7
  obtain ⟨A, n1, c1, l, g19, hA, nA⟩ := list_cells k8 w8
  obtain ⟨ha, mn, mx, g20, g21, g22⟩ := edge_cells k9
  obtain ⟨T, k1', d1, t, g23, hT, nT⟩ := tags_cells k10 w10
  injection e0 with g0
  injection e1 with g1
  injection e2 with g2
  injection e3 with g3
  injection e4 with g4
  injection e5 with g5
  injection e18 with g18
  subst g0 g1 g2 g3 g4 g5 g6 g7 g8 g9 g10 g11 g12 g13 g14 g15 g16 g17 g18 g19 g20 g21 g22 g23
  have hx0 := wf_u8 z0
  refine ⟨⟨x0.toNat, x1, x2, x3, x4, x5, D, wa, A, n1, c1, ha, mn, mx, T, k1', d1⟩, l, t, ?_, ⟨?_, hD, hA, hT⟩, nD, nA, nT⟩
  · congr 1
    refine Array.toList_inj.1 (hl.trans ?_)
    have hc : ((x0.toNat : Nat) : Int) = x0 := Int.toNat_of_nonneg hx0.1
    simp only [mdc, hc]
  · show x0.toNat < 256
    omega
end Go.Proofs.YtbankbehfjogpaaGreat
