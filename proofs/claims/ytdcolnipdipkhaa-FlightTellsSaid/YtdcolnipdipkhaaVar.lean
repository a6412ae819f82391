/- What carries a walk over to a given statement: how a slice of uint32 that came in is read, and what the listed table gives. -/
/- How a dyad that came in is read. -/
/- How loads, masses and bytes that came in are read. -/
import Derived.Test.YtdcolnipdipkhaaRows
import Derived.Test.YtdcolnipdipkhaaMem
import Derived.WalkKit
import Derived.ProofKit
import Derived.OpenShut
import Derived.ShutString
import Derived.ChangeOld
import Derived.Below
import Derived.SizedLaws
import Derived.Test.YtdcolnipdipkhaaVae
import Derived.Lib.SmallJoins
import Derived.Test.YtdcolnipdipkhaaVaf
import Derived.Deep.Slices

namespace Go.Proofs.Ytdcolnipdipkhaa
open Go.ChangeShapes Go.WideShapes Go.ChangeAt Go.RowKit

theorem own : ownKnob Try.prog.godebug = none := by kernel_rfl
theorem laidOut : laidOutB Try.prog = true := by kernel_rfl
theorem bytes_u32 : Try.prog.bytesOf 70 = 4 := by kernel_rfl

theorem rd_of_ints {H : Type} {W : World} {x : Addr} {l c : Nat} {zs : List Int} (hl : l ≤ c) (hz : zs.length = c)
    (hr : ((lits (H := H) .u32 (zs.take l)).length + (lits (H := H) .u32 (zs.drop l)).length) * Try.prog.bytesOf 70 ≤ reachBytes)
    (hcell : ∀ i, i < zs.length → W.cell? (x.add i) = some (.int .u32 (zs.getD i 0))) (hwz : ∀ n ∈ zs, (Lit.int .u32 n).wf = true) :
    Rd W W.heap.size (some x) l c (fun j => if j < l then (zs.getD j 0).toNat else 0) := by
  have hc : c ≤ 140737488355328 := by
    rw [bytes_u32] at hr
    simp only [lits, List.length_map, List.length_take, List.length_drop, reachBytes] at hr
    omega
  have hb : ∀ j, j < c → 0 ≤ zs.getD j 0 ∧ zs.getD j 0 ≤ 4294967295 := fun j hj => by
    have hm : zs.getD j 0 ∈ zs := by
      rw [List.getD_eq_getElem?_getD, List.getElem?_eq_getElem (by omega), Option.getD_some]
      exact List.getElem_mem _
    have := hwz _ hm
    have hmin : IntKind.u32.min = 0 := rfl
    have hmax : IntKind.u32.max = 4294967295 := rfl
    simp only [Lit.wf, Bool.and_eq_true, decide_eq_true_eq] at this
    omega
  refine ⟨hl, by omega, fun j => ?_, fun j hj => if_neg (by omega), fun hn => ?_⟩
  · show (if j < l then (zs.getD j 0).toNat else 0) < _
    split
    · have := hb j (by omega)
      omega
    · omega
  · obtain ⟨b, off, rfl, hc2⟩ := ints_at hcell (by omega)
    refine ⟨b, off, rfl, block_lt_of_cell (hc2 0 (by omega)), fun j hj => ?_⟩
    rw [hc2 j (by omega)]
    show _ = some (Value.int .u32 ((if j < l then (zs.getD j 0).toNat else 0 : Nat) : Int))
    rw [if_pos hj, Int.toNat_of_nonneg (hb j (by omega)).1]

end Go.Proofs.Ytdcolnipdipkhaa


namespace Go.Proofs.Ytdcolnipdipkhaa
open Go.ChangeShapes Go.WideShapes Go.ChangeAt Go.RowKit Go.Joins

set_option maxRecDepth 100000 in
theorem dyad_in {H : Type} {enc : TypeId × Value → H} {W : World} {r : Reach} {b0 : Nat} {v : Value} {d : DataW H} {p : List MemPlace} (hval : Value.okWide Try.prog W r b0 25 v)
    (h : DataW.Trod enc Try.prog W 0 (fun _ => true) true 25 v d p) (hw : ∀ m ∈ d.weights Try.prog 25, m ≤ reachBytes) :
    ∃ s A n c f x, v = .agg #[.bool s, .slice A n c, .int .i64 x] ∧ Rd W W.heap.size A n c f ∧ (A = none → n = 0 ∧ c = 0) := by
  obtain ⟨v0, v1, v2, y0, y1, y2, m, rfl, rfl, rfl, h0, h1, h2⟩ := open_agg3 Try.underlying25 (by kernel_rfl) (by kernel_rfl) hval h
  obtain ⟨s, hs, _⟩ := DataW.trod_bool Try.underlying4 h0
  obtain ⟨x, hx, _, _⟩ := DataW.trod_int Try.underlying3 h2
  injection hs with hs
  injection hx with hx
  subst hs hx
  rcases open_ints Try.underlying23 Try.underlying70 (by kernel_rfl) h1 with ⟨hcs, _⟩ | ⟨a, l, c, zs, hcs, _, hl, hm, hz, hx, hcell, hwz⟩
  · injection hcs with hcs
    subst hcs
    exact ⟨s, none, 0, 0, _, x, rfl, Rd.nil W _, fun _ => ⟨rfl, rfl⟩⟩
  · injection hcs with hcs
    subst hcs
    subst hx
    have hr := hw (((lits (H := H) .u32 (zs.take l)).length + (lits (H := H) .u32 (zs.drop l)).length) * Try.prog.bytesOf 70) (by
      simp [DataW.weights, DataW.weightsEach, Try.underlying25, Try.underlying23])
    exact ⟨s, some a, l, c, _, x, rfl, rd_of_ints hl (by simpa using hz) hr hcell hwz, fun h => by cases h⟩

theorem wf_i64 {n : Int} (h : (Lit.int .i64 n).wf = true) : -9223372036854775808 ≤ n ∧ n ≤ 9223372036854775807 := by
  have hmin : IntKind.i64.min = -9223372036854775808 := rfl
  have hmax : IntKind.i64.max = 9223372036854775807 := rfl
  simp only [Lit.wf, Bool.and_eq_true, decide_eq_true_eq] at h
  omega

end Go.Proofs.Ytdcolnipdipkhaa


namespace Go.Proofs.Ytdcolnipdipkhaa
set_option maxRecDepth 100000
open Go.ChangeShapes Go.WideShapes Go.ChangeAt Go.RowKit Go.Joins Go.Deep

theorem list12 {α : Type} {l : List α} (h : l.length = 12) : ∃ a0 a1 a2 a3 a4 a5 a6 a7 a8 a9 a10 a11, l = [a0, a1, a2, a3, a4, a5, a6, a7, a8, a9, a10, a11] := by
  match l, h with
  | [a0, a1, a2, a3, a4, a5, a6, a7, a8, a9, a10, a11], _ => exact ⟨a0, a1, a2, a3, a4, a5, a6, a7, a8, a9, a10, a11, rfl⟩

set_option maxRecDepth 100000 in
theorem dyad_read {H : Type} {enc : TypeId × Value → H} {W : World} {n : Nat} {c0 c1 c2 : Value} {y : DataW H × List MemPlace} (h : DataW.trod enc Try.prog W 0 (fun _ => true) true n 25 [c0, c1, c2] = some y) (hw : ∀ m ∈ y.1.weights Try.prog 25, m ≤ reachBytes) :
    ∃ d : Dy, c0 = .bool d.s ∧ c1 = .slice d.A d.n d.c ∧ c2 = .int .i64 d.x ∧ Rd W W.heap.size d.A d.n d.c d.f ∧ (d.A = none → d.n = 0 ∧ d.c = 0) := by
  obtain ⟨y0, y1, y2, n', hx, _, h0, h1, h2⟩ := trod_struct3 Try.underlying25 h
  have k0 : DataW.trod enc Try.prog W 0 (fun _ => true) true n' 4 [c0] = some y0 := h0
  have k1 : DataW.trod enc Try.prog W 0 (fun _ => true) true n' 23 [c1] = some y1 := h1
  have k2 : DataW.trod enc Try.prog W 0 (fun _ => true) true n' 3 [c2] = some y2 := h2
  obtain ⟨s, hs, _⟩ := DataW.trod_bool Try.underlying4 k0
  obtain ⟨x, hx2, _, _⟩ := DataW.trod_int Try.underlying3 k2
  injection hs with hs
  injection hx2 with hx2
  subst hs hx2
  rcases open_ints Try.underlying23 Try.underlying70 (by kernel_rfl) k1 with ⟨hcs, _⟩ | ⟨a, l, c, zs, hcs, _, hl, hm, hz, hx1, hcell, hwz⟩
  · injection hcs with hcs
    subst hcs
    exact ⟨⟨s, none, 0, 0, x, _⟩, rfl, rfl, rfl, Rd.nil W _, fun _ => ⟨rfl, rfl⟩⟩
  · injection hcs with hcs
    subst hcs
    subst hx1
    subst hx
    have hr := hw (((lits (H := H) .u32 (zs.take l)).length + (lits (H := H) .u32 (zs.drop l)).length) * Try.prog.bytesOf 70) (by
      simp [DataW.weights, DataW.weightsEach, Try.underlying25, Try.underlying23])
    exact ⟨⟨s, some a, l, c, x, _⟩, rfl, rfl, rfl, rd_of_ints hl (by simpa using hz) hr hcell hwz, fun h => by cases h⟩

set_option maxRecDepth 100000 in
theorem mass_in {H : Type} {enc : TypeId × Value → H} {W : World} {r : Reach} {b0 : Nat} {v : Value} {d : DataW H} {p : List MemPlace} (hval : Value.okWide Try.prog W r b0 27 v)
    (h : DataW.Trod enc Try.prog W 0 (fun _ => true) true 27 v d p) (hw : ∀ m ∈ d.weights Try.prog 27, m ≤ reachBytes) :
    ∃ D, v = .agg (mcells D) ∧ Mrd W W.heap.size D ∧ ∀ k, k < 4 → (D k).A = none → (D k).n = 0 ∧ (D k).c = 0 := by
  obtain ⟨cs, rfl, hsz⟩ := okWide_struct Try.underlying27 hval
  have h12 : cs.toList.length = 12 := by rw [Array.length_toList, hsz]; kernel_rfl
  obtain ⟨a0, a1, a2, a3, a4, a5, a6, a7, a8, a9, a10, a11, hl⟩ := list12 h12
  obtain ⟨fuel, hf⟩ := h
  have hf2 : DataW.trod enc Try.prog W 0 (fun _ => true) true fuel 27 [a0, a1, a2, a3, a4, a5, a6, a7, a8, a9, a10, a11] = some (d, p) := by rw [← hl]; exact hf
  obtain ⟨y0, y1, y2, y3, n, hx, _, h0, h1, h2, h3⟩ := trod_struct4 Try.underlying27 hf2
  simp only [Prod.mk.injEq] at hx
  obtain ⟨rfl, rfl⟩ := hx
  have w4 : ∀ m, (m ∈ y0.1.weights Try.prog 25 ∨ m ∈ y1.1.weights Try.prog 25 ∨ m ∈ y2.1.weights Try.prog 25 ∨ m ∈ y3.1.weights Try.prog 25) → m ≤ reachBytes := fun m hm => hw m (by
    simpa [DataW.weights, DataW.weightsEach, Try.underlying27] using hm)
  obtain ⟨d0, e00, e01, e02, r0, n0⟩ := dyad_read (c0 := a0) (c1 := a1) (c2 := a2) h0 (fun m hm => w4 m (.inl hm))
  obtain ⟨d1, e10, e11, e12, r1, n1⟩ := dyad_read (c0 := a3) (c1 := a4) (c2 := a5) h1 (fun m hm => w4 m (.inr (.inl hm)))
  obtain ⟨d2, e20, e21, e22, r2, n2⟩ := dyad_read (c0 := a6) (c1 := a7) (c2 := a8) h2 (fun m hm => w4 m (.inr (.inr (.inl hm))))
  obtain ⟨d3, e30, e31, e32, r3, n3⟩ := dyad_read (c0 := a9) (c1 := a10) (c2 := a11) h3 (fun m hm => w4 m (.inr (.inr (.inr hm))))
  subst e00 e01 e02 e10 e11 e12 e20 e21 e22 e30 e31 e32
  refine ⟨fun k => match k with | 0 => d0 | 1 => d1 | 2 => d2 | _ => d3, ?_, ?_, ?_⟩
  · congr 1
    exact Array.toList_inj.1 hl
  · intro k hk
    have hc : k = 0 ∨ k = 1 ∨ k = 2 ∨ k = 3 := by omega
    rcases hc with rfl | rfl | rfl | rfl <;> assumption
  · intro k hk
    have hc : k = 0 ∨ k = 1 ∨ k = 2 ∨ k = 3 := by omega
    rcases hc with rfl | rfl | rfl | rfl <;> assumption

theorem weights_all {H : Type} {P : Program} {e : TypeId} : ∀ {l : List (DataW H)} {d : DataW H}, d ∈ l → ∀ n ∈ d.weights P e, n ∈ DataW.weightsAll P e l
  | [], _, h, _, _ => by cases h
  | x :: l, d, h, n, hn => by
    simp only [DataW.weightsAll, List.mem_append]
    rcases List.mem_cons.1 h with rfl | h
    · exact Or.inl hn
    · exact Or.inr (weights_all h n hn)

set_option maxRecDepth 100000 in
theorem mass_read {H : Type} {enc : TypeId × Value → H} {W : World} {n : Nat} {cs : List Value} {y : DataW H × List MemPlace} (hf : DataW.trod enc Try.prog W 0 (fun _ => true) true n 27 cs = some y) (h12 : cs.length = 12) (hw : ∀ m ∈ y.1.weights Try.prog 27, m ≤ reachBytes) :
    ∃ D, cs = (mcells D).toList ∧ Mrd W W.heap.size D ∧ ∀ k, k < 4 → (D k).A = none → (D k).n = 0 ∧ (D k).c = 0 := by
  obtain ⟨a0, a1, a2, a3, a4, a5, a6, a7, a8, a9, a10, a11, hl⟩ := list12 h12
  subst hl
  obtain ⟨y0, y1, y2, y3, n, hx, _, h0, h1, h2, h3⟩ := trod_struct4 Try.underlying27 hf
  subst hx
  have w4 : ∀ m, (m ∈ y0.1.weights Try.prog 25 ∨ m ∈ y1.1.weights Try.prog 25 ∨ m ∈ y2.1.weights Try.prog 25 ∨ m ∈ y3.1.weights Try.prog 25) → m ≤ reachBytes := fun m hm => hw m (by
    simpa [DataW.weights, DataW.weightsEach, Try.underlying27] using hm)
  obtain ⟨d0, e00, e01, e02, r0, n0⟩ := dyad_read (c0 := a0) (c1 := a1) (c2 := a2) h0 (fun m hm => w4 m (.inl hm))
  obtain ⟨d1, e10, e11, e12, r1, n1⟩ := dyad_read (c0 := a3) (c1 := a4) (c2 := a5) h1 (fun m hm => w4 m (.inr (.inl hm)))
  obtain ⟨d2, e20, e21, e22, r2, n2⟩ := dyad_read (c0 := a6) (c1 := a7) (c2 := a8) h2 (fun m hm => w4 m (.inr (.inr (.inl hm))))
  obtain ⟨d3, e30, e31, e32, r3, n3⟩ := dyad_read (c0 := a9) (c1 := a10) (c2 := a11) h3 (fun m hm => w4 m (.inr (.inr (.inr hm))))
  subst e00 e01 e02 e10 e11 e12 e20 e21 e22 e30 e31 e32
  refine ⟨fun k => match k with | 0 => d0 | 1 => d1 | 2 => d2 | _ => d3, rfl, ?_, ?_⟩
  · intro k hk
    have hc : k = 0 ∨ k = 1 ∨ k = 2 ∨ k = 3 := by omega
    rcases hc with rfl | rfl | rfl | rfl <;> assumption
  · intro k hk
    have hc : k = 0 ∨ k = 1 ∨ k = 2 ∨ k = 3 := by omega
    rcases hc with rfl | rfl | rfl | rfl <;> assumption
theorem block_lt_at {W : World} {b o : Nat} {v : Value} (h : W.cell? ⟨b, o, none⟩ = some v) : b < W.heap.size := by
  rcases Nat.lt_or_ge b W.heap.size with h1 | h1
  · exact h1
  · unfold World.cell? at h
    rw [Array.getElem?_eq_none h1] at h
    cases h
theorem bytes_u8 : Try.prog.bytesOf 5 = 1 := by kernel_rfl
theorem bytes_ld : Try.prog.bytesOf 40 = 184 := by kernel_rfl
theorem cells_ld : Try.prog.cellsOf 40 = 15 := by kernel_rfl
theorem wf_u8 {a : Int} (h : (Lit.int .u8 a).wf = true) : 0 ≤ a ∧ a ≤ 255 := by
  have hmin : IntKind.u8.min = 0 := rfl
  have hmax : IntKind.u8.max = 255 := rfl
  simp only [Lit.wf, Bool.and_eq_true, decide_eq_true_eq] at h
  omega
/-- The cells of bytes. -/
def cellsB (t : List Nat) : List Value := t.map fun (b : Nat) => .int .u8 (b : Int)
theorem cellsB_length (t : List Nat) : (cellsB t).length = t.length := by unfold cellsB; exact List.length_map _
theorem cellsB_append (t s : List Nat) : cellsB (t ++ s) = cellsB t ++ cellsB s := by unfold cellsB; exact List.map_append
theorem cellsB_get {t : List Nat} {j b : Nat} (h : t[j]? = some b) : (cellsB t)[j]? = some (.int .u8 (b : Int)) := by
  unfold cellsB
  rw [List.getElem?_map, h]
  rfl
theorem cellsB_one (t : List Nat) : ∀ v ∈ cellsB t, v.oneCell' = true := by
  intro v hv
  obtain ⟨d, _, rfl⟩ := List.mem_map.1 hv
  rfl
/-- Bytes that came in. -/
theorem bytes_of_ints {H : Type} {W : World} {x : Addr} {l c : Nat} {zs : List Int} (hl : l ≤ c) (hz : zs.length = c)
    (hr : ((lits (H := H) .u8 (zs.take l)).length + (lits (H := H) .u8 (zs.drop l)).length) * Try.prog.bytesOf 5 ≤ reachBytes)
    (hcell : ∀ i, i < zs.length → W.cell? (x.add i) = some (.int .u8 (zs.getD i 0))) (hwz : ∀ n ∈ zs, (Lit.int .u8 n).wf = true) :
    Gs W W.heap.size (some x) l c 1 (cellsB ((zs.take l).map Int.toNat)) ∧ ∀ b ∈ (zs.take l).map Int.toNat, b < 256 := by
  have hc : c ≤ 140737488355328 := by
    rw [bytes_u8] at hr
    simp only [lits, List.length_map, List.length_take, List.length_drop, reachBytes] at hr
    omega
  refine ⟨⟨by rw [cellsB_length, List.length_map, List.length_take]; omega, hl, by omega, fun h => (by cases h), fun hn => ?_⟩, fun y hy => ?_⟩
  · obtain ⟨b, off, rfl, hc2⟩ := ints_at hcell (by omega)
    refine ⟨b, off, rfl, block_lt_of_cell (hc2 0 (by omega)), fun j v hj => ?_⟩
    have hjl : j < l := by
      have := (List.getElem?_eq_some_iff.1 hj).1
      rw [cellsB_length, List.length_map, List.length_take] at this
      omega
    rw [hc2 j (by omega)]
    unfold cellsB at hj
    rw [List.getElem?_map, List.getElem?_map, List.getElem?_take, if_pos hjl, List.getElem?_eq_getElem (by omega)] at hj
    injection hj with hj
    rw [← hj, List.getD_eq_getElem?_getD, List.getElem?_eq_getElem (by omega), Option.getD_some]
    show _ = some (Value.int .u8 ((zs[j].toNat : Nat) : Int))
    rw [Int.toNat_of_nonneg (wf_u8 (hwz _ (List.getElem_mem _))).1]
  · obtain ⟨z, hz1, rfl⟩ := List.mem_map.1 hy
    have := wf_u8 (hwz z (List.mem_of_mem_take hz1))
    omega
namespace Fli
instance : Inhabited (Nat → Dy) := ⟨fun _ => ⟨false, none, 0, 0, 0, fun _ => 0⟩⟩
theorem list15 {α : Type} {l : List α} (h : l.length = 15) : ∃ a0 a1 a2 r, l = a0 :: a1 :: a2 :: r ∧ r.length = 12 := by
  match l, h with
  | a0 :: a1 :: a2 :: r, h => exact ⟨a0, a1, a2, r, rfl, by simpa using h⟩
theorem Lrd.in_ {w : World} {B : Nat} {x y z : Int} {D : Nat → Dy} (h : Mrd w B D) (hn : ∀ k, k < 4 → (D k).A = none → (D k).n = 0 ∧ (D k).c = 0) : Lrd w B (x, y, z, D) (x, y, z, pmd D) := ⟨rfl, rfl, rfl, rfl, h, hn⟩
set_option maxRecDepth 100000 in
theorem loads_in {H : Type} {enc : TypeId × Value → H} {W : World} {A : Option Addr} {n c : Nat} {d : DataW H} {p : List MemPlace}
    (h : DataW.Trod enc Try.prog W 0 (fun _ => true) true 22 (.slice A n c) d p) (hw : ∀ m ∈ d.weights Try.prog 22, m ≤ reachBytes) : ∃ l, Lls W W.heap.size A n c l := by
  obtain ⟨fuel, hf⟩ := h
  rcases open_slice Try.underlying22 hf with ⟨hcs, _⟩ | ⟨a, len, cap, m, k, E, Pl, hcs, _, hl, hm, hmm, hx, hcell⟩
  · simp [Value.cells] at hcs
    obtain ⟨rfl, rfl, rfl⟩ := hcs
    exact ⟨[], Lls.nil' W _⟩
  · simp [Value.cells] at hcs
    obtain ⟨rfl, rfl, rfl⟩ := hcs
    have hd := congrArg Prod.fst hx
    change d = _ at hd
    subst hd
    clear hx
    simp only [if_true] at hmm
    rw [cells_ld] at hcell
    have hr := hw _ (show (((List.range n).map E).length + ((List.range (m - n)).map fun j => E (n + j)).length) * Try.prog.bytesOf 40 ∈ _ by simp [DataW.weights, Try.underlying22])
    rw [bytes_ld] at hr
    simp only [List.length_map, List.length_range, reachBytes] at hr
    rcases Nat.eq_zero_or_pos n with hz | hpos
    · subst hz
      exact ⟨[], Lls.none' W _ _ _⟩
    obtain ⟨b, off, spot⟩ := a
    have hspot : spot = none := by
      obtain ⟨cs', h1, h2⟩ := hcell 0 (by omega)
      obtain ⟨_, hlen, hc⟩ := World.cells?_some h1
      obtain ⟨v, hv⟩ : ∃ v, cs'[0]? = some v := ⟨_, List.getElem?_eq_getElem (by omega)⟩
      have e0 := (hc 0 (by omega)).trans hv
      simpa [Addr.add] using World.cell?_spot e0
    subst hspot
    have each : ∀ i, i < n → ∃ rp : Lr × Ld Pm, (∀ (j : Nat) (v : Value), (encL rp.1)[j]? = some v → W.cell? ⟨b, off + (i * 15 + j), none⟩ = some v) ∧ b < W.heap.size ∧ Lrd W W.heap.size rp.1 rp.2 := fun i hi => by
      obtain ⟨cs', h1, h2⟩ := hcell i (by omega)
      obtain ⟨_, hlen, hc⟩ := World.cells?_some h1
      obtain ⟨a0, a1, a2, ar, rfl, har⟩ := list15 hlen
      obtain ⟨y0, y1, y2, y3, n', hx, _, t0, t1, t2, t3⟩ := trod_struct4 Try.underlying40 h2
      have q0 : DataW.trod enc Try.prog W 0 (fun _ => true) true n' 3 [a0] = some y0 := t0
      have q1 : DataW.trod enc Try.prog W 0 (fun _ => true) true n' 3 [a1] = some y1 := t1
      have q2 : DataW.trod enc Try.prog W 0 (fun _ => true) true n' 3 [a2] = some y2 := t2
      have hE := congrArg Prod.fst hx
      change E i = _ at hE
      obtain ⟨x, ex, _, _⟩ := DataW.trod_int Try.underlying3 q0
      obtain ⟨y, ey, _, _⟩ := DataW.trod_int Try.underlying3 q1
      obtain ⟨z, ez, _, _⟩ := DataW.trod_int Try.underlying3 q2
      injection ex with ex
      injection ey with ey
      injection ez with ez
      have q3 : DataW.trod enc Try.prog W 0 (fun _ => true) true n' 27 ar = some y3 := by
        have e : ar.take 12 = ar := List.take_of_length_le (by omega)
        rw [← e]
        exact t3
      obtain ⟨D, hD, hR, hN⟩ := mass_read q3 har (fun q hq => hw q (by
        simp only [DataW.weights, Try.underlying22, List.mem_cons, List.mem_append]
        refine Or.inr (Or.inl (weights_all (List.mem_map.2 ⟨i, List.mem_range.2 hi, rfl⟩) q ?_))
        rw [hE]
        have hq2 : q ∈ DataW.weights Try.prog 27 y3.1 := hq
        simp [DataW.weights, DataW.weightsEach, Try.underlying40, hq2]))
      subst ex ey ez hD
      refine ⟨((x, y, z, D), (x, y, z, pmd D)), fun j v hv => ?_, ?_, Lrd.in_ hR hN⟩
      · have hj : j < 15 := (List.getElem?_eq_some_iff.1 hv).1
        have := hc j hj
        rw [Addr.add_lit, Addr.add_lit, Nat.add_assoc] at this
        exact this.trans hv
      · have e0 := hc 0 (by omega)
        rw [Addr.add_lit, Addr.add_lit] at e0
        exact block_lt_at (e0.trans rfl)
    obtain ⟨f, hfc⟩ := choose_lt each
    refine ⟨(List.range n).map fun i => (f i).2, (List.range n).map fun i => (f i).1, ⟨by rw [cellsL_length, List.length_map, List.length_range], hl, by omega, fun e => (by cases e), fun h0 => ⟨b, off, rfl, (hfc 0 h0).2.1, fun j v hj => ?_⟩⟩, by simp, fun j r p hr hp => ?_⟩
    · have hjl := (List.getElem?_eq_some_iff.1 hj).1
      rw [cellsL_length, List.length_map, List.length_range] at hjl
      have hq : j / 15 < n := by omega
      have e := cellsL_get (l := (List.range n).map fun i => (f i).1) (j := j / 15) (r := (f (j / 15)).1) (by simp [hq]) (j % 15)
      have hje : j / 15 * 15 + j % 15 = j := by omega
      obtain ⟨u, hu⟩ : ∃ u, (encL (f (j / 15)).1)[j % 15]? = some u := ⟨_, List.getElem?_eq_getElem (show j % 15 < 15 by omega)⟩
      have e2 := e u hu
      rw [hje, hj] at e2
      injection e2 with e2
      have := (hfc (j / 15) hq).1 (j % 15) u hu
      rw [hje] at this
      rw [this, e2]
    · obtain ⟨hjl, hjd⟩ := List.getElem?_eq_some_iff.1 hr
      have hjn : j < n := by simpa using hjl
      have h1 : (f j).1 = r := by rw [← hjd]; simp
      have h2 : (f j).2 = p := by
        obtain ⟨_, hpd⟩ := List.getElem?_eq_some_iff.1 hp
        rw [← hpd]; simp
      rw [← h1, ← h2]
      exact (hfc j hjn).2.2
end Fli
end Go.Proofs.Ytdcolnipdipkhaa

