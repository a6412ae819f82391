/- How copies, and lists of them, that came in are read. -/
import Derived.Test.YtbpijlghdpflgaaDoorRows
import Derived.Test.YtbpijlghdpflgaaDoorYc
import Derived.WalkKit
import Derived.ProofKit
import Derived.OpenShut
import Derived.ShutString
import Derived.ChangeOld
import Derived.Below
import Derived.SizedLaws
import Derived.Lib.SmallJoins
import Derived.Deep.Slices
namespace Go.Proofs.YtbpijlghdpflgaaDoor
open Go.ChangeShapes Go.WideShapes Go.ChangeAt Go.RowKit Go.Joins Go.Deep Eth

theorem own : ownKnob Tryd.prog.godebug = none := by kernel_rfl
theorem laidOut : laidOutB Tryd.prog = true := by kernel_rfl
theorem bytes_u8 : Tryd.prog.bytesOf 5 = 1 := by kernel_rfl
theorem bytes_cp : Tryd.prog.bytesOf 28 = 48 := by kernel_rfl
theorem cells_cp : Tryd.prog.cellsOf 28 = 4 := by kernel_rfl
theorem wf_u8 {a : Int} (h : (Lit.int .u8 a).wf = true) : 0 ≤ a ∧ a ≤ 255 := by
  have hmin : IntKind.u8.min = 0 := rfl
  have hmax : IntKind.u8.max = 255 := rfl
  simp only [Lit.wf, Bool.and_eq_true, decide_eq_true_eq] at h
  omega
theorem wf_u32 {a : Int} (h : (Lit.int .u32 a).wf = true) : 0 ≤ a ∧ a ≤ 4294967295 := by
  have hmin : IntKind.u32.min = 0 := rfl
  have hmax : IntKind.u32.max = 4294967295 := rfl
  simp only [Lit.wf, Bool.and_eq_true, decide_eq_true_eq] at h
  omega
/-- Bytes that came in. -/
theorem bytes_of_ints {H : Type} {W : World} {x : Addr} {l c : Nat} {zs : List Int} (hl : l ≤ c) (hz : zs.length = c)
    (hr : ((lits (H := H) .u8 (zs.take l)).length + (lits (H := H) .u8 (zs.drop l)).length) * Tryd.prog.bytesOf 5 ≤ reachBytes)
    (hcell : ∀ i, i < zs.length → W.cell? (x.add i) = some (.int .u8 (zs.getD i 0))) (hwz : ∀ n ∈ zs, (Lit.int .u8 n).wf = true) :
    Gs W W.heap.size (some x) l c 1 (cellsB ((zs.take l).map Int.toNat)) ∧ ∀ b ∈ (zs.take l).map Int.toNat, b < 256 := by
  have hc : c ≤ 140737488355328 := by
    rw [bytes_u8] at hr
    simp only [lits, List.length_map, List.length_take, List.length_drop, reachBytes] at hr
    omega
  refine ⟨⟨by rw [cellsB_length, List.length_map, List.length_take]; omega, hl, by omega, fun h => (by cases h), fun hn => ?_⟩, fun y hy => ?_⟩
  · obtain ⟨b, off, rfl, hc2⟩ := ints_at hcell (by omega)
    refine ⟨b, off, rfl, block_lt_of_cell (hc2 0 (by omega)), fun j v hj => ?_⟩
    have hjl : j < l := by
      have := (List.getElem?_eq_some_iff.1 hj).1
      rw [cellsB_length, List.length_map, List.length_take] at this
      omega
    rw [hc2 j (by omega)]
    unfold cellsB at hj
    rw [List.getElem?_map, List.getElem?_map, List.getElem?_take, if_pos hjl, List.getElem?_eq_getElem (by omega)] at hj
    injection hj with hj
    rw [← hj, List.getD_eq_getElem?_getD, List.getElem?_eq_getElem (by omega), Option.getD_some]
    show _ = some (Value.int .u8 ((zs[j].toNat : Nat) : Int))
    rw [Int.toNat_of_nonneg (wf_u8 (hwz _ (List.getElem_mem _))).1]
  · obtain ⟨z, hz1, rfl⟩ := List.mem_map.1 hy
    have := wf_u8 (hwz z (List.mem_of_mem_take hz1))
    omega
/-- The four cells of a copy that came in. -/
theorem copy_read {H : Type} {enc : TypeId × Value → H} {W : World} {n0 n1 n2 n3 : Nat} {v0 v1 v2 v3 : Value} {y0 y1 y2 y3 : DataW H × List MemPlace}
    (h0 : DataW.trod enc Tryd.prog W 0 (fun _ => true) true n0 3 [v0] = some y0) (h1 : DataW.trod enc Tryd.prog W 0 (fun _ => true) true n1 3 [v1] = some y1)
    (h2 : DataW.trod enc Tryd.prog W 0 (fun _ => true) true n2 26 [v2] = some y2) (h3 : DataW.trod enc Tryd.prog W 0 (fun _ => true) true n3 4 [v3] = some y3)
    (hw : ∀ m ∈ y2.1.weights Tryd.prog 26, m ≤ reachBytes) :
    ∃ (x y : Int) (D : Option Addr) (m d : Nat) (t : List Nat) (s : Bool), v0 = .int .i64 x ∧ v1 = .int .i64 y ∧ v2 = .slice D m d ∧ v3 = .bool s ∧ Gs W W.heap.size D m d 1 (cellsB t) ∧ ∀ b ∈ t, b < 256 := by
  obtain ⟨x, hx, _, _⟩ := DataW.trod_int Tryd.underlying3 h0
  obtain ⟨y, hy, _, _⟩ := DataW.trod_int Tryd.underlying3 h1
  obtain ⟨s, hs, _⟩ := DataW.trod_bool Tryd.underlying4 h3
  injection hx with hx
  injection hy with hy
  injection hs with hs
  subst hx hy hs
  rcases open_ints Tryd.underlying26 Tryd.underlying5 (by kernel_rfl) h2 with ⟨hcs, _⟩ | ⟨a, l, c, zs, hcs, _, hl, hm, hz, hx, hcell, hwz⟩
  · injection hcs with hcs
    subst hcs
    exact ⟨x, y, none, 0, 0, [], s, rfl, rfl, rfl, rfl, Gs.nil' W _ _, by simp⟩
  · injection hcs with hcs
    subst hcs
    subst hx
    have hr := hw (((lits (H := H) .u8 (zs.take l)).length + (lits (H := H) .u8 (zs.drop l)).length) * Tryd.prog.bytesOf 5) (by
      simp [DataW.weights, Tryd.underlying26])
    obtain ⟨g1, g2⟩ := bytes_of_ints hl (by simpa using hz) hr hcell hwz
    exact ⟨x, y, some a, l, c, _, s, rfl, rfl, rfl, rfl, g1, g2⟩

set_option maxRecDepth 100000 in
theorem copy_in {H : Type} {enc : TypeId × Value → H} {W : World} {r : Reach} {b0 : Nat} {v : Value} {d : DataW H} {p : List MemPlace} (hval : Value.okWide Tryd.prog W r b0 28 v)
    (h : DataW.Trod enc Tryd.prog W 0 (fun _ => true) true 28 v d p) (hw : ∀ m ∈ d.weights Tryd.prog 28, m ≤ reachBytes) :
    ∃ (x y : Int) (D : Option Addr) (m d : Nat) (t : List Nat) (s : Bool), v = .agg #[.int .i64 x, .int .i64 y, .slice D m d, .bool s] ∧ Gs W W.heap.size D m d 1 (cellsB t) ∧ ∀ b ∈ t, b < 256 := by
  obtain ⟨v0, v1, v2, v3, y0, y1, y2, y3, m, rfl, rfl, rfl, h0, h1, h2, h3⟩ := open_agg4 Tryd.underlying28 (by kernel_rfl) (by kernel_rfl) hval h
  obtain ⟨x, y, D, m', d', t, s, rfl, rfl, rfl, rfl, g1, g2⟩ := copy_read h0 h1 h2 h3 (fun q hq => hw q (by
    have hq2 : q ∈ DataW.weights Tryd.prog 26 y2.1 := hq
    simp [DataW.weights, DataW.weightsEach, Tryd.underlying28, hq2]))
  exact ⟨x, y, D, m', d', t, s, rfl, g1, g2⟩

theorem weights_all {H : Type} {P : Program} {e : TypeId} : ∀ {l : List (DataW H)} {d : DataW H}, d ∈ l → ∀ n ∈ d.weights P e, n ∈ DataW.weightsAll P e l
  | [], _, h, _, _ => by cases h
  | x :: l, d, h, n, hn => by
    simp only [DataW.weightsAll, List.mem_append]
    rcases List.mem_cons.1 h with rfl | h
    · exact Or.inl hn
    · exact Or.inr (weights_all h n hn)
theorem list4 {cs : List Value} (h : cs.length = 4) : ∃ a b c d, cs = [a, b, c, d] := by
  match cs, h with
  | [a, b, c, d], _ => exact ⟨a, b, c, d, rfl⟩
theorem block_lt_at {W : World} {b o : Nat} {v : Value} (h : W.cell? ⟨b, o, none⟩ = some v) : b < W.heap.size := by
  rcases Nat.lt_or_ge b W.heap.size with h1 | h1
  · exact h1
  · unfold World.cell? at h
    rw [Array.getElem?_eq_none h1] at h
    cases h
set_option maxRecDepth 100000 in
theorem copies_in {H : Type} {enc : TypeId × Value → H} {W : World} {A : Option Addr} {n c : Nat} {d : DataW H} {p : List MemPlace}
    (h : DataW.Trod enc Tryd.prog W 0 (fun _ => true) true 22 (.slice A n c) d p) (hw : ∀ m ∈ d.weights Tryd.prog 22, m ≤ reachBytes) : ∃ l, Cls W W.heap.size A n c l := by
  obtain ⟨fuel, hf⟩ := h
  rcases open_slice Tryd.underlying22 hf with ⟨hcs, _⟩ | ⟨a, len, cap, m, k, E, Pl, hcs, _, hl, hm, hmm, hx, hcell⟩
  · simp [Value.cells] at hcs
    obtain ⟨rfl, rfl, rfl⟩ := hcs
    exact ⟨[], Cls.nil' W _⟩
  · simp [Value.cells] at hcs
    obtain ⟨rfl, rfl, rfl⟩ := hcs
    have hd := congrArg Prod.fst hx
    change d = _ at hd
    subst hd
    clear hx
    simp only [if_true] at hmm
    rw [cells_cp] at hcell
    have hr := hw _ (show (((List.range n).map E).length + ((List.range (m - n)).map fun j => E (n + j)).length) * Tryd.prog.bytesOf 28 ∈ _ by simp [DataW.weights, Tryd.underlying22])
    rw [bytes_cp] at hr
    simp only [List.length_map, List.length_range, reachBytes] at hr
    rcases Nat.eq_zero_or_pos n with hz | hpos
    · subst hz
      exact ⟨[], Cls.none' W _ _ _⟩
    obtain ⟨b, off, spot⟩ := a
    have hspot : spot = none := by
      obtain ⟨cs', h1, h2⟩ := hcell 0 (by omega)
      obtain ⟨_, hlen, hc⟩ := World.cells?_some h1
      obtain ⟨v, hv⟩ : ∃ v, cs'[0]? = some v := ⟨_, List.getElem?_eq_getElem (by omega)⟩
      have e0 := (hc 0 (by omega)).trans hv
      simpa [Addr.add] using World.cell?_spot e0
    subst hspot
    have each : ∀ i, i < n → ∃ rp : Cr × Cp, (∀ (j : Nat) (v : Value), (encC rp.1)[j]? = some v → W.cell? ⟨b, off + (i * 4 + j), none⟩ = some v) ∧ b < W.heap.size ∧ Crd W W.heap.size rp.1 rp.2 := fun i hi => by
      obtain ⟨cs', h1, h2⟩ := hcell i (by omega)
      obtain ⟨_, hlen, hc⟩ := World.cells?_some h1
      obtain ⟨a0, a1, a2, a3, rfl⟩ := list4 hlen
      obtain ⟨y0, y1, y2, y3, n', hx, _, t0, t1, t2, t3⟩ := trod_struct4 Tryd.underlying28 h2
      have q0 : DataW.trod enc Tryd.prog W 0 (fun _ => true) true n' 3 [a0] = some y0 := t0
      have q1 : DataW.trod enc Tryd.prog W 0 (fun _ => true) true n' 3 [a1] = some y1 := t1
      have q2 : DataW.trod enc Tryd.prog W 0 (fun _ => true) true n' 26 [a2] = some y2 := t2
      have q3 : DataW.trod enc Tryd.prog W 0 (fun _ => true) true n' 4 [a3] = some y3 := t3
      have hE := congrArg Prod.fst hx
      change E i = _ at hE
      obtain ⟨x, y, D, m', d', t, s, rfl, rfl, rfl, rfl, g1, g2⟩ := copy_read q0 q1 q2 q3 (fun q hq => hw q (by
        simp only [DataW.weights, Tryd.underlying22, List.mem_cons, List.mem_append]
        refine Or.inr (Or.inl (weights_all (List.mem_map.2 ⟨i, List.mem_range.2 hi, rfl⟩) q ?_))
        rw [hE]
        have hq2 : q ∈ DataW.weights Tryd.prog 26 y2.1 := hq
        simp [DataW.weights, DataW.weightsEach, Tryd.underlying28, hq2]))
      refine ⟨((x, y, (D, m', d'), s), (x, y, t, s)), fun j v hv => ?_, ?_, Crd.in_ g1 g2⟩
      · have hj : j < 4 := (List.getElem?_eq_some_iff.1 hv).1
        have := hc j hj
        rw [Addr.add_lit, Addr.add_lit, Nat.add_assoc] at this
        exact this.trans hv
      · have e0 := hc 0 (by omega)
        rw [Addr.add_lit, Addr.add_lit] at e0
        exact block_lt_at (e0.trans rfl)
    obtain ⟨f, hfc⟩ := choose_lt each
    refine ⟨(List.range n).map fun i => (f i).2, (List.range n).map fun i => (f i).1, ⟨by rw [cellsC_length, List.length_map, List.length_range], hl, by omega, fun e => (by cases e), fun h0 => ⟨b, off, rfl, (hfc 0 h0).2.1, fun j v hj => ?_⟩⟩, by simp, fun j r p hr hp => ?_⟩
    · have hjl := (List.getElem?_eq_some_iff.1 hj).1
      rw [cellsC_length, List.length_map, List.length_range] at hjl
      have hq : j / 4 < n := by omega
      have e := cellsC_get (l := (List.range n).map fun i => (f i).1) (j := j / 4) (r := (f (j / 4)).1) (by simp [hq]) (j % 4)
      have hje : j / 4 * 4 + j % 4 = j := by omega
      obtain ⟨u, hu⟩ : ∃ u, (encC (f (j / 4)).1)[j % 4]? = some u := ⟨_, List.getElem?_eq_getElem (show j % 4 < 4 by omega)⟩
      have e2 := e u hu
      rw [hje, hj] at e2
      injection e2 with e2
      have := (hfc (j / 4) hq).1 (j % 4) u hu
      rw [hje] at this
      rw [this, e2]
    · obtain ⟨hjl, hjd⟩ := List.getElem?_eq_some_iff.1 hr
      have hjn : j < n := by simpa using hjl
      have h1 : (f j).1 = r := by rw [← hjd]; simp
      have h2 : (f j).2 = p := by
        obtain ⟨_, hpd⟩ := List.getElem?_eq_some_iff.1 hp
        rw [← hpd]; simp
      rw [← h1, ← h2]
      exact (hfc j hjn).2.2
end Go.Proofs.YtbpijlghdpflgaaDoor
