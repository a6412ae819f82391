/- How a list of masses that came in is read. -/
import Derived.Test.YtelalanhalbicaaDoorMframe
import Derived.Test.YtelalanhalbicaaDoorMy3
import Derived.Deep.Slices
namespace Go.Proofs.YtelalanhalbicaaDoor
open Go.ChangeShapes Go.WideShapes Go.ChangeAt Go.RowKit Go.Joins Go.Deep

theorem weights_all {H : Type} {P : Program} {e : TypeId} : ∀ {l : List (DataW H)} {d : DataW H}, d ∈ l → ∀ n ∈ d.weights P e, n ∈ DataW.weightsAll P e l
  | [], _, h, _, _ => by cases h
  | x :: l, d, h, n, hn => by
    simp only [DataW.weightsAll, List.mem_append]
    rcases List.mem_cons.1 h with rfl | h
    · exact Or.inl hn
    · exact Or.inr (weights_all h n hn)

set_option maxRecDepth 100000 in
theorem dyad_len {H : Type} {enc : TypeId × Value → H} {W : World} {n m c : Nat} {A : Option Addr} {c0 c2 : Value} {y : DataW H × List MemPlace} (h : DataW.trod enc Tryd.prog W 0 (fun _ => true) true n 24 [c0, .slice A m c, c2] = some y) (hw : ∀ m ∈ y.1.weights Tryd.prog 24, m ≤ reachBytes) : m ≤ 35184372087808 := by
  obtain ⟨y0, y1, y2, n', hx, _, h0, h1, h2⟩ := trod_struct3 Tryd.underlying24 h
  have k1 : DataW.trod enc Tryd.prog W 0 (fun _ => true) true n' 22 [.slice A m c] = some y1 := h1
  rcases open_ints Tryd.underlying22 Tryd.underlying71 (by kernel_rfl) k1 with ⟨hcs, _⟩ | ⟨a, l, c, zs, hcs, _, hl, hm, hz, hx1, hcell, hwz⟩
  · injection hcs with hcs
    injection hcs with _ e _
    omega
  · injection hcs with hcs
    injection hcs with _ e _
    subst hx1
    subst hx
    have hr := hw (((lits (H := H) .u32 (zs.take l)).length + (lits (H := H) .u32 (zs.drop l)).length) * Tryd.prog.bytesOf 71) (by
      simp [DataW.weights, DataW.weightsEach, Tryd.underlying24, Tryd.underlying22])
    have h4 : Tryd.prog.bytesOf 71 = 4 := by kernel_rfl
    have hz : zs.length = c := by simpa using hz
    rw [h4] at hr
    simp only [lits, List.length_map, List.length_take, List.length_drop, reachBytes] at hr
    omega
set_option maxRecDepth 100000 in
theorem mass_read {H : Type} {enc : TypeId × Value → H} {W : World} {n : Nat} {cs : List Value} {y : DataW H × List MemPlace} (hf : DataW.trod enc Tryd.prog W 0 (fun _ => true) true n 26 cs = some y) (h12 : cs.length = 12) (hw : ∀ m ∈ y.1.weights Tryd.prog 26, m ≤ reachBytes) :
    ∃ D, cs = (mcells D).toList ∧ Mrd W W.heap.size D ∧ (∀ k, k < 4 → (D k).A = none → (D k).n = 0 ∧ (D k).c = 0) ∧ ∀ k, k < 4 → (D k).n ≤ 35184372087808 := by
  obtain ⟨a0, a1, a2, a3, a4, a5, a6, a7, a8, a9, a10, a11, hl⟩ := list12 h12
  subst hl
  obtain ⟨y0, y1, y2, y3, n, hx, _, h0, h1, h2, h3⟩ := trod_struct4 Tryd.underlying26 hf
  subst hx
  have w4 : ∀ m, (m ∈ y0.1.weights Tryd.prog 24 ∨ m ∈ y1.1.weights Tryd.prog 24 ∨ m ∈ y2.1.weights Tryd.prog 24 ∨ m ∈ y3.1.weights Tryd.prog 24) → m ≤ reachBytes := fun m hm => hw m (by
    simpa [DataW.weights, DataW.weightsEach, Tryd.underlying26] using hm)
  obtain ⟨d0, e00, e01, e02, r0, n0⟩ := dyad_read (c0 := a0) (c1 := a1) (c2 := a2) h0 (fun m hm => w4 m (.inl hm))
  obtain ⟨d1, e10, e11, e12, r1, n1⟩ := dyad_read (c0 := a3) (c1 := a4) (c2 := a5) h1 (fun m hm => w4 m (.inr (.inl hm)))
  obtain ⟨d2, e20, e21, e22, r2, n2⟩ := dyad_read (c0 := a6) (c1 := a7) (c2 := a8) h2 (fun m hm => w4 m (.inr (.inr (.inl hm))))
  obtain ⟨d3, e30, e31, e32, r3, n3⟩ := dyad_read (c0 := a9) (c1 := a10) (c2 := a11) h3 (fun m hm => w4 m (.inr (.inr (.inr hm))))
  subst e00 e01 e02 e10 e11 e12 e20 e21 e22 e30 e31 e32
  have l0 := dyad_len h0 (fun m hm => w4 m (.inl hm))
  have l1 := dyad_len h1 (fun m hm => w4 m (.inr (.inl hm)))
  have l2 := dyad_len h2 (fun m hm => w4 m (.inr (.inr (.inl hm))))
  have l3 := dyad_len h3 (fun m hm => w4 m (.inr (.inr (.inr hm))))
  refine ⟨fun k => match k with | 0 => d0 | 1 => d1 | 2 => d2 | _ => d3, rfl, ?_, ?_, ?_⟩
  · intro k hk
    have hc : k = 0 ∨ k = 1 ∨ k = 2 ∨ k = 3 := by omega
    rcases hc with rfl | rfl | rfl | rfl <;> assumption
  · intro k hk
    have hc : k = 0 ∨ k = 1 ∨ k = 2 ∨ k = 3 := by omega
    rcases hc with rfl | rfl | rfl | rfl <;> assumption
  · intro k hk
    have hc : k = 0 ∨ k = 1 ∨ k = 2 ∨ k = 3 := by omega
    rcases hc with rfl | rfl | rfl | rfl <;> assumption

theorem block_lt_at {W : World} {b o : Nat} {v : Value} (h : W.cell? ⟨b, o, none⟩ = some v) : b < W.heap.size := by
  rcases Nat.lt_or_ge b W.heap.size with h1 | h1
  · exact h1
  · unfold World.cell? at h
    rw [Array.getElem?_eq_none h1] at h
    cases h
instance : Inhabited (Nat → Dy) := ⟨D0⟩
/-- A list of masses that came in. -/
structure Mls (W : World) (A : Option Addr) (n c : Nat) (D : Nat → Nat → Dy) : Prop where
  lie : Mlist W A n D
  cap : n ≤ c
  max : n ≤ 879609302208
  rd : ∀ i, i < n → Mrd W W.heap.size (D i)
  nil : ∀ i, i < n → ∀ k, k < 4 → (D i k).A = none → (D i k).n = 0 ∧ (D i k).c = 0
  big : ∀ i, i < n → ∀ k, k < 4 → (D i k).n ≤ 35184372087808
theorem cells_mass : Tryd.prog.cellsOf 26 = 12 := by kernel_rfl
theorem bytes_mass : Tryd.prog.bytesOf 26 = 160 := by kernel_rfl
theorem masses_in {H : Type} {enc : TypeId × Value → H} {W : World} {A : Option Addr} {n c : Nat} {d : DataW H} {p : List MemPlace}
    (h : DataW.Trod enc Tryd.prog W 0 (fun _ => true) true 45 (.slice A n c) d p) (hw : ∀ m ∈ d.weights Tryd.prog 45, m ≤ reachBytes) : ∃ D, Mls W A n c D := by
  obtain ⟨fuel, hf⟩ := h
  rcases open_slice Tryd.underlying45 hf with ⟨hcs, _⟩ | ⟨a, len, cap, m, k, E, Pl, hcs, _, hl, hm, hmm, hx, hcell⟩
  · simp [Value.cells] at hcs
    obtain ⟨rfl, rfl, rfl⟩ := hcs
    exact ⟨fun _ => D0, fun h => absurd h (Nat.lt_irrefl 0), Nat.le_refl 0, Nat.zero_le _, fun i hi => absurd hi (Nat.not_lt_zero _), fun i hi => absurd hi (Nat.not_lt_zero _), fun i hi => absurd hi (Nat.not_lt_zero _)⟩
  · simp [Value.cells] at hcs
    obtain ⟨rfl, rfl, rfl⟩ := hcs
    have hd := congrArg Prod.fst hx
    change d = _ at hd
    subst hd
    clear hx
    simp only [if_true] at hmm
    rw [cells_mass] at hcell
    have hr := hw _ (show (((List.range n).map E).length + ((List.range (m - n)).map fun j => E (n + j)).length) * Tryd.prog.bytesOf 26 ∈ _ by simp [DataW.weights, Tryd.underlying45])
    rw [bytes_mass] at hr
    simp only [List.length_map, List.length_range, reachBytes] at hr
    rcases Nat.eq_zero_or_pos n with hz | hpos
    · subst hz
      exact ⟨fun _ => D0, fun h => absurd h (Nat.lt_irrefl 0), hl, by omega, fun i hi => absurd hi (Nat.not_lt_zero _), fun i hi => absurd hi (Nat.not_lt_zero _), fun i hi => absurd hi (Nat.not_lt_zero _)⟩
    obtain ⟨b, off, spot⟩ := a
    have hspot : spot = none := by
      obtain ⟨cs', h1, h2⟩ := hcell 0 (by omega)
      obtain ⟨_, hlen, hc⟩ := World.cells?_some h1
      obtain ⟨v, hv⟩ : ∃ v, cs'[0]? = some v := ⟨_, List.getElem?_eq_getElem (by omega)⟩
      have e0 := (hc 0 (by omega)).trans hv
      simpa [Addr.add] using World.cell?_spot e0
    subst hspot
    have each : ∀ i, i < n → ∃ D : Nat → Dy, W.rangeAt b (off + i * 12) (mcells D).toList ∧ b < W.heap.size ∧ Mrd W W.heap.size D ∧ (∀ k, k < 4 → (D k).A = none → (D k).n = 0 ∧ (D k).c = 0) ∧ ∀ k, k < 4 → (D k).n ≤ 35184372087808 := fun i hi => by
      obtain ⟨cs', h1, h2⟩ := hcell i (by omega)
      obtain ⟨_, hlen, hc⟩ := World.cells?_some h1
      obtain ⟨D, hD, hR, hN, hB⟩ := mass_read h2 hlen (fun q hq => hw q (by
        simp only [DataW.weights, Tryd.underlying45, List.mem_cons, List.mem_append]
        exact Or.inr (Or.inl (weights_all (List.mem_map.2 ⟨i, List.mem_range.2 hi, rfl⟩) q hq))))
      subst hD
      refine ⟨D, fun j v hv => ?_, ?_, hR, hN, hB⟩
      · have hj : j < 12 := (List.getElem?_eq_some_iff.1 hv).1
        have := hc j hj
        rw [Addr.add_lit, Addr.add_lit] at this
        exact this.trans hv
      · have e0 := hc 0 (by omega)
        rw [Addr.add_lit, Addr.add_lit] at e0
        exact block_lt_at (e0.trans rfl)
    obtain ⟨f, hfc⟩ := choose_lt each
    exact ⟨f, fun h0 => ⟨b, off, rfl, (hfc 0 h0).2.1, fun i hi => (hfc i hi).1⟩, hl, by omega, fun i hi => (hfc i hi).2.2.1, fun i hi => (hfc i hi).2.2.2.1, fun i hi => (hfc i hi).2.2.2.2⟩
end Go.Proofs.YtelalanhalbicaaDoor
