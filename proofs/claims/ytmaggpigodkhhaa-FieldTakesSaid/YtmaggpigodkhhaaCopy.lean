/- 'append(x, y...)', and copies by it. -/
import Derived.Test.YtmaggpigodkhhaaMem
import Derived.Laws.AppendOwnNone
namespace Go.Proofs.Ytmaggpigodkhhaa
open Go.RowKit

/-- 'append(x, y...)', x a row of the call's own, y read from wherever, or nil. -/
theorem wpList_append_src {P : Program} {ops : Array Oper} {rest : List Oper} {o : Oper} {a : Act} {Q : Exit → Act → World → Prop} (hgd : o.guard = none) (s x : Operand) (t : TypeId)
    (ho : o.op = .call { callee := .builtin .append, args := #[s, x], argTypes := #[t, t] }) (e : TypeId) (z : Value) (bytes : Nat) (ht : P.underlying t = some (.slice e))
    (hi : (P.info? e).map (fun i => (i.zero, i.size, i.bytes)) = some (some z, 1, bytes)) (hz : z.cells.size = 1) (hby : bytes ≤ 8)
    {w : World} {B n m c : Nat} {v : Value} {xs news : List Value} {A : Option Addr} (hs : a.eval s = v) (hx : a.eval x = .slice A m c) (hown : w.ownsRow B e 1 v n xs) (hB : B ≤ w.heap.size)
    (hl : news.length = m) (hnil : A = none → m = 0 ∧ c = 0) (hcells : ∀ p, A = some p → ∀ j u, news[j]? = some u → w.cell? (p.add j) = some u) (hu : ∀ u ∈ news, u.oneCell' = true) (hn : n + m ≤ 17592186044416)
    (h : ∀ v' w', Hid (w'.ownsRow B e 1 v' (n + m) (xs ++ news)) → Hid (Below B w w') → wpList P ops Q rest (a.put o.dst v') w') : wpList P ops Q (o :: rest) a w := by
  obtain ⟨i0, hi, hz0, hz1, hz2⟩ := info_one hi
  cases A with
  | none =>
    obtain ⟨rfl, rfl⟩ := hnil rfl
    obtain rfl : news = [] := List.length_eq_zero_iff.1 hl
    refine wpList_append_own_none hgd s x t ho B e i0 1 ht hi v n xs hs hown hx ?_
    have hh := h v w
    rw [List.append_nil, Nat.add_zero] at hh
    exact hh hown (Below.refl _ _)
  | some p =>
    refine wpList_append_own _ hgd s x t ho B e i0 z 1 bytes ht hi hz0 hz1 hz2 hz (by decide) v n xs hs hown p m c news hx (by omega) (hcells p rfl) hu ?_ ?_ hB ?_
    · unfold maxLen
      omega
    · have : (n + m) * bytes ≤ (n + m) * 8 := Nat.mul_le_mul_left _ hby
      omega
    · intro v' w' hown' hgr _
      refine h v' w' hown' ((Below.refl _ _).grown hgr hB ?_)
      intro k hk
      rcases hown with ⟨_, ⟨rfl, _⟩ | ⟨g, cap, cur, rfl, hg, _⟩⟩
      · cases hk
      · injection hk with hk
        subst hk
        exact hg

/-- 'append([]T{}, y...)': what is handed back is of the call's own, and reads as y does. -/
theorem wpList_append_copy {P : Program} {ops : Array Oper} {rest : List Oper} {o : Oper} {a : Act} {Q : Exit → Act → World → Prop} (hgd : o.guard = none) (s x : Operand) (t : TypeId)
    (ho : o.op = .call { callee := .builtin .append, args := #[s, x], argTypes := #[t, t] }) (e : TypeId) (z : Value) (bytes : Nat) (ht : P.underlying t = some (.slice e))
    (hi : (P.info? e).map (fun i => (i.zero, i.size, i.bytes)) = some (some z, 1, bytes)) (hz : z.cells.size = 1) (hby : bytes ≤ 8)
    {w : World} {m c : Nat} {news : List Value} {A : Option Addr} (hs : a.eval s = .slice (some ⟨w.heap.size, 0, none⟩) 0 0) (hx : a.eval x = .slice A m c)
    (hl : news.length = m) (hnil : A = none → m = 0 ∧ c = 0) (hcells : ∀ p, A = some p → ∀ j u, news[j]? = some u → w.cell? (p.add j) = some u) (hu : ∀ u ∈ news, u.oneCell' = true) (hn : m ≤ 17592186044416)
    (h : ∀ v' w', Hid (w'.ownsRow w.heap.size e 1 v' m news) → Hid (Below w.heap.size w w') → wpList P ops Q rest (a.put o.dst v') w') : wpList P ops Q (o :: rest) a (w.alloc (.cells #[] e)) := by
  have bel : Below w.heap.size w (w.alloc (.cells #[] e)) := (Below.refl _ w).alloc (Nat.le_refl _) _
  refine wpList_append_src hgd s x t ho e z bytes ht hi hz hby (B := w.heap.size) (n := 0) (xs := []) hs hx ⟨rfl, .inr ⟨w.heap.size, 0, #[], rfl, Nat.le_refl _, heap_alloc_new w _, Nat.le_refl _, by unfold maxLen; omega, rfl, rfl⟩⟩ (by simp) hl hnil ?_ hu (by omega) ?_
  · intro p hp j u hj
    have hc := hcells p hp j u hj
    have hb : (p.add j).block < w.heap.size := block_lt_of_cell hc
    exact (bel.cell hb).trans hc
  · intro v' w' hown' hbel'
    rw [Nat.zero_add, List.nil_append] at hown'
    exact h v' w' hown' (bel.trans hbel'.out)

/-- A row of the call's own, its cells the limbs f. -/
theorem rd_of_row {w : World} {B n : Nat} {v : Value} {f : Nat → Nat} (h : w.ownsRow B 50 1 v n ((List.range n).map fun j => Value.int .u32 (f j : Int))) (hmax : n ≤ 140737488355328) (hlt : ∀ j, f j < 4294967296) (hout : ∀ j, n ≤ j → f j = 0) :
    ∃ A c, v = .slice A n c ∧ Rd w w.heap.size A n c f := by
  obtain ⟨_, hor⟩ := h
  rcases hor with ⟨rfl, rfl⟩ | ⟨g, cap, cur, rfl, hg, hh, hn, hc, hs, ht⟩
  · exact ⟨none, 0, rfl, ⟨Nat.le_refl _, hmax, hlt, hout, fun h => absurd h (by omega)⟩⟩
  · refine ⟨some ⟨g, 0, none⟩, cap, rfl, ⟨hn, hmax, hlt, hout, fun _ => ⟨g, 0, rfl, lt_of_heap hh, fun j hj => ?_⟩⟩⟩
    rw [Nat.zero_add, cell_of_row w g j cur 50 (0, 0) hh, ← Array.getElem?_toList]
    have e : ((List.range n).map fun j => Value.int .u32 (f j : Int))[j]? = some (.int .u32 (f j : Int)) := by simp [hj]
    rw [← ht, List.getElem?_take, Nat.mul_one, if_pos hj] at e
    exact e

theorem cells_of_rd {w : World} {B n c : Nat} {A : Option Addr} {f : Nat → Nat} (h : Rd w B A n c f) : ∀ p, A = some p → ∀ (j : Nat) (u : Value), ((List.range n).map fun j => Value.int .u32 (f j : Int))[j]? = some u → w.cell? (p.add j) = some u := by
  intro p hp j u hj
  have hjn : j < n := by
    rcases Nat.lt_or_ge j n with h | h
    · exact h
    · rw [List.getElem?_eq_none (by simpa using h)] at hj; cases hj
  obtain ⟨b, off, rfl, _, hc⟩ := h.at_ (by omega)
  injection hp with hp
  subst hp
  simp [hjn] at hj
  subst hj
  have : (⟨b, off, none⟩ : Addr).add j = ⟨b, off + j, none⟩ := by unfold Addr.add; simp
  rw [this]
  exact hc j hjn


end Go.Proofs.Ytmaggpigodkhhaa
