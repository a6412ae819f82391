/- append of a list of descriptors onto one of the call's own. -/
import Derived.Test.YtdemhghflanncaaKbs2
namespace Go.Proofs.Ytdemhghflanncaa
open Go.RowKit Go.Shelf Go.Lib

theorem Ds.cells {w : World} {B n c : Nat} {A : Option Addr} {l : List De} (h : Ds w B A n c l) {b off : Nat} (hA : A = some ⟨b, off, none⟩) : ∀ j u, (cellsD l)[j]? = some u → w.cell? ((⟨b, off, none⟩ : Addr).add j) = some u := by
  intro j u hj
  have hjl := (List.getElem?_eq_some_iff.1 hj).1
  rw [cellsD_length, h.len] at hjl
  obtain ⟨b', off', e, _, hc⟩ := h.at_ (by omega)
  rw [hA] at e
  injection e with e
  injection e with e1 e2
  subst e1
  subst e2
  obtain ⟨d, hd⟩ := h.get (show j / 2 < n by omega)
  obtain ⟨c1, c2⟩ := hc _ d hd
  obtain ⟨g1, g2⟩ := cellsD_get hd
  rw [Addr.add_lit]
  rcases Nat.mod_two_eq_zero_or_one j with h0 | h0
  · have e : j / 2 * 2 = j := by omega
    rw [e] at c1 g1
    rw [hj] at g1
    injection g1 with g1
    rw [g1]
    exact c1
  · have e : j / 2 * 2 + 1 = j := by omega
    rw [Nat.add_assoc, e] at c2
    rw [e] at g2
    rw [hj] at g2
    injection g2 with g2
    rw [g2]
    exact c2

theorem run_appD {w : World} {B C m c : Nat} {v : Value} {A : Option Addr} {l r : List De} (ty : TypeId) (hO : Od w B v l) (hD : Ds w C A m c r) (hn : l.length + m ≤ 100000) (hB : B ≤ w.heap.size) :
    ∃ v' w', (Builtin.append_ #[27, 27] ty #[v, .slice A m c]).run Try.prog w = .ok v' w' ∧ Turned w w' B v v' (l ++ r) := by
  obtain ⟨i0, hi0, hz0, hzs, hzb⟩ := info_parts infoD
  rcases Nat.eq_zero_or_pos m with h0 | h0
  · subst h0
    obtain rfl := List.length_eq_zero_iff.1 hD.len
    refine ⟨v, w, ?_, ⟨by rw [List.append_nil]; exact hO, ⟨rfl, rfl, rfl, Nat.le_refl _, fun _ _ _ => rfl⟩, .inl rfl⟩⟩
    obtain ⟨D, d, rfl, hF, _⟩ := hO.form
    have hc := hF.cap
    cases D with
    | none =>
      obtain ⟨e1, e2⟩ := hF.nil rfl
      rw [e1, e2]
      cases A <;> simp [Builtin.append_, run_underlying Try.underlying27, sizeOf, typeInfo, hi0, Builtin.lenOf, Builtin.firstCells, loadCells, loadCellsFrom]
    | some a =>
      cases A <;> simp [Builtin.append_, run_underlying Try.underlying27, sizeOf, typeInfo, hi0, Builtin.lenOf, Builtin.firstCells, loadCells, loadCellsFrom, storeCells, hc]
  · obtain ⟨b, off, rfl, _, _⟩ := hD.at_ h0
    obtain ⟨v', w', hr, h2, h3, _, h5⟩ := run_append_own_at (P := Try.prog) w B 27 ty 23 i0 _ 2 16 Try.underlying27 hi0 hz0 hzs hzb rfl (by decide) v l.length _ hO.own ⟨b, off, none⟩ m c (cellsD r) (by rw [cellsD_length, hD.len]) (hD.cells rfl) (cellsD_one_cell r) (by unfold maxLen; omega) (by omega) hB
    refine ⟨v', w', hr, ⟨⟨?_, by rw [List.length_append, hD.len]; exact hn⟩, h3, h5⟩⟩
    rw [List.length_append, hD.len, cellsD_append]
    exact h2

/-- At the operation, in a plain region. -/
theorem list_appD {w : World} {ops : Array Oper} {rest : List Oper} {o : Oper} {a : Act} {Q : Exit → Act → World → Prop} (hgd : o.guard = none) (s x : Operand)
    (ho : o.op = .call { callee := .builtin .append, args := #[s, x], argTypes := #[27, 27] }) {B C m c : Nat} {v : Value} {A : Option Addr} {l r : List De} (hs : a.eval s = v) (hx : a.eval x = .slice A m c)
    (hO : Od w B v l) (hD : Ds w C A m c r) (hn : l.length + m ≤ 100000) (hB : B ≤ w.heap.size)
    (h : ∀ v' w', Hid (Turned w w' B v v' (l ++ r)) → wpList Try.prog ops Q rest (a.put o.dst v') w') : wpList Try.prog ops Q (o :: rest) a w := by
  obtain ⟨v', w', hr, hT⟩ := run_appD o.type hO hD hn hB
  exact Lib.wpList_append_run w hgd s x _ _ ho _ _ hs hx v' w' hr (h v' w' (hid hT))
/-- At a step of a region that draws its order. -/
theorem step_appD {w : World} {ops : Array Oper} {o : Oper} {a : Act} {K : Act → World → Prop} {Q : Exit → Act → World → Prop} {E : Prop} (hgd : o.guard = none) (s x : Operand)
    (ho : o.op = .call { callee := .builtin .append, args := #[s, x], argTypes := #[27, 27] }) {B C m c : Nat} {v : Value} {A : Option Addr} {l r : List De} (hs : a.eval s = v) (hx : a.eval x = .slice A m c)
    (hO : Od w B v l) (hD : Ds w C A m c r) (hn : l.length + m ≤ 100000) (hB : B ≤ w.heap.size)
    (h : ∀ v' w', Hid (Turned w w' B v v' (l ++ r)) → K (a.put o.dst v') w') : if Region.wanted o (yielded ops a.tmps) = true then Oper.wp Try.prog o a w K Q else E := by
  obtain ⟨v', w', hr, hT⟩ := run_appD o.type hO hD hn hB
  have hw : Region.wanted o (yielded ops a.tmps) = true := by simp [Region.wanted, hgd]
  rw [if_pos hw]
  exact Lib.wp_append_run w s x _ _ ho _ _ hs hx v' w' hr (h v' w' (hid hT))
end Go.Proofs.Ytdemhghflanncaa
