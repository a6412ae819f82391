/- Lists of numbers (uint64) in memory, and of a call's own; append onto one. -/
import Derived.Test.YtdemhghflanncaaKapp
namespace Go.Proofs.Ytdemhghflanncaa
open Go.RowKit Go.Shelf Go.Lib

/-- The slice value '.slice A n c' reads, in the world w, as the numbers l, below block B. -/
structure Us (w : World) (B : Nat) (A : Option Addr) (n c : Nat) (l : List Nat) : Prop where
  len : l.length = n
  cap : n ≤ c
  max : n ≤ 140737488355328
  nil : A = none → n = 0 ∧ c = 0
  fit : ∀ d, d ∈ l → d < 18446744073709551616
  at_ : 0 < n → ∃ b off, A = some ⟨b, off, none⟩ ∧ b < B ∧ ∀ (j : Nat) (d : Nat), l[j]? = some d → w.cell? ⟨b, off + j, none⟩ = some (.int .u64 (d : Int))
section
variable {w w' : World} {B n c : Nat} {A : Option Addr} {l : List Nat}
theorem Us.below (h : Us w B A n c l) (hb : Below B w w') : Us w' B A n c l :=
  ⟨h.len, h.cap, h.max, h.nil, h.fit, fun hn => by
    obtain ⟨b, off, rfl, hB, hc⟩ := h.at_ hn
    exact ⟨b, off, rfl, hB, fun j d hj => (hb.cell (p := ⟨b, off + j, none⟩) hB).trans (hc j d hj)⟩⟩
theorem Us.mono {B' : Nat} (h : Us w B A n c l) (hb : B ≤ B') : Us w B' A n c l :=
  ⟨h.len, h.cap, h.max, h.nil, h.fit, fun hn => by
    obtain ⟨b, off, rfl, hB, hc⟩ := h.at_ hn
    exact ⟨b, off, rfl, by omega, hc⟩⟩
theorem Us.nil' (w : World) (B : Nat) : Us w B none 0 0 [] := ⟨rfl, Nat.le_refl _, by omega, fun _ => ⟨rfl, rfl⟩, by simp, fun h => absurd h (by omega)⟩
theorem Us.get (h : Us w B A n c l) {k : Nat} (hk : k < n) : ∃ d, l[k]? = some d := ⟨l[k]'(by rw [h.len]; exact hk), List.getElem?_eq_getElem _⟩
theorem Us.none' (w : World) (B c : Nat) (a : Addr) : Us w B (some a) 0 c [] := ⟨rfl, Nat.zero_le _, by omega, fun e => (by cases e), by simp, fun h => absurd h (by omega)⟩
theorem Us.first (h : Us w B A n c l) {p : Nat} (hp : p ≤ n) : Us w B A p c (l.take p) := by
  have hl := h.len
  have hcap := h.cap
  refine ⟨by rw [List.length_take]; omega, by omega, Nat.le_trans (by omega) h.max, fun hA => ?_, fun d hd => h.fit d (List.mem_of_mem_take hd), fun h0 => ?_⟩
  · have := h.nil hA
    omega
  · obtain ⟨b, off, rfl, hB, hc⟩ := h.at_ (by omega)
    refine ⟨b, off, rfl, hB, fun j d hj => hc j d ?_⟩
    rw [List.getElem?_take] at hj
    split at hj
    · exact hj
    · cases hj
end
/-- The cells of numbers. -/
def cellsU (l : List Nat) : List Value := l.map fun (d : Nat) => .int .u64 (d : Int)
theorem cellsU_length (l : List Nat) : (cellsU l).length = l.length := by unfold cellsU; exact List.length_map _
theorem cellsU_append (l m : List Nat) : cellsU (l ++ m) = cellsU l ++ cellsU m := by unfold cellsU; exact List.map_append
theorem cellsU_get {l : List Nat} {j d : Nat} (h : l[j]? = some d) : (cellsU l)[j]? = some (.int .u64 (d : Int)) := by
  unfold cellsU
  rw [List.getElem?_map, h]
  rfl
theorem cellsU_one_cell (l : List Nat) : ∀ v ∈ cellsU l, v.oneCell' = true := by
  intro v hv
  obtain ⟨d, _, rfl⟩ := List.mem_map.1 hv
  rfl
/-- The value v is a slice of the call's own, from block B on, that holds l. -/
structure Ou (w : World) (B : Nat) (v : Value) (l : List Nat) : Prop where
  own : w.ownsRow B 30 1 v l.length (cellsU l)
  max : l.length ≤ 100000
  fit : ∀ d, d ∈ l → d < 18446744073709551616
theorem Ou.nil (w : World) (B : Nat) : Ou w B (.slice none 0 0) [] := ⟨World.ownsRow_nil w B _ _, by simp, by simp⟩
theorem Ou.kept {w w' : World} {B : Nat} {v : Value} {l : List Nat} {row : Option Nat} (h : Ou w B v l) (hg : w.grownBy w' row) (hne : v.ownBlock = none ∨ v.ownBlock ≠ row) : Ou w' B v l := ⟨h.own.kept hg hne, h.max, h.fit⟩
theorem Ou.below {w w' : World} {B : Nat} {v : Value} {l : List Nat} (h : Ou w B v l) (hb : Below w.heap.size w w') : Ou w' B v l := h.kept (below_grown hb) (by cases v.ownBlock <;> simp)
theorem Ou.mono {w : World} {B C : Nat} {v : Value} {l : List Nat} (h : Ou w B v l) (hC : C ≤ B) : Ou w C v l := by
  obtain ⟨⟨hl, hor⟩, hm, hf⟩ := h
  refine ⟨⟨hl, ?_⟩, hm, hf⟩
  rcases hor with h | ⟨g, cap, cur, h1, h2, h3⟩
  · exact .inl h
  · exact .inr ⟨g, cap, cur, h1, Nat.le_trans hC h2, h3⟩
theorem Ou.form {w : World} {B : Nat} {v : Value} {l : List Nat} (h : Ou w B v l) : ∃ A n c, v = .slice A n c ∧ Ou w B (.slice A n c) l ∧ Us w w.heap.size A n c l ∧ c ≤ maxLen ∧ ∀ a, A = some a → B ≤ a.block := by
  have h0 := h
  obtain ⟨⟨hl, hor⟩, hm, hf⟩ := h
  rcases hor with ⟨rfl, h1⟩ | ⟨g, cap, cur, rfl, hB, hg, hn, hc, hs, ht⟩
  · obtain rfl := List.length_eq_zero_iff.1 h1
    exact ⟨none, 0, 0, rfl, h0, Us.nil' w _, by unfold maxLen; omega, fun a e => (by cases e)⟩
  · refine ⟨some ⟨g, 0, none⟩, l.length, cap, rfl, h0, ⟨rfl, hn, by omega, fun e => (by cases e), hf, fun _ => ⟨g, 0, rfl, lt_of_heap hg, fun j d hj => ?_⟩⟩, hc, fun a e => ?_⟩
    · have hj2 := (List.getElem?_eq_some_iff.1 hj).1
      have e1 := cellsU_get hj
      rw [← ht, List.getElem?_take, if_pos (by omega)] at e1
      rw [cell_of_row w g _ cur _ (0, 0) hg, Nat.zero_add]
      simpa using e1
    · injection e with e
      rw [← e]
      exact hB
theorem ou_lt {w : World} {B : Nat} {v : Value} {l : List Nat} (h : Ou w B v l) : ∀ k, v.ownBlock = some k → B ≤ k ∧ k < w.heap.size := h.own.lt
/-- What a change of an own list leaves. -/
structure TurnU (w w' : World) (B : Nat) (v v' : Value) (l : List Nat) : Prop where
  own : Ou w' B v' l
  grown : w.grownBy w' v.ownBlock
  at_ : v'.ownBlock = v.ownBlock ∨ v'.ownBlock = some w.heap.size
theorem TurnU.below {w w' : World} {B : Nat} {v v' : Value} {l m : List Nat} (h : TurnU w w' B v v' l) (hO : Ou w B v m) (hB : B ≤ w.heap.size) : Below B w w' :=
  ⟨h.grown.os, h.grown.tape, h.grown.output, h.grown.size, fun k hk => h.grown.block k (by omega) (fun e => by have := (ou_lt hO k e.symm).1; omega)⟩
theorem infoU : (Try.prog.info? 30).map (fun i => (i.zero, i.size, i.bytes)) = some (some (.int .u64 0), 1, 8) := by kernel_rfl

theorem run_appU {w : World} {B C m c : Nat} {v : Value} {A : Option Addr} {l r : List Nat} (ty : TypeId) (hO : Ou w B v l) (hD : Us w C A m c r) (hn : l.length + m ≤ 100000) (hB : B ≤ w.heap.size) :
    ∃ v' w', (Builtin.append_ #[34, 34] ty #[v, .slice A m c]).run Try.prog w = .ok v' w' ∧ TurnU w w' B v v' (l ++ r) := by
  obtain ⟨i0, hi0, hz0, hzs, hzb⟩ := info_parts infoU
  rcases Nat.eq_zero_or_pos m with h0 | h0
  · subst h0
    obtain rfl := List.length_eq_zero_iff.1 hD.len
    refine ⟨v, w, ?_, ⟨by rw [List.append_nil]; exact hO, ⟨rfl, rfl, rfl, Nat.le_refl _, fun _ _ _ => rfl⟩, .inl rfl⟩⟩
    obtain ⟨D, e, d, rfl, _, hF, _⟩ := hO.form
    have hc := hF.cap
    cases D with
    | none =>
      obtain ⟨e1, e2⟩ := hF.nil rfl
      rw [e1, e2]
      cases A <;> simp [Builtin.append_, run_underlying Try.underlying34, sizeOf, typeInfo, hi0, Builtin.lenOf, Builtin.firstCells, loadCells, loadCellsFrom]
    | some a =>
      cases A <;> simp [Builtin.append_, run_underlying Try.underlying34, sizeOf, typeInfo, hi0, Builtin.lenOf, Builtin.firstCells, loadCells, loadCellsFrom, storeCells, hc]
  · obtain ⟨b, off, rfl, _, hcc⟩ := hD.at_ h0
    obtain ⟨v', w', hr, h2, h3, _, h5⟩ := run_append_own_at (P := Try.prog) w B 34 ty 30 i0 _ 1 8 Try.underlying34 hi0 hz0 hzs hzb rfl (by decide) v l.length _ hO.own ⟨b, off, none⟩ m c (cellsU r) (by rw [cellsU_length, hD.len]; omega) (fun j u hj => by
      have hjl := (List.getElem?_eq_some_iff.1 hj).1
      rw [cellsU_length] at hjl
      have hd : r[j]? = some (r[j]'hjl) := List.getElem?_eq_getElem hjl
      rw [cellsU_get hd] at hj
      injection hj with hj
      rw [Addr.add_lit, ← hj]
      exact hcc j _ hd) (cellsU_one_cell r) (by unfold maxLen; omega) (by omega) hB
    refine ⟨v', w', hr, ⟨⟨?_, by rw [List.length_append, hD.len]; exact hn, fun d hd => ?_⟩, h3, h5⟩⟩
    · rw [List.length_append, hD.len, cellsU_append]
      exact h2
    · rcases List.mem_append.1 hd with hd | hd
      · exact hO.fit d hd
      · exact hD.fit d hd

/-- At the operation, in a plain region. -/
theorem list_appU {w : World} {ops : Array Oper} {rest : List Oper} {o : Oper} {a : Act} {Q : Exit → Act → World → Prop} (hgd : o.guard = none) (s x : Operand)
    (ho : o.op = .call { callee := .builtin .append, args := #[s, x], argTypes := #[34, 34] }) {B C m c : Nat} {v : Value} {A : Option Addr} {l r : List Nat} (hs : a.eval s = v) (hx : a.eval x = .slice A m c)
    (hO : Ou w B v l) (hD : Us w C A m c r) (hn : l.length + m ≤ 100000) (hB : B ≤ w.heap.size)
    (h : ∀ v' w', Hid (TurnU w w' B v v' (l ++ r)) → wpList Try.prog ops Q rest (a.put o.dst v') w') : wpList Try.prog ops Q (o :: rest) a w := by
  obtain ⟨v', w', hr, hT⟩ := run_appU o.type hO hD hn hB
  exact Lib.wpList_append_run w hgd s x _ _ ho _ _ hs hx v' w' hr (h v' w' (hid hT))
/-- At a step of a region that draws its order. -/
theorem step_appU {w : World} {ops : Array Oper} {o : Oper} {a : Act} {K : Act → World → Prop} {Q : Exit → Act → World → Prop} {E : Prop} (hgd : o.guard = none) (s x : Operand)
    (ho : o.op = .call { callee := .builtin .append, args := #[s, x], argTypes := #[34, 34] }) {B C m c : Nat} {v : Value} {A : Option Addr} {l r : List Nat} (hs : a.eval s = v) (hx : a.eval x = .slice A m c)
    (hO : Ou w B v l) (hD : Us w C A m c r) (hn : l.length + m ≤ 100000) (hB : B ≤ w.heap.size)
    (h : ∀ v' w', Hid (TurnU w w' B v v' (l ++ r)) → K (a.put o.dst v') w') : if Region.wanted o (yielded ops a.tmps) = true then Oper.wp Try.prog o a w K Q else E := by
  obtain ⟨v', w', hr, hT⟩ := run_appU o.type hO hD hn hB
  have hw : Region.wanted o (yielded ops a.tmps) = true := by simp [Region.wanted, hgd]
  rw [if_pos hw]
  exact Lib.wp_append_run w s x _ _ ho _ _ hs hx v' w' hr (h v' w' (hid hT))
theorem us_row {X : World} {N : Nat} {l : List Nat} (h : X.heap[N]? = some (.cells (cellsU l).toArray 30 (0, 0))) (hl : l.length ≤ 1000) (hf : ∀ d, d ∈ l → d < 18446744073709551616) : Us X X.heap.size (some ⟨N, 0, none⟩) l.length l.length l :=
  ⟨rfl, Nat.le_refl _, by omega, fun e => (by cases e), hf, fun _ => ⟨N, 0, rfl, lt_of_heap h, fun j d hj => by
    have g1 := cellsU_get hj
    rw [cell_of_row X N _ _ _ (0, 0) h, Nat.zero_add]
    simpa using g1⟩⟩
end Go.Proofs.Ytdemhghflanncaa
