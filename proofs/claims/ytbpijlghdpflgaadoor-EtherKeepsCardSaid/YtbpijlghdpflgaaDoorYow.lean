/- Ether: copies of a call's own. -/
import Derived.Test.YtbpijlghdpflgaaDoorYr3
import Derived.Test.YtbpijlghdpflgaaDoorGst
namespace Go.Proofs.YtbpijlghdpflgaaDoor.Eth
open Go.RowKit Go.Shelf Go.Lib

theorem infoB : (Tryd.prog.info? 5).map (fun i => (i.zero, i.size, i.bytes)) = some (some (.int .u8 0), 1, 1) := by kernel_rfl
theorem infoC : (Tryd.prog.info? 28).map (fun i => (i.zero, i.size, i.bytes)) = some (some (.agg #[.int .i64 0, .int .i64 0, .slice none 0 0, .bool false]), 4, 48) := by kernel_rfl
theorem sizeC : (Tryd.prog.info? 28).map (·.size) = some 4 := by kernel_rfl
theorem sizeB8 : (Tryd.prog.info? 26).map (·.size) = some 1 := by kernel_rfl
theorem sizeBo : (Tryd.prog.info? 4).map (·.size) = some 1 := by kernel_rfl
theorem sizeIn : (Tryd.prog.info? 3).map (·.size) = some 1 := by kernel_rfl
theorem sizeU8 : (Tryd.prog.info? 5).map (·.size) = some 1 := by kernel_rfl

/-- The copy's text lies in a row of bytes in a block of S. -/
def Tow (w : World) (S : Nat → Prop) (r : Cr) : Prop := 0 < r.2.2.1.2.1 → ∃ tb off cur, r.2.2.1.1 = some ⟨tb, off, none⟩ ∧ S tb ∧ w.heap[tb]? = some (.cells cur 5 (0, 0)) ∧ off + r.2.2.1.2.1 ≤ cur.size
/-- Rows of bytes in blocks of S stay. -/
def Keep8 (S : Nat → Prop) (w w' : World) : Prop := w.heap.size ≤ w'.heap.size ∧ ∀ k cur, S k → w.heap[k]? = some (.cells cur 5 (0, 0)) → w'.heap[k]? = w.heap[k]?
theorem Keep8.of_below {S : Nat → Prop} {w w' : World} (h : Below w.heap.size w w') : Keep8 S w w' := ⟨h.size, fun k _ _ hk => h.block k (lt_of_heap hk)⟩
theorem Keep8.trans {S : Nat → Prop} {w w' w2 : World} (h : Keep8 S w w') (k : Keep8 S w' w2) : Keep8 S w w2 :=
  ⟨Nat.le_trans h.1 k.1, fun q cur hs hq => (k.2 q cur hs ((h.2 q cur hs hq).trans hq)).trans (h.2 q cur hs hq)⟩
/-- A change of one row of copies leaves bytes alone. -/
theorem Keep8.grown {S : Nat → Prop} {w w' : World} {q : Option Nat} (h : w.grownBy w' q) (hq : ∀ g, q = some g → ∃ cur, w.heap[g]? = some (.cells cur 28 (0, 0))) : Keep8 S w w' :=
  ⟨h.size, fun k cur _ hk => h.block k (lt_of_heap hk) (fun e => by
    obtain ⟨cur', hc⟩ := hq k e.symm
    rw [hk] at hc
    injection hc with hc
    injection hc with _ ht _
    exact absurd ht (by decide))⟩
theorem Keep8.gq {S : Nat → Prop} {w w' : World} {g : Nat} {cur : Array Value} (h : Gq g w w') (hg : w.heap[g]? = some (.cells cur 28 (0, 0))) : Keep8 S w w' :=
  ⟨Nat.le_of_eq h.size, fun k cur' _ hk => h.block k (fun e => by
    subst e
    rw [hk] at hg
    injection hg with hg
    injection hg with _ ht _
    exact absurd ht (by decide))⟩
theorem Tow.kept {w w' : World} {S : Nat → Prop} {r : Cr} (h : Tow w S r) (k : Keep8 S w w') : Tow w' S r := fun h0 => by
  obtain ⟨tb, off, cur, e, hs, hh, hc⟩ := h h0
  exact ⟨tb, off, cur, e, hs, (k.2 tb cur hs hh).trans hh, hc⟩
theorem Tow.mono {w : World} {S T : Nat → Prop} {r : Cr} (h : Tow w S r) (k : ∀ q, S q → T q) : Tow w T r := fun h0 => by
  obtain ⟨tb, off, cur, e, hs, hh, hc⟩ := h h0
  exact ⟨tb, off, cur, e, k _ hs, hh, hc⟩
theorem Tow.crd {w w' : World} {S : Nat → Prop} {r : Cr} {p : Cp} {B : Nat} (h : Tow w S r) (c : Crd w B r p) (k : Keep8 S w w') : Crd w' w'.heap.size r p := by
  obtain ⟨h1, h2, h3, h4, h5⟩ := c
  refine ⟨h1, h2, h3, ⟨h4.len, h4.cap, h4.max, h4.nil, fun h0 => ?_⟩, h5⟩
  obtain ⟨tb, off, cur, e, hs, hh, hc⟩ := h h0
  obtain ⟨b, off', e', hb, hcc⟩ := h4.at_ h0
  rw [e] at e'
  injection e' with e'
  injection e' with e1 e2
  subst e1 e2
  have hk := k.2 tb cur hs hh
  refine ⟨tb, off, e, lt_of_heap (hk.trans hh), fun j v hj => ?_⟩
  rw [World.cell?_of_block (a := ⟨tb, off + j, none⟩) hk]
  exact hcc j v hj
/-- Copies of a call's own, in blocks of S: their row, and each one's text. -/
structure Cow (w : World) (S : Nat → Prop) (A : Option Addr) (n c : Nat) (rs : List Cr) (l : List Cp) : Prop where
  rd : Gs w w.heap.size A n c 4 (cellsC rs)
  pair : Pair w w.heap.size rs l
  txt : ∀ r ∈ rs, Tow w S r
  row : 0 < n → ∃ g off cur, A = some ⟨g, off, none⟩ ∧ S g ∧ w.heap[g]? = some (.cells cur 28 (0, 0)) ∧ off + n * 4 ≤ cur.size
theorem Cow.cls {w : World} {S : Nat → Prop} {A : Option Addr} {n c : Nat} {rs : List Cr} {l : List Cp} (h : Cow w S A n c rs l) : Cls w w.heap.size A n c l := ⟨rs, h.rd, h.pair⟩
theorem Cow.nil (w : World) (S : Nat → Prop) : Cow w S none 0 0 [] [] := ⟨Gs.nil' w _ 4, Pair.nil w _, by simp, fun h => absurd h (by omega)⟩
theorem Cow.below {w w' : World} {S : Nat → Prop} {A : Option Addr} {n c : Nat} {rs : List Cr} {l : List Cp} (h : Cow w S A n c rs l) (hb : Below w.heap.size w w') : Cow w' S A n c rs l :=
  ⟨h.rd.on (Nat.le_refl _) hb, (h.pair.below hb).mono hb.size, fun r hr => (h.txt r hr).kept (Keep8.of_below hb), fun h0 => by
    obtain ⟨g, off, cur, e, hs, hh, hc⟩ := h.row h0
    exact ⟨g, off, cur, e, hs, (hb.block g (lt_of_heap hh)).trans hh, hc⟩⟩
theorem Cow.mono {w : World} {S T : Nat → Prop} {A : Option Addr} {n c : Nat} {rs : List Cr} {l : List Cp} (h : Cow w S A n c rs l) (k : ∀ q, S q → T q) : Cow w T A n c rs l :=
  ⟨h.rd, h.pair, fun r hr => (h.txt r hr).mono k, fun h0 => by
    obtain ⟨g, off, cur, e, hs, hh, hc⟩ := h.row h0
    exact ⟨g, off, cur, e, k _ hs, hh, hc⟩⟩
/-- Blocks of S stay whole. -/
theorem Cow.keep {w w' : World} {S : Nat → Prop} {A : Option Addr} {n c : Nat} {rs : List Cr} {l : List Cp} (h : Cow w S A n c rs l) (hz : w.heap.size ≤ w'.heap.size) (hk : ∀ q, S q → q < w.heap.size → w'.heap[q]? = w.heap[q]?) : Cow w' S A n c rs l := by
  have k8 : Keep8 S w w' := ⟨hz, fun q cur hs hq => hk q hs (lt_of_heap hq)⟩
  have hr : 0 < n → ∃ g off cur, A = some ⟨g, off, none⟩ ∧ S g ∧ w'.heap[g]? = some (.cells cur 28 (0, 0)) ∧ off + n * 4 ≤ cur.size := fun h0 => by
    obtain ⟨g, off, cur, e, hs, hh, hc⟩ := h.row h0
    exact ⟨g, off, cur, e, hs, (hk g hs (lt_of_heap hh)).trans hh, hc⟩
  refine ⟨⟨h.rd.len, h.rd.cap, h.rd.max, h.rd.nil, fun h0 => ?_⟩, ⟨h.pair.1, fun j r p hj hp => ?_⟩, fun r hr => (h.txt r hr).kept k8, hr⟩
  · obtain ⟨g, off, cur, e, hs, hh, hc⟩ := h.row h0
    obtain ⟨b, off', e', hb, hcc⟩ := h.rd.at_ h0
    rw [e] at e'
    injection e' with e'
    injection e' with e1 e2
    subst e1 e2
    have hkk := hk g hs (lt_of_heap hh)
    refine ⟨g, off, e, lt_of_heap (hkk.trans hh), fun j v hj => ?_⟩
    rw [World.cell?_of_block (a := ⟨g, off + j, none⟩) hkk]
    exact hcc j v hj
  · exact (h.txt r (List.mem_of_getElem? hj)).crd (h.pair.2 j r p hj hp) k8

/-- append, of bytes and of copies. -/
theorem list_appB {w : World} {ops : Array Oper} {rest : List Oper} {o : Oper} {a : Act} {Q : Exit → Act → World → Prop} (hgd : o.guard = none) (s x : Operand)
    (ho : o.op = .call { callee := .builtin .append, args := #[s, x], argTypes := #[26, 26] }) {B C n m c : Nat} {v : Value} {A : Option Addr} {cs : List Value} {t : List Nat} (hs : a.eval s = v) (hx : a.eval x = .slice A m c)
    (hO : Gw w B 5 1 v n cs) (hD : Gs w C A m c 1 (cellsB t)) (hn : n + m ≤ 100000) (hB : B ≤ w.heap.size)
    (h : ∀ v' w', Hid (TurnG w w' B 5 1 v v' (n + m) (cs ++ cellsB t)) → wpList Tryd.prog ops Q rest (a.put o.dst v') w') : wpList Tryd.prog ops Q (o :: rest) a w :=
  list_appG hgd s x ho Tryd.underlying26 infoB rfl (by decide) (by decide) hs hx hO hD (cellsB_one t) hn hB h
theorem list_appC {w : World} {ops : Array Oper} {rest : List Oper} {o : Oper} {a : Act} {Q : Exit → Act → World → Prop} (hgd : o.guard = none) (s x : Operand)
    (ho : o.op = .call { callee := .builtin .append, args := #[s, x], argTypes := #[22, 22] }) {B C n m c : Nat} {v : Value} {A : Option Addr} {cs : List Value} {rs : List Cr} (hs : a.eval s = v) (hx : a.eval x = .slice A m c)
    (hO : Gw w B 28 4 v n cs) (hD : Gs w C A m c 4 (cellsC rs)) (hn : n + m ≤ 100000) (hB : B ≤ w.heap.size)
    (h : ∀ v' w', Hid (TurnG w w' B 28 4 v v' (n + m) (cs ++ cellsC rs)) → wpList Tryd.prog ops Q rest (a.put o.dst v') w') : wpList Tryd.prog ops Q (o :: rest) a w :=
  list_appG hgd s x ho Tryd.underlying22 infoC rfl (by decide) (by decide) hs hx hO hD (cellsC_one rs) hn hB h
theorem step_appC {w : World} {ops : Array Oper} {o : Oper} {a : Act} {K : Act → World → Prop} {Q : Exit → Act → World → Prop} {E : Prop} (hgd : o.guard = none) (s x : Operand)
    (ho : o.op = .call { callee := .builtin .append, args := #[s, x], argTypes := #[22, 22] }) {B C n m c : Nat} {v : Value} {A : Option Addr} {cs : List Value} {rs : List Cr} (hs : a.eval s = v) (hx : a.eval x = .slice A m c)
    (hO : Gw w B 28 4 v n cs) (hD : Gs w C A m c 4 (cellsC rs)) (hn : n + m ≤ 100000) (hB : B ≤ w.heap.size)
    (h : ∀ v' w', Hid (TurnG w w' B 28 4 v v' (n + m) (cs ++ cellsC rs)) → K (a.put o.dst v') w') : if Region.wanted o (yielded ops a.tmps) = true then Oper.wp Tryd.prog o a w K Q else E :=
  step_appG hgd s x ho Tryd.underlying22 infoC rfl (by decide) (by decide) hs hx hO hD (cellsC_one rs) hn hB h
/-- A row of its own is a row of copies. -/
theorem Gw.rowC {w : World} {B n k : Nat} {v : Value} {cs : List Value} {e : TypeId} (h : Gw w B e k v n cs) : ∀ g, v.ownBlock = some g → ∃ cur, w.heap[g]? = some (.cells cur e (0, 0)) := by
  intro g hg
  rcases h.own.2 with ⟨rfl, _⟩ | ⟨g', cap, cur, rfl, _, hh, _⟩
  · simp [Value.ownBlock] at hg
  · obtain rfl : g' = g := by simpa [Value.ownBlock] using hg
    exact ⟨cur, hh⟩
end Go.Proofs.YtbpijlghdpflgaaDoor.Eth
