/- Rows in memory, of any cells: what is read, what a call made of its own, and append onto it. No program is named here. -/
import Derived.Test.YtdcolnipdipkhaaMem
import Derived.Maps.AppendAt
import Derived.Lib.AppendZeros
import Derived.Shelf.Abstract
namespace Go.Proofs.Ytdcolnipdipkhaa
open Go.RowKit Go.Shelf Go.Lib

/-- The slice value '.slice A n c' reads, in the world w, as the cells cs, k to an element, below block B. -/
structure Gs (w : World) (B : Nat) (A : Option Addr) (n c k : Nat) (cs : List Value) : Prop where
  len : cs.length = n * k
  cap : n ≤ c
  max : n ≤ 140737488355328
  nil : A = none → n = 0 ∧ c = 0
  at_ : 0 < n → ∃ b off, A = some ⟨b, off, none⟩ ∧ b < B ∧ ∀ (j : Nat) (v : Value), cs[j]? = some v → w.cell? ⟨b, off + j, none⟩ = some v
section
variable {w w' : World} {B n c k : Nat} {A : Option Addr} {cs : List Value}
theorem Gs.below (h : Gs w B A n c k cs) (hb : Below B w w') : Gs w' B A n c k cs :=
  ⟨h.len, h.cap, h.max, h.nil, fun hn => by
    obtain ⟨b, off, rfl, hB, hc⟩ := h.at_ hn
    exact ⟨b, off, rfl, hB, fun j d hj => (hb.cell (p := ⟨b, off + j, none⟩) hB).trans (hc j d hj)⟩⟩
theorem Gs.mono {B' : Nat} (h : Gs w B A n c k cs) (hb : B ≤ B') : Gs w B' A n c k cs :=
  ⟨h.len, h.cap, h.max, h.nil, fun hn => by
    obtain ⟨b, off, rfl, hB, hc⟩ := h.at_ hn
    exact ⟨b, off, rfl, by omega, hc⟩⟩
/-- What was read stays, however the world grows. -/
theorem Gs.on (h : Gs w B A n c k cs) (hB : B ≤ w.heap.size) (hb : Below w.heap.size w w') : Gs w' w'.heap.size A n c k cs := ((h.mono hB).below hb).mono hb.size
theorem Gs.nil' (w : World) (B k : Nat) : Gs w B none 0 0 k [] := ⟨by simp, Nat.le_refl _, by omega, fun _ => ⟨rfl, rfl⟩, fun h => absurd h (by omega)⟩
theorem Gs.none' (w : World) (B c k : Nat) (a : Addr) : Gs w B (some a) 0 c k [] := ⟨by simp, Nat.zero_le _, by omega, fun e => (by cases e), fun h => absurd h (by omega)⟩
theorem Gs.first (h : Gs w B A n c k cs) {p c' : Nat} (hp : p ≤ n) (hc' : p ≤ c') (hA : A = none → c' = 0) : Gs w B A p c' k (cs.take (p * k)) := by
  have hl := h.len
  have hpk : p * k ≤ n * k := Nat.mul_le_mul_right k hp
  refine ⟨by rw [List.length_take]; omega, hc', Nat.le_trans hp h.max, fun e => ?_, fun h0 => ?_⟩
  · have := h.nil e
    exact ⟨by omega, hA e⟩
  · obtain ⟨b, off, rfl, hB, hc⟩ := h.at_ (by omega)
    refine ⟨b, off, rfl, hB, fun j d hj => hc j d ?_⟩
    rw [List.getElem?_take] at hj
    split at hj
    · exact hj
    · cases hj
theorem Gs.rest {b off : Nat} (h : Gs w B (some ⟨b, off, none⟩) n c k cs) {p c' : Nat} (hp : p ≤ n) (hc' : n - p ≤ c') : Gs w B (some ⟨b, off + p * k, none⟩) (n - p) c' k (cs.drop (p * k)) := by
  have hl := h.len
  refine ⟨by rw [List.length_drop, hl, Nat.sub_mul], hc', Nat.le_trans (Nat.sub_le _ _) h.max, fun e => (by cases e), fun h0 => ?_⟩
  obtain ⟨b', off', e, hB, hc⟩ := h.at_ (by omega)
  injection e with e
  injection e with e1 e2
  subst e1
  subst e2
  refine ⟨b, off + p * k, rfl, hB, fun j d hj => ?_⟩
  rw [Nat.add_assoc]
  rw [List.getElem?_drop] at hj
  exact hc _ d hj
theorem Gs.restA {a0 : Addr} (h : Gs w B (some a0) n c k cs) {p c' : Nat} (hp : p ≤ n) (hc' : n - p ≤ c') : Gs w B (some (a0.add (p * k))) (n - p) c' k (cs.drop (p * k)) := by
  rcases Nat.eq_zero_or_pos n with h0 | h0
  · subst h0
    obtain rfl : p = 0 := by omega
    have := h.len
    obtain rfl := List.length_eq_zero_iff.1 (this.trans (Nat.zero_mul k))
    simpa using Gs.none' w B c' k _
  · obtain ⟨b, off, e, _⟩ := h.at_ h0
    injection e with e
    subst e
    rw [Addr.add_lit]
    exact h.rest hp hc'
/-- A new row, read. -/
theorem Gs.new {e : TypeId} {g : Nat} (h : w.heap[g]? = some (.cells cs.toArray e (0, 0))) (hg : g < B) (hl : cs.length = n * k) (hn : n ≤ c) (hm : n ≤ 140737488355328) : Gs w B (some ⟨g, 0, none⟩) n c k cs :=
  ⟨hl, hn, hm, fun e => (by cases e), fun _ => ⟨g, 0, rfl, hg, fun j d hj => by
    rw [cell_of_row w g _ _ _ (0, 0) h, Nat.zero_add]
    simpa using hj⟩⟩
theorem Gs.cells {b off : Nat} (h : Gs w B (some ⟨b, off, none⟩) n c k cs) : ∀ j u, cs[j]? = some u → w.cell? ((⟨b, off, none⟩ : Addr).add j) = some u := by
  intro j u hj
  have hjl := (List.getElem?_eq_some_iff.1 hj).1
  rw [h.len] at hjl
  have hn : 0 < n := by
    rcases Nat.eq_zero_or_pos n with h0 | h0
    · subst h0; omega
    · exact h0
  obtain ⟨b', off', e, _, hc⟩ := h.at_ hn
  injection e with e
  injection e with e1 e2
  subst e1
  subst e2
  rw [Addr.add_lit]
  exact hc j u hj
end
theorem gbelow_grown {w w' : World} (h : Below w.heap.size w w') (o : Option Nat) : w.grownBy w' o := ⟨h.os, h.tape, h.output, h.size, fun k hk _ => h.block k hk⟩
theorem ggrown_self (w : World) (o : Option Nat) : w.grownBy w o := ⟨rfl, rfl, rfl, Nat.le_refl _, fun _ _ _ => rfl⟩
theorem ggrown_on {w wr w' : World} {o : Option Nat} (h : w.grownBy wr o) (k : wr.grownBy w' o) : w.grownBy w' o :=
  ⟨k.os.trans h.os, k.tape.trans h.tape, k.output.trans h.output, Nat.le_trans h.size k.size, fun j hj hne => (k.block j (Nat.lt_of_lt_of_le hj h.size) hne).trans (h.block j hj hne)⟩
theorem gbelow_on {w w' w2 : World} {B : Nat} (h : Below B w w') (hB : B ≤ w.heap.size) (k : Below w'.heap.size w' w2) : Below B w w2 := h.trans (k.mono (Nat.le_trans hB h.size))

/-- The value v is a slice of the call's own, from block B on, that holds the cells cs, k to an element of type e. -/
structure Gw (w : World) (B : Nat) (e : TypeId) (k : Nat) (v : Value) (n : Nat) (cs : List Value) : Prop where
  own : w.ownsRow B e k v n cs
  max : n ≤ 100000
section
variable {w w' : World} {B n k : Nat} {e : TypeId} {v : Value} {cs : List Value}
theorem Gw.nil (w : World) (B : Nat) (e : TypeId) (k : Nat) : Gw w B e k (.slice none 0 0) 0 [] := ⟨World.ownsRow_nil w B _ _, by omega⟩
/-- An empty row of its own. -/
theorem Gw.none' {g c : Nat} {cur : Array Value} (h : w.heap[g]? = some (.cells cur e (0, 0))) (hB : B ≤ g) (hc : c ≤ maxLen) (hs : cur.size = c * k) : Gw w B e k (.slice (some ⟨g, 0, none⟩) 0 c) 0 [] :=
  ⟨⟨by simp, .inr ⟨g, c, cur, rfl, hB, h, Nat.zero_le _, hc, hs, by simp⟩⟩, by omega⟩
theorem Gw.kept {row : Option Nat} (h : Gw w B e k v n cs) (hg : w.grownBy w' row) (hne : v.ownBlock = none ∨ v.ownBlock ≠ row) : Gw w' B e k v n cs := ⟨h.own.kept hg hne, h.max⟩
theorem Gw.below (h : Gw w B e k v n cs) (hb : Below w.heap.size w w') : Gw w' B e k v n cs := h.kept (gbelow_grown hb none) (by cases v.ownBlock <;> simp)
theorem Gw.mono {C : Nat} (h : Gw w B e k v n cs) (hC : C ≤ B) : Gw w C e k v n cs := by
  obtain ⟨⟨hl, hor⟩, hm⟩ := h
  refine ⟨⟨hl, ?_⟩, hm⟩
  rcases hor with h | ⟨g, cap, cur, h1, h2, h3⟩
  · exact .inl h
  · exact .inr ⟨g, cap, cur, h1, Nat.le_trans hC h2, h3⟩
theorem Gw.lt (h : Gw w B e k v n cs) : ∀ q, v.ownBlock = some q → B ≤ q ∧ q < w.heap.size := h.own.lt
theorem Gw.form (h : Gw w B e k v n cs) : ∃ A c, v = .slice A n c ∧ Gs w w.heap.size A n c k cs ∧ c ≤ maxLen ∧ (∀ a, A = some a → a = ⟨a.block, 0, none⟩ ∧ B ≤ a.block ∧ a.block < w.heap.size) ∧ (∀ q, v.ownBlock = some q ↔ A = some ⟨q, 0, none⟩) := by
  obtain ⟨⟨hl, hor⟩, hm⟩ := h
  rcases hor with ⟨rfl, h0⟩ | ⟨g, cap, cur, rfl, hB, hg, hn, hc, hs, ht⟩
  · subst h0
    rw [Nat.zero_mul] at hl
    obtain rfl := List.length_eq_zero_iff.1 hl
    exact ⟨none, 0, rfl, Gs.nil' w _ _, by unfold maxLen; omega, fun a e => (by cases e), fun q => by simp [Value.ownBlock]⟩
  · refine ⟨some ⟨g, 0, none⟩, cap, rfl, ⟨hl, hn, by omega, fun e => (by cases e), fun _ => ⟨g, 0, rfl, lt_of_heap hg, fun j d hj => ?_⟩⟩, hc, fun a e => ?_, fun q => by simp [Value.ownBlock]⟩
    · have hj2 := (List.getElem?_eq_some_iff.1 hj).1
      rw [← ht, List.getElem?_take, if_pos (by omega)] at hj
      rw [cell_of_row w g _ cur _ (0, 0) hg, Nat.zero_add]
      simpa using hj
    · injection e with e
      subst e
      exact ⟨rfl, hB, lt_of_heap hg⟩
/-- A new row, as a call's own. -/
theorem Gw.new {g c : Nat} (h : w.heap[g]? = some (.cells cs.toArray e (0, 0))) (hB : B ≤ g) (hl : cs.length = n * k) (hc : c = n) (hn : n ≤ 100000) : Gw w B e k (.slice (some ⟨g, 0, none⟩) n c) n cs := by
  subst hc
  exact ⟨⟨hl, .inr ⟨g, c, cs.toArray, rfl, hB, h, Nat.le_refl _, by unfold maxLen; omega, by simpa using hl, by rw [List.take_of_length_le (by simp [hl])]⟩⟩, hn⟩
end
theorem heap_two (w : World) (o1 o2 : Obj) : ((w.alloc o1).alloc o2).heap[w.heap.size]? = some o1 ∧ ((w.alloc o1).alloc o2).heap[w.heap.size + 1]? = some o2 := by
  have h1 := heap_alloc_new w o1
  have h2 := heap_alloc_new (w.alloc o1) o2
  rw [show (w.alloc o1).heap.size = w.heap.size + 1 by simp] at h2
  exact ⟨(Below.heap_alloc (w.alloc o1) o2 _ (by simp)).trans h1, h2⟩
theorem below_two (w : World) (o1 o2 : Obj) : Below w.heap.size w ((w.alloc o1).alloc o2) := ((Below.refl _ w).alloc (Nat.le_refl _) _).alloc (by simp) _
/-- What a change of an own row leaves. -/
structure TurnG (w w' : World) (B : Nat) (e : TypeId) (k : Nat) (v v' : Value) (n : Nat) (cs : List Value) : Prop where
  own : Gw w' B e k v' n cs
  grown : w.grownBy w' v.ownBlock
  at_ : v'.ownBlock = v.ownBlock ∨ v'.ownBlock = some w.heap.size
theorem TurnG.below {w w' : World} {B k n m : Nat} {e : TypeId} {v v' : Value} {cs ds : List Value} (h : TurnG w w' B e k v v' n cs) (hO : Gw w B e k v m ds) (hB : B ≤ w.heap.size) : Below B w w' :=
  ⟨h.grown.os, h.grown.tape, h.grown.output, h.grown.size, fun q hq => h.grown.block q (by omega) (fun e => by have := (hO.lt q e.symm).1; omega)⟩

theorem run_appG {P : Program} {w : World} {B C k n m c by' : Nat} {e t : TypeId} (ty : TypeId) {z : Value} (ht : P.underlying t = some (.slice e)) (hi : (P.info? e).map (fun i => (i.zero, i.size, i.bytes)) = some (some z, k, by')) (hzs : z.cells.size = k) (hk : 0 < k) (hby : by' ≤ 1000)
    {v : Value} {A : Option Addr} {cs ds : List Value} (hO : Gw w B e k v n cs) (hD : Gs w C A m c k ds) (h1 : ∀ u ∈ ds, u.oneCell' = true) (hn : n + m ≤ 100000) (hB : B ≤ w.heap.size) :
    ∃ v' w', (Builtin.append_ #[t, t] ty #[v, .slice A m c]).run P w = .ok v' w' ∧ TurnG w w' B e k v v' (n + m) (cs ++ ds) := by
  obtain ⟨i0, hi0, hz0, hzs0, hzb⟩ := info_parts hi
  rcases Nat.eq_zero_or_pos m with h0 | h0
  · subst h0
    obtain rfl := List.length_eq_zero_iff.1 (hD.len.trans (Nat.zero_mul k))
    refine ⟨v, w, ?_, ⟨by rw [List.append_nil]; exact hO, ⟨rfl, rfl, rfl, Nat.le_refl _, fun _ _ _ => rfl⟩, .inl rfl⟩⟩
    obtain ⟨D, d, rfl, hF, _⟩ := hO.form
    have hc := hF.cap
    cases D with
    | none =>
      obtain ⟨e1, e2⟩ := hF.nil rfl
      rw [e1, e2]
      cases A <;> simp [Builtin.append_, run_underlying ht, sizeOf, typeInfo, hi0, Builtin.lenOf, Builtin.firstCells, loadCells, loadCellsFrom]
    | some a =>
      cases A <;> simp [Builtin.append_, run_underlying ht, sizeOf, typeInfo, hi0, Builtin.lenOf, Builtin.firstCells, loadCells, loadCellsFrom, storeCells, hc]
  · obtain ⟨b, off, rfl, _, hcc⟩ := hD.at_ h0
    have hbb : (n + m) * by' ≤ 140737488355328 := Nat.le_trans (Nat.mul_le_mul hn hby) (by decide)
    obtain ⟨v', w', hr, h2, h3, _, h5⟩ := run_append_own_at (P := P) w B t ty e i0 _ k by' ht hi0 hz0 hzs0 hzb hzs hk v n cs hO.own ⟨b, off, none⟩ m c ds hD.len (hD.cells) h1 (by unfold maxLen; omega) hbb hB
    exact ⟨v', w', hr, ⟨⟨h2, hn⟩, h3, h5⟩⟩
theorem list_appG {P : Program} {w : World} {ops : Array Oper} {rest : List Oper} {o : Oper} {a : Act} {Q : Exit → Act → World → Prop} (hgd : o.guard = none) (s x : Operand) {t : TypeId}
    (ho : o.op = .call { callee := .builtin .append, args := #[s, x], argTypes := #[t, t] }) {B C k n m c by' : Nat} {e : TypeId} {z : Value} (ht : P.underlying t = some (.slice e)) (hi : (P.info? e).map (fun i => (i.zero, i.size, i.bytes)) = some (some z, k, by')) (hzs : z.cells.size = k) (hk : 0 < k) (hby : by' ≤ 1000)
    {v : Value} {A : Option Addr} {cs ds : List Value} (hs : a.eval s = v) (hx : a.eval x = .slice A m c)
    (hO : Gw w B e k v n cs) (hD : Gs w C A m c k ds) (h1 : ∀ u ∈ ds, u.oneCell' = true) (hn : n + m ≤ 100000) (hB : B ≤ w.heap.size)
    (h : ∀ v' w', Hid (TurnG w w' B e k v v' (n + m) (cs ++ ds)) → wpList P ops Q rest (a.put o.dst v') w') : wpList P ops Q (o :: rest) a w := by
  obtain ⟨v', w', hr, hT⟩ := run_appG o.type ht hi hzs hk hby hO hD h1 hn hB
  exact Lib.wpList_append_run w hgd s x _ _ ho _ _ hs hx v' w' hr (h v' w' (hid hT))
theorem step_appG {P : Program} {w : World} {ops : Array Oper} {o : Oper} {a : Act} {K : Act → World → Prop} {Q : Exit → Act → World → Prop} {E : Prop} (hgd : o.guard = none) (s x : Operand) {t : TypeId}
    (ho : o.op = .call { callee := .builtin .append, args := #[s, x], argTypes := #[t, t] }) {B C k n m c by' : Nat} {e : TypeId} {z : Value} (ht : P.underlying t = some (.slice e)) (hi : (P.info? e).map (fun i => (i.zero, i.size, i.bytes)) = some (some z, k, by')) (hzs : z.cells.size = k) (hk : 0 < k) (hby : by' ≤ 1000)
    {v : Value} {A : Option Addr} {cs ds : List Value} (hs : a.eval s = v) (hx : a.eval x = .slice A m c)
    (hO : Gw w B e k v n cs) (hD : Gs w C A m c k ds) (h1 : ∀ u ∈ ds, u.oneCell' = true) (hn : n + m ≤ 100000) (hB : B ≤ w.heap.size)
    (h : ∀ v' w', Hid (TurnG w w' B e k v v' (n + m) (cs ++ ds)) → K (a.put o.dst v') w') : if Region.wanted o (yielded ops a.tmps) = true then Oper.wp P o a w K Q else E := by
  obtain ⟨v', w', hr, hT⟩ := run_appG o.type ht hi hzs hk hby hO hD h1 hn hB
  have hw : Region.wanted o (yielded ops a.tmps) = true := by simp [Region.wanted, hgd]
  rw [if_pos hw]
  exact Lib.wp_append_run w s x _ _ ho _ _ hs hx v' w' hr (h v' w' (hid hT))

/-- The cells of numbers of the type int. -/
def cellsI (l : List Int) : List Value := l.map (Value.int .i64)
theorem cellsI_length (l : List Int) : (cellsI l).length = l.length := by unfold cellsI; exact List.length_map _
theorem cellsI_append (l m : List Int) : cellsI (l ++ m) = cellsI l ++ cellsI m := by unfold cellsI; exact List.map_append
theorem cellsI_get {l : List Int} {j : Nat} {d : Int} (h : l[j]? = some d) : (cellsI l)[j]? = some (.int .i64 d) := by
  unfold cellsI
  rw [List.getElem?_map, h]
  rfl
theorem cellsI_take (l : List Int) (p : Nat) : (cellsI l).take (p * 1) = cellsI (l.take p) := by unfold cellsI; rw [Nat.mul_one, List.map_take]
theorem cellsI_drop (l : List Int) (p : Nat) : (cellsI l).drop (p * 1) = cellsI (l.drop p) := by unfold cellsI; rw [Nat.mul_one, List.map_drop]
theorem cellsI_one (l : List Int) : ∀ v ∈ cellsI l, v.oneCell' = true := by
  intro v hv
  obtain ⟨d, _, rfl⟩ := List.mem_map.1 hv
  rfl
section
variable {w w' : World} {B n c : Nat} {A : Option Addr} {l : List Int}
theorem Gs.ilen (h : Gs w B A n c 1 (cellsI l)) : l.length = n := by have := h.len; rw [cellsI_length] at this; omega
theorem Gs.iget (h : Gs w B A n c 1 (cellsI l)) {q : Nat} (hq : q < n) : ∃ d, l[q]? = some d := ⟨l[q]'(by rw [h.ilen]; exact hq), List.getElem?_eq_getElem _⟩
theorem Gs.icell {b off : Nat} (h : Gs w B (some ⟨b, off, none⟩) n c 1 (cellsI l)) {q : Nat} {d : Int} (hq : l[q]? = some d) : w.cell? ⟨b, off + q, none⟩ = some (.int .i64 d) := by
  have := h.cells q _ (cellsI_get hq)
  rwa [Addr.add_lit] at this
theorem Gs.iat (h : Gs w B A n c 1 (cellsI l)) (hn : 0 < n) : ∃ b off, A = some ⟨b, off, none⟩ ∧ b < B ∧ ∀ (j : Nat) (d : Int), l[j]? = some d → w.cell? ⟨b, off + j, none⟩ = some (.int .i64 d) := by
  obtain ⟨b, off, rfl, hb, _⟩ := h.at_ hn
  exact ⟨b, off, rfl, hb, fun j d hj => h.icell hj⟩
end
end Go.Proofs.Ytdcolnipdipkhaa
