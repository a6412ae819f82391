/- Lists of int of a call's own: append onto them. -/
import Derived.Test.YtohofgmdellpnaaGs
import Derived.Test.YtohofgmdellpnaaProg
namespace Go.Proofs.Ytohofgmdellpnaa
open Go.RowKit Go.Shelf Go.Lib

theorem infoI : (Try.prog.info? 3).map (fun i => (i.zero, i.size, i.bytes)) = some (some (.int .i64 0), 1, 8) := by kernel_rfl
/-- The value v is a list of int of the call's own. -/
def Gi (w : World) (B : Nat) (v : Value) (l : List Int) : Prop := Gw w B 3 1 v l.length (cellsI l)
theorem Gi.nil (w : World) (B : Nat) : Gi w B (.slice none 0 0) [] := Gw.nil w B _ _
theorem Gi.below {w w' : World} {B : Nat} {v : Value} {l : List Int} (h : Gi w B v l) (hb : Below w.heap.size w w') : Gi w' B v l := Gw.below h hb
theorem Gi.mono {w : World} {B C : Nat} {v : Value} {l : List Int} (h : Gi w B v l) (hC : C ≤ B) : Gi w C v l := Gw.mono h hC
theorem Gi.lt {w : World} {B : Nat} {v : Value} {l : List Int} (h : Gi w B v l) : ∀ q, v.ownBlock = some q → B ≤ q ∧ q < w.heap.size := Gw.lt h
theorem Gi.max {w : World} {B : Nat} {v : Value} {l : List Int} (h : Gi w B v l) : l.length ≤ 100000 := Gw.max h
theorem Gi.form {w : World} {B : Nat} {v : Value} {l : List Int} (h : Gi w B v l) : ∃ A n c, v = .slice A n c ∧ Gi w B (.slice A n c) l ∧ Gs w w.heap.size A n c 1 (cellsI l) ∧ c ≤ maxLen ∧ (∀ a, A = some a → a = ⟨a.block, 0, none⟩ ∧ B ≤ a.block ∧ a.block < w.heap.size) := by
  have h0 := h
  obtain ⟨A, c, rfl, h1, h2, h3, _⟩ := Gw.form h
  exact ⟨A, l.length, c, rfl, h0, h1, h2, h3⟩
theorem Gi.gs {w : World} {B n c : Nat} {A : Option Addr} {l : List Int} (h : Gi w B (.slice A n c) l) : Gs w w.heap.size A n c 1 (cellsI l) := by
  obtain ⟨A', n', c', e, _, h2, _⟩ := h.form
  injection e with e1 e2 e3
  subst e1 e2 e3
  exact h2
/-- The row of an own list, for stores. -/
theorem Gi.row {w : World} {B n c : Nat} {A : Option Addr} {l : List Int} (h : Gi w B (.slice A n c) l) (hn : 0 < n) : ∃ g cur, A = some ⟨g, 0, none⟩ ∧ B ≤ g ∧ w.heap[g]? = some (.cells cur 3 (0, 0)) ∧ n ≤ cur.size := by
  rcases h.own.2 with ⟨e, _⟩ | ⟨g, cap, cur, e, hB, hg, hm, _, hs, _⟩
  · injection e with e1 e2 e3
    omega
  · injection e with e1 e2 e3
    subst e1 e2 e3
    exact ⟨g, cur, rfl, hB, hg, by omega⟩
/-- What a change of an own list leaves. -/
structure TurnI (w w' : World) (B : Nat) (v v' : Value) (l : List Int) : Prop where
  own : Gi w' B v' l
  grown : w.grownBy w' v.ownBlock
  at_ : v'.ownBlock = v.ownBlock ∨ v'.ownBlock = some w.heap.size
theorem TurnI.below {w w' : World} {B : Nat} {v v' : Value} {l m : List Int} (h : TurnI w w' B v v' l) (hO : Gi w B v m) (hB : B ≤ w.heap.size) : Below B w w' :=
  ⟨h.grown.os, h.grown.tape, h.grown.output, h.grown.size, fun q hq => h.grown.block q (by omega) (fun e => by have := (hO.lt q e.symm).1; omega)⟩
theorem run_appI {w : World} {B C m c : Nat} {v : Value} {A : Option Addr} {l r : List Int} (ty : TypeId) (hO : Gi w B v l) (hD : Gs w C A m c 1 (cellsI r)) (hn : l.length + m ≤ 100000) (hB : B ≤ w.heap.size) :
    ∃ v' w', (Builtin.append_ #[22, 22] ty #[v, .slice A m c]).run Try.prog w = .ok v' w' ∧ TurnI w w' B v v' (l ++ r) := by
  obtain ⟨v', w', hr, hT⟩ := run_appG (P := Try.prog) ty Try.underlying22 infoI rfl (by decide) (by decide) hO hD (cellsI_one r) hn hB
  refine ⟨v', w', hr, ⟨?_, hT.grown, hT.at_⟩⟩
  have := hT.own
  unfold Gi
  rw [List.length_append, hD.ilen, cellsI_append]
  exact this
theorem list_appI {w : World} {ops : Array Oper} {rest : List Oper} {o : Oper} {a : Act} {Q : Exit → Act → World → Prop} (hgd : o.guard = none) (s x : Operand)
    (ho : o.op = .call { callee := .builtin .append, args := #[s, x], argTypes := #[22, 22] }) {B C m c : Nat} {v : Value} {A : Option Addr} {l r : List Int} (hs : a.eval s = v) (hx : a.eval x = .slice A m c)
    (hO : Gi w B v l) (hD : Gs w C A m c 1 (cellsI r)) (hn : l.length + m ≤ 100000) (hB : B ≤ w.heap.size)
    (h : ∀ v' w', Hid (TurnI w w' B v v' (l ++ r)) → wpList Try.prog ops Q rest (a.put o.dst v') w') : wpList Try.prog ops Q (o :: rest) a w := by
  obtain ⟨v', w', hr, hT⟩ := run_appI o.type hO hD hn hB
  exact Lib.wpList_append_run w hgd s x _ _ ho _ _ hs hx v' w' hr (h v' w' (hid hT))
theorem step_appI {w : World} {ops : Array Oper} {o : Oper} {a : Act} {K : Act → World → Prop} {Q : Exit → Act → World → Prop} {E : Prop} (hgd : o.guard = none) (s x : Operand)
    (ho : o.op = .call { callee := .builtin .append, args := #[s, x], argTypes := #[22, 22] }) {B C m c : Nat} {v : Value} {A : Option Addr} {l r : List Int} (hs : a.eval s = v) (hx : a.eval x = .slice A m c)
    (hO : Gi w B v l) (hD : Gs w C A m c 1 (cellsI r)) (hn : l.length + m ≤ 100000) (hB : B ≤ w.heap.size)
    (h : ∀ v' w', Hid (TurnI w w' B v v' (l ++ r)) → K (a.put o.dst v') w') : if Region.wanted o (yielded ops a.tmps) = true then Oper.wp Try.prog o a w K Q else E := by
  obtain ⟨v', w', hr, hT⟩ := run_appI o.type hO hD hn hB
  have hw : Region.wanted o (yielded ops a.tmps) = true := by simp [Region.wanted, hgd]
  rw [if_pos hw]
  exact Lib.wp_append_run w s x _ _ ho _ _ hs hx v' w' hr (h v' w' (hid hT))
/-- A new row of one number, and of any. -/
theorem gi_one (w : World) (x : Int) (e : TypeId) : Gs (w.alloc (.cells #[.int .i64 x] e)) (w.heap.size + 1) (some ⟨w.heap.size, 0, none⟩) 1 1 1 (cellsI [x]) :=
  Gs.new (cs := cellsI [x]) (heap_alloc_new w (.cells #[.int .i64 x] e)) (Nat.lt_succ_self _) rfl (Nat.le_refl _) (by omega)
theorem gi_new (w : World) (l : List Int) (e : TypeId) (hl : l.length ≤ 100000) : Gs (w.alloc (.cells (cellsI l).toArray e)) (w.alloc (.cells (cellsI l).toArray e)).heap.size (some ⟨w.heap.size, 0, none⟩) l.length l.length 1 (cellsI l) :=
  Gs.new (cs := cellsI l) (heap_alloc_new w _) (by simp) (by rw [cellsI_length]; omega) (Nat.le_refl _) (by omega)
theorem gi_take {l : List Int} {k : Nat} {x : Int} (h : l[k]? = some x) : l.take (k + 1) = l.take k ++ [x] := by
  rw [List.take_add_one, h]
  rfl
end Go.Proofs.Ytohofgmdellpnaa
