/- Package field: takeDyad. -/
import Derived.Test.YtmaggpigodkhhaaJform
import Derived.ScopeJumps
namespace Go.Proofs.Ytmaggpigodkhhaa
open Go.RowKit

/-- A scope from which the run jumps to a label once at most, forward. -/
theorem wp_scope_once {P : Program} {a : Act} {w : World} {Q : Exit → Act → World → Prop} {c rest : Code} (l : Nat) (hf : findLabel c l = some rest)
    (first : c.wp P (Exit.jump l (fun a w => rest.wp P (Exit.noGoto Q) a w) Q) a w) : (Code.scope c).wp P Q a w := by
  refine wp_scope_jumps l (fun a w => rest.wp P (Exit.noGoto Q) a w) (fun _ _ => 0) hf first fun a w h => Code.wp_mono ?_ h
  intro e a w h
  cases e with
  | goto l' => exact h.elim
  | normal => exact h
  | exit id => exact h
  | ret => exact h
  | panic ch => exact h
  | outgrown => exact h

/-- What bytes tell of a dyad: how many limbs, the sign's byte, the Exp, the limbs. -/
def cntOf (ys : List Nat) : Nat := ys.getD 3 0
def sgOf (ys : List Nat) : Nat := ys.getD 0 0
def expOf (ys : List Nat) : Nat := bn ((ys.drop 1).take 2)
def limOf (ys : List Nat) (j : Nat) : Nat := lof (ys.drop 4) (cntOf ys) j
/-- The error of a dyad that is taken. -/
def dE (ys : List Nat) : Int := if ys.length < 4 ∨ ys.length < 4 + 4 * cntOf ys then 40 else if sgOf ys ≤ 1 ∧ DMay (decide (sgOf ys = 1)) (cntOf ys) (limOf ys) (expOf ys) then 0 else 41

theorem bn_one {xs : List Nat} {p : Nat} (h : p < xs.length) : bn ((xs.drop p).take 1) = xs.getD p 0 := by
  have e : xs[p]? = some (xs.getD p 0) := by
    rw [List.getD_eq_getElem?_getD, List.getElem?_eq_getElem h]
    rfl
  have := part_one (xs := xs) (p := p) (k := 0) (by rw [Nat.add_zero]; exact e)
  rw [this, List.take_zero, bn_nil]
  omega
theorem getD_drop (xs : List Nat) (p j : Nat) : (xs.drop p).getD j 0 = xs.getD (p + j) 0 := by
  rw [List.getD_eq_getElem?_getD, List.getD_eq_getElem?_getD, List.getElem?_drop]

/-- What a call hands back that takes a dyad by a reader. -/
def TRes (w : World) (g : Nat) (A : Option Addr) (n c p : Nat) (ys : List Nat) (e : Ending) (w' : World) : Prop := ∃ s A' k c' x er, ∃ f : Nat → Nat, e = .returned (.tuple #[.agg #[.bool s, .slice A' k c', .int .i64 x], .int .i64 er]) ∧
  Hid (er = dE ys) ∧ Hid (Mk w' 50 w.heap.size A' k c' f) ∧ Hid (er = 0 → s = decide (sgOf ys = 1) ∧ k = cntOf ys ∧ f = limOf ys ∧ x = (expOf ys : Int)) ∧ Hid (er ≠ 0 → s = false ∧ A' = none ∧ k = 0 ∧ c' = 0 ∧ f = (fun _ => 0) ∧ x = 0) ∧
  Hid (er = 0 → Rbox w' 64 g A n c ((p + (4 + 4 * cntOf ys) : Nat) : Int)) ∧ Hid (Below g w w')
theorem TRes.bad {w w' : World} {g n c p : Nat} {A : Option Addr} {ys : List Nat} {er : Int} (he : er = dE ys) (h0 : er ≠ 0) (hb : Below g w w') : TRes w g A n c p ys (.returned (.tuple #[.agg #[.bool false, .slice none 0 0, .int .i64 0], .int .i64 er])) w' :=
  ⟨false, none, 0, 0, 0, er, fun _ => 0, rfl, he, Mk.nil _ _ _, fun h => absurd h h0, fun _ => ⟨rfl, rfl, rfl, rfl, rfl, rfl⟩, fun h => absurd h h0, hb⟩

theorem limOf_succ {xs : List Nat} {p k : Nat} (h : k < cntOf (xs.drop p)) : bn ((xs.drop (p + 4 + 4 * k)).take 4) = limOf (xs.drop p) k := by
  unfold limOf lof
  rw [if_pos h, List.drop_drop, List.drop_drop, ← Nat.add_assoc]

/-- What is gathered of limbs, in a row of the call's own. -/
def Lgr (w : World) (B : Nat) (f : Nat → Nat) (n : Nat) (v : Value) : Prop := w.ownsRow B 50 1 v n ((List.range n).map fun j => Value.int .u32 (f j : Int))
theorem Lgr.grown {w w' : World} {B n g : Nat} {f : Nat → Nat} {v : Value} (h : Lgr w B f n v) (hb : w.grownBy w' (some g)) (hg : g < B) : Lgr w' B f n v := by
  obtain ⟨hl, hor⟩ := h
  refine ⟨hl, ?_⟩
  rcases hor with h0 | ⟨k, cap, cur, rfl, hk, hh, hr⟩
  · exact .inl h0
  · exact .inr ⟨k, cap, cur, rfl, hk, (hb.block k (lt_of_heap hh) (by intro e; injection e with e; omega)).trans hh, hr⟩
theorem Lgr.nil (w : World) (B : Nat) (f : Nat → Nat) : Lgr w B f 0 (.slice none 0 0) := ⟨rfl, .inl ⟨rfl, rfl⟩⟩

/-- 'append(x, u)' over limbs, x a row of the call's own. -/
theorem app_limb {P : Program} {ops : Array Oper} {rest : List Oper} {o : Oper} {a : Act} {Q : Exit → Act → World → Prop} (hgd : o.guard = none) (s x : Operand) (t : TypeId)
    (ho : o.op = .call { callee := .builtin .append, args := #[s, x], argTypes := #[t, t] }) (e : TypeId) (z : Value) (bytes : Nat) (ht : P.underlying t = some (.slice e))
    (hi : (P.info? e).map (fun i => (i.zero, i.size, i.bytes)) = some (some z, 1, bytes)) (hz : z.cells.size = 1) (hby : bytes ≤ 8)
    {wr : World} {B n : Nat} {v u : Value} {xs : List Value} (hs : a.eval s = v) (hx : a.eval x = .slice (some ⟨wr.heap.size, 0, none⟩) 1 1) (hown : wr.ownsRow B e 1 v n xs) (hB : B ≤ wr.heap.size)
    (hu : u.oneCell' = true) (hn : n + 1 ≤ 17592186044416)
    (h : ∀ v' w', Hid (w'.ownsRow B e 1 v' (n + 1) (xs ++ [u])) → Hid (Below B wr w') → wpList P ops Q rest (a.put o.dst v') w') : wpList P ops Q (o :: rest) a (wr.alloc (.cells #[u] e)) := by
  refine wpList_append_src hgd s x t ho e z bytes ht hi hz hby (B := B) (news := [u]) hs hx (hown.alloc _) (by simp; omega) rfl (fun h => by cases h) ?_ (fun y hy => by simp at hy; subst hy; exact hu) hn ?_
  · intro p hp j y hj
    injection hp with hp
    subst hp
    match j, hj with
    | 0, hj =>
      simp at hj
      subst hj
      show (wr.alloc _).cell? ⟨wr.heap.size, 0, none⟩ = _
      rw [cell_of_row _ wr.heap.size 0 _ e (0, 0) (heap_alloc_new wr _)]
      rfl
    | j + 1, hj => simp at hj
  · intro v' w' hown' hb
    exact h v' w' hown' (hid (((Below.refl B wr).alloc hB _).trans hb.out))

end Go.Proofs.Ytmaggpigodkhhaa
