/- Package frame: rows of bytes; putSum, takeSum. -/
import Derived.Test.YtmaggpigodkhhaaFsum
import Derived.Test.YtmaggpigodkhhaaCopy
namespace Go.Proofs.Ytmaggpigodkhhaa
open Go.RowKit

/-- Bytes, as cells. -/
def vals (xs : List Nat) : List Value := xs.map fun x : Nat => Value.int .u8 (x : Int)
theorem vals_length (xs : List Nat) : (vals xs).length = xs.length := by simp [vals]
theorem vals_append (xs ys : List Nat) : vals (xs ++ ys) = vals xs ++ vals ys := by simp [vals]
theorem vals_at {xs : List Nat} {j x : Nat} (h : xs[j]? = some x) : (vals xs)[j]? = some (.int .u8 (x : Int)) := by simp [vals, h]
theorem vals_one {xs : List Nat} {u : Value} (h : u ∈ vals xs) : u.oneCell' = true := by
  simp [vals] at h
  obtain ⟨_, _, rfl⟩ := h
  rfl

/-- A row of the call's own (from block B on) that holds the bytes xs. -/
def Ow (w : World) (B : Nat) (v : Value) (xs : List Nat) : Prop := w.ownsRow B 5 1 v xs.length (vals xs) ∧ (∀ x ∈ xs, x < 256) ∧ xs.length ≤ 140737488355328

theorem Ow.below {w w' : World} {B B' : Nat} {v : Value} {xs : List Nat} (h : Ow w B v xs) (hb : Below B' w w') (hB : w.heap.size ≤ B') : Ow w' B v xs := by
  refine ⟨?_, h.2⟩
  obtain ⟨⟨hl, hor⟩, -⟩ := h
  refine ⟨hl, ?_⟩
  rcases hor with h0 | ⟨g, cap, cur, rfl, hg, hh, hr⟩
  · exact .inl h0
  · have := lt_of_heap hh
    exact .inr ⟨g, cap, cur, rfl, hg, (hb.block g (by omega)).trans hh, hr⟩
theorem Ow.mono {w : World} {B B' : Nat} {v : Value} {xs : List Nat} (h : Ow w B v xs) (hB : B' ≤ B) : Ow w B' v xs := by
  refine ⟨?_, h.2⟩
  obtain ⟨⟨hl, hor⟩, -⟩ := h
  refine ⟨hl, ?_⟩
  rcases hor with h0 | ⟨g, cap, cur, rfl, hg, hr⟩
  · exact .inl h0
  · exact .inr ⟨g, cap, cur, rfl, by omega, hr⟩
theorem Ow.shape {w : World} {B : Nat} {v : Value} {xs : List Nat} (h : Ow w B v xs) : ∃ A c, v = .slice A xs.length c ∧ By w w.heap.size A xs.length c xs := by
  obtain ⟨⟨_, hor⟩, hlt, hmax⟩ := h
  rcases hor with ⟨rfl, h0⟩ | ⟨g, cap, cur, rfl, hg, hh, hn, hc, hs, ht⟩
  · rw [h0]
    exact ⟨none, 0, rfl, ⟨h0, Nat.le_refl _, by omega, hlt, fun _ => ⟨rfl, rfl⟩, fun h => absurd h (by omega)⟩⟩
  · refine ⟨some ⟨g, 0, none⟩, cap, rfl, ⟨rfl, hn, hmax, hlt, fun h => (by cases h), fun _ => ⟨g, 0, rfl, lt_of_heap hh, fun j x hj => ?_⟩⟩⟩
    have hjl : j < xs.length := (List.getElem?_eq_some_iff.1 hj).1
    rw [Nat.zero_add, cell_of_row w g j cur 5 (0, 0) hh, ← Array.getElem?_toList]
    have e := vals_at hj
    rw [← ht, List.getElem?_take, Nat.mul_one, if_pos hjl] at e
    exact e
theorem Ow.by_ {w : World} {B n c : Nat} {A : Option Addr} {xs : List Nat} (h : Ow w B (.slice A n c) xs) : n = xs.length ∧ By w w.heap.size A n c xs := by
  obtain ⟨A', c', e, hb⟩ := h.shape
  injection e with e1 e2 e3
  subst e1
  subst e2
  subst e3
  exact ⟨rfl, hb⟩
theorem Ow.nil (w : World) (B : Nat) : Ow w B (.slice none 0 0) [] := ⟨⟨rfl, .inl ⟨rfl, rfl⟩⟩, by simp, by simp⟩

theorem By.cells {w : World} {B n c : Nat} {A : Option Addr} {xs : List Nat} (h : By w B A n c xs) : ∀ p, A = some p → ∀ (j : Nat) (u : Value), (vals xs)[j]? = some u → w.cell? (p.add j) = some u := by
  intro p hp j u hj
  have hjn : j < xs.length := by
    have := (List.getElem?_eq_some_iff.1 hj).1
    rwa [vals_length] at this
  obtain ⟨b, off, rfl, _, hc⟩ := h.at_ (by rw [← h.len]; omega)
  injection hp with hp
  subst hp
  have hx := List.getElem?_eq_getElem hjn
  rw [vals_at hx] at hj
  injection hj with hj
  subst hj
  have : (⟨b, off, none⟩ : Addr).add j = ⟨b, off + j, none⟩ := by unfold Addr.add; simp
  rw [this]
  exact hc j _ hx

theorem u8_info : (Try.prog.info? 5).map (fun i => (i.zero, i.size, i.bytes)) = some (some (.int .u8 0), 1, 1) := by kernel_rfl

/-- 'append(x, y...)' over bytes. -/
theorem app_bytes {ops : Array Oper} {rest : List Oper} {o : Oper} {a : Act} {Q : Exit → Act → World → Prop} (hgd : o.guard = none) (s x : Operand)
    (ho : o.op = .call { callee := .builtin .append, args := #[s, x], argTypes := #[22, 22] }) {w : World} {B B' m c : Nat} {v : Value} {xs ys : List Nat} {A : Option Addr} (hs : a.eval s = v) (hx : a.eval x = .slice A m c)
    (hown : Ow w B v xs) (hB : B ≤ w.heap.size) (hy : By w B' A m c ys) (hn : xs.length + m ≤ 17592186044416)
    (h : ∀ v' w', Hid (Ow w' B v' (xs ++ ys)) → Hid (Below B w w') → wpList Try.prog ops Q rest (a.put o.dst v') w') : wpList Try.prog ops Q (o :: rest) a w := by
  refine wpList_append_src hgd s x 22 ho 5 (.int .u8 0) 1 (by kernel_rfl) u8_info rfl (by omega) hs hx hown.1 hB (news := vals ys) (by rw [vals_length, hy.len]) hy.nil hy.cells (fun u hu => vals_one hu) hn ?_
  intro v' w' hown' hb
  refine h v' w' (hid ⟨?_, ?_, ?_⟩) hb
  · rw [List.length_append, hy.len, vals_append]
    exact hown'.out
  · intro y hy2
    rcases List.mem_append.1 hy2 with h1 | h1
    · exact hown.2.1 y h1
    · exact hy.lt y h1
  · rw [List.length_append, hy.len]
    omega

/-- Bytes in a new block. -/
theorem By.new (w : World) (xs : List Nat) (hlt : ∀ x ∈ xs, x < 256) (hmax : xs.length ≤ 140737488355328) : By (w.alloc (.cells (vals xs).toArray 5)) (w.heap.size + 1) (some ⟨w.heap.size, 0, none⟩) xs.length xs.length xs :=
  ⟨rfl, Nat.le_refl _, hmax, hlt, fun h => (by cases h), fun _ => ⟨w.heap.size, 0, rfl, Nat.lt_succ_self _, fun j x hj => by
    rw [Nat.zero_add, cell_of_row _ w.heap.size j _ 5 (0, 0) (heap_alloc_new w _)]
    rw [List.getElem?_toArray]
    exact vals_at hj⟩⟩

theorem bys_succ (V k : Nat) : bys V (k + 1) = bys V k ++ [V / 256 ^ k % 256] := by
  induction k generalizing V with
  | zero => show [V % 256] = _; rw [Nat.pow_zero, Nat.div_one]; rfl
  | succ k ih =>
    show V % 256 :: bys (V / 256) (k + 1) = (V % 256 :: bys (V / 256) k) ++ _
    rw [ih, List.cons_append, Nat.div_div_eq_div_mul, Nat.pow_succ, Nat.mul_comm 256]

end Go.Proofs.Ytmaggpigodkhhaa
