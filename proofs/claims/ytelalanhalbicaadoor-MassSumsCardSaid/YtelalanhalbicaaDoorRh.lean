/- 'append(x, y...)', and copies by it. -/
/- Package ratio: a number that is divided: double, takeOff. -/
/- math/bits.Sub32. -/
/- Package ratio: takeOff. -/
/- Package ratio: top. -/
/- Package ratio: place. -/
import Derived.Test.YtelalanhalbicaaDoorRa
import Derived.Laws.AppendOwnNone
import Derived.Test.YtelalanhalbicaaDoorRd
import Derived.RegionTactic
import Derived.Deep.RegionHeld3
import Derived.Laws.BitsAllLaws
import Derived.IntWalk
import Derived.Deep.RegionWith
import Derived.Test.YtelalanhalbicaaDoorRg
import Derived.Laws.CopyOwn
import Derived.Laws.Rows
import Derived.Deep.MidRow

namespace Go.Proofs.YtelalanhalbicaaDoor
open Go.RowKit

/-- 'append(x, y...)', x a row of the call's own, y read from wherever, or nil. -/
theorem wpList_append_src {P : Program} {ops : Array Oper} {rest : List Oper} {o : Oper} {a : Act} {Q : Exit → Act → World → Prop} (hgd : o.guard = none) (s x : Operand) (t : TypeId)
    (ho : o.op = .call { callee := .builtin .append, args := #[s, x], argTypes := #[t, t] }) (e : TypeId) (z : Value) (bytes : Nat) (ht : P.underlying t = some (.slice e))
    (hi : (P.info? e).map (fun i => (i.zero, i.size, i.bytes)) = some (some z, 1, bytes)) (hz : z.cells.size = 1) (hby : bytes ≤ 8)
    {w : World} {B n m c : Nat} {v : Value} {xs news : List Value} {A : Option Addr} (hs : a.eval s = v) (hx : a.eval x = .slice A m c) (hown : w.ownsRow B e 1 v n xs) (hB : B ≤ w.heap.size)
    (hl : news.length = m) (hnil : A = none → m = 0 ∧ c = 0) (hcells : ∀ p, A = some p → ∀ j u, news[j]? = some u → w.cell? (p.add j) = some u) (hu : ∀ u ∈ news, u.oneCell' = true) (hn : n + m ≤ 17592186044416)
    (h : ∀ v' w', Hid (w'.ownsRow B e 1 v' (n + m) (xs ++ news)) → Hid (Below B w w') → wpList P ops Q rest (a.put o.dst v') w') : wpList P ops Q (o :: rest) a w := by
  obtain ⟨i0, hi, hz0, hz1, hz2⟩ := info_one hi
  cases A with
  | none =>
    obtain ⟨rfl, rfl⟩ := hnil rfl
    obtain rfl : news = [] := List.length_eq_zero_iff.1 hl
    refine wpList_append_own_none hgd s x t ho B e i0 1 ht hi v n xs hs hown hx ?_
    have hh := h v w
    rw [List.append_nil, Nat.add_zero] at hh
    exact hh hown (Below.refl _ _)
  | some p =>
    refine wpList_append_own _ hgd s x t ho B e i0 z 1 bytes ht hi hz0 hz1 hz2 hz (by decide) v n xs hs hown p m c news hx (by omega) (hcells p rfl) hu ?_ ?_ hB ?_
    · unfold maxLen
      omega
    · have : (n + m) * bytes ≤ (n + m) * 8 := Nat.mul_le_mul_left _ hby
      omega
    · intro v' w' hown' hgr _
      refine h v' w' hown' ((Below.refl _ _).grown hgr hB ?_)
      intro k hk
      rcases hown with ⟨_, ⟨rfl, _⟩ | ⟨g, cap, cur, rfl, hg, _⟩⟩
      · cases hk
      · injection hk with hk
        subst hk
        exact hg

/-- 'append([]T{}, y...)': what is handed back is of the call's own, and reads as y does. -/
theorem wpList_append_copy {P : Program} {ops : Array Oper} {rest : List Oper} {o : Oper} {a : Act} {Q : Exit → Act → World → Prop} (hgd : o.guard = none) (s x : Operand) (t : TypeId)
    (ho : o.op = .call { callee := .builtin .append, args := #[s, x], argTypes := #[t, t] }) (e : TypeId) (z : Value) (bytes : Nat) (ht : P.underlying t = some (.slice e))
    (hi : (P.info? e).map (fun i => (i.zero, i.size, i.bytes)) = some (some z, 1, bytes)) (hz : z.cells.size = 1) (hby : bytes ≤ 8)
    {w : World} {m c : Nat} {news : List Value} {A : Option Addr} (hs : a.eval s = .slice (some ⟨w.heap.size, 0, none⟩) 0 0) (hx : a.eval x = .slice A m c)
    (hl : news.length = m) (hnil : A = none → m = 0 ∧ c = 0) (hcells : ∀ p, A = some p → ∀ j u, news[j]? = some u → w.cell? (p.add j) = some u) (hu : ∀ u ∈ news, u.oneCell' = true) (hn : m ≤ 17592186044416)
    (h : ∀ v' w', Hid (w'.ownsRow w.heap.size e 1 v' m news) → Hid (Below w.heap.size w w') → wpList P ops Q rest (a.put o.dst v') w') : wpList P ops Q (o :: rest) a (w.alloc (.cells #[] e)) := by
  have bel : Below w.heap.size w (w.alloc (.cells #[] e)) := (Below.refl _ w).alloc (Nat.le_refl _) _
  refine wpList_append_src hgd s x t ho e z bytes ht hi hz hby (B := w.heap.size) (n := 0) (xs := []) hs hx ⟨rfl, .inr ⟨w.heap.size, 0, #[], rfl, Nat.le_refl _, heap_alloc_new w _, Nat.le_refl _, by unfold maxLen; omega, rfl, rfl⟩⟩ (by simp) hl hnil ?_ hu (by omega) ?_
  · intro p hp j u hj
    have hc := hcells p hp j u hj
    have hb : (p.add j).block < w.heap.size := block_lt_of_cell hc
    exact (bel.cell hb).trans hc
  · intro v' w' hown' hbel'
    rw [Nat.zero_add, List.nil_append] at hown'
    exact h v' w' hown' (bel.trans hbel'.out)

/-- A row of the call's own, its cells the limbs f. -/
theorem rd_of_row {w : World} {B n : Nat} {v : Value} {f : Nat → Nat} (h : w.ownsRow B 71 1 v n ((List.range n).map fun j => Value.int .u32 (f j : Int))) (hmax : n ≤ 140737488355328) (hlt : ∀ j, f j < 4294967296) (hout : ∀ j, n ≤ j → f j = 0) :
    ∃ A c, v = .slice A n c ∧ Rd w w.heap.size A n c f := by
  obtain ⟨_, hor⟩ := h
  rcases hor with ⟨rfl, rfl⟩ | ⟨g, cap, cur, rfl, hg, hh, hn, hc, hs, ht⟩
  · exact ⟨none, 0, rfl, ⟨Nat.le_refl _, hmax, hlt, hout, fun h => absurd h (by omega)⟩⟩
  · refine ⟨some ⟨g, 0, none⟩, cap, rfl, ⟨hn, hmax, hlt, hout, fun _ => ⟨g, 0, rfl, lt_of_heap hh, fun j hj => ?_⟩⟩⟩
    rw [Nat.zero_add, cell_of_row w g j cur 71 (0, 0) hh, ← Array.getElem?_toList]
    have e : ((List.range n).map fun j => Value.int .u32 (f j : Int))[j]? = some (.int .u32 (f j : Int)) := by simp [hj]
    rw [← ht, List.getElem?_take, Nat.mul_one, if_pos hj] at e
    exact e

theorem cells_of_rd {w : World} {B n c : Nat} {A : Option Addr} {f : Nat → Nat} (h : Rd w B A n c f) : ∀ p, A = some p → ∀ (j : Nat) (u : Value), ((List.range n).map fun j => Value.int .u32 (f j : Int))[j]? = some u → w.cell? (p.add j) = some u := by
  intro p hp j u hj
  have hjn : j < n := by
    rcases Nat.lt_or_ge j n with h | h
    · exact h
    · rw [List.getElem?_eq_none (by simpa using h)] at hj; cases hj
  obtain ⟨b, off, rfl, _, hc⟩ := h.at_ (by omega)
  injection hp with hp
  subst hp
  simp [hjn] at hj
  subst hj
  have : (⟨b, off, none⟩ : Addr).add j = ⟨b, off + j, none⟩ := by unfold Addr.add; simp
  rw [this]
  exact hc j hjn


end Go.Proofs.YtelalanhalbicaaDoor


namespace Go.Proofs.YtelalanhalbicaaDoor
open Go.RowKit

/-- Limbs, doubled. -/
def dbl (f : Nat → Nat) (j : Nat) : Nat := f j * 2 % 4294967296 + (if j = 0 then 0 else f (j - 1) / 2147483648)
theorem dbl_lt {f : Nat → Nat} (hf : ∀ j, f j < 4294967296) (j : Nat) : dbl f j < 4294967296 := by
  unfold dbl
  have h1 := hf j
  have h2 := hf (j - 1)
  split <;> omega
theorem vl_dbl {f : Nat → Nat} (hf : ∀ j, f j < 4294967296) : ∀ k, vl (dbl f) (k + 1) + f k / 2147483648 * pw (k + 1) = 2 * vl f (k + 1)
  | 0 => by
    have h := hf 0
    simp [vl, pw, dbl]
    omega
  | k + 1 => by
    have ih := vl_dbl hf k
    have h := hf (k + 1)
    rw [vl_succ, vl_succ f (k + 1), pw_succ (k + 1)]
    have e : dbl f (k + 1) = f (k + 1) * 2 % 4294967296 + f k / 2147483648 := by
      unfold dbl
      rw [if_neg (by omega), Nat.add_sub_cancel]
    rw [e, Nat.add_mul]
    have e2 : f (k + 1) * 2 % 4294967296 * pw (k + 1) + f (k + 1) / 2147483648 * (pw (k + 1) * 4294967296) = 2 * (f (k + 1) * pw (k + 1)) := by
      have e3 : f (k + 1) * 2 % 4294967296 + f (k + 1) / 2147483648 * 4294967296 = 2 * f (k + 1) := by omega
      rw [Nat.mul_comm (pw (k + 1)) 4294967296, ← Nat.mul_assoc (f (k + 1) / 2147483648), ← Nat.add_mul, e3, Nat.mul_assoc]
    generalize f (k + 1) * 2 % 4294967296 * pw (k + 1) = x1 at *
    generalize f (k + 1) / 2147483648 * (pw (k + 1) * 4294967296) = x2 at *
    generalize f k / 2147483648 * pw (k + 1) = x3 at *
    generalize f (k + 1) * pw (k + 1) = x4 at *
    omega
theorem or_low (x y : Nat) (hy : y ≤ 1) (hx : x % 2 = 0) (hx2 : x < 4294967296) : bits BinOp.or IntKind.u32 (x : Int) (y : Int) = ((x + y : Nat) : Int) := by
  rw [u32_or_nat x y hx2 (by omega), nat_join1 x y hx (by omega)]

theorem gset {w w' : World} {g : Nat} (h : w.grownBy w' (some g)) (j : Nat) (u : Value) : w.grownBy (w'.setCell ⟨g, j, none⟩ u).drew (some g) :=
  ⟨h.os, h.tape, h.output, by simpa [World.setCell, World.drew] using h.size, fun i hi hne => (Below.heap_setCell w' ⟨g, j, none⟩ u i (by rintro rfl; exact hne rfl)).trans (h.block i hi hne)⟩
theorem gset0 {w w' : World} {g : Nat} (h : w.grownBy w' (some g)) (j : Nat) (u : Value) : w.grownBy (w'.setCell ⟨g, j, none⟩ u) (some g) :=
  ⟨h.os, h.tape, h.output, by simpa [World.setCell] using h.size, fun i hi hne => (Below.heap_setCell w' ⟨g, j, none⟩ u i (by rintro rfl; exact hne rfl)).trans (h.block i hi hne)⟩
theorem grefl (w : World) (g : Nat) : w.grownBy w (some g) := ⟨rfl, rfl, rfl, Nat.le_refl _, fun _ _ _ => rfl⟩

end Go.Proofs.YtelalanhalbicaaDoor


namespace Go.Proofs.YtelalanhalbicaaDoor
open Go.RowKit

theorem top_bit32 {n : Nat} (h : n < 4294967296) : n / 2147483648 = (n.testBit 31).toNat := by
  rw [Nat.testBit_eq_decide_div_mod_eq]
  have h1 : n / 2 ^ 31 % 2 = n / 2147483648 := by
    show n / 2147483648 % 2 = _
    omega
  rw [h1]
  have h2 : n / 2147483648 = 0 ∨ n / 2147483648 = 1 := by omega
  rcases h2 with h2 | h2 <;> rw [h2] <;> rfl
theorem bit_of {n : Nat} (h : n < 4294967296) : n.testBit 31 = decide (2147483648 ≤ n) := by
  have h1 := top_bit32 h
  cases hb : n.testBit 31 <;> rw [hb] at h1 <;> simp at h1 ⊢ <;> omega
theorem sub32_bits (x y b d : Nat) (hx : x < 4294967296) (hy : y < 4294967296) (hb : b ≤ 1) (hd : d = (x + 4294967296 - y - b) % 4294967296) :
    bits BinOp.or IntKind.u32 (bits BinOp.and IntKind.u32 (bits BinOp.xor IntKind.u32 IntKind.u32.max (x : Int)) (y : Int)) (bits BinOp.and IntKind.u32 (bits BinOp.xor IntKind.u32 IntKind.u32.max (bits BinOp.xor IntKind.u32 (x : Int) (y : Int))) (d : Int)) / 2147483648 = ((if x < y + b then 1 else 0 : Nat) : Int) := by
  have hd2 : d < 4294967296 := by omega
  have hm : IntKind.u32.max = ((4294967295 : Nat) : Int) := rfl
  have hxy : x ^^^ y < 4294967296 := Nat.xor_lt_two_pow (n := 32) hx hy
  have h1 : 4294967295 ^^^ x < 4294967296 := Nat.xor_lt_two_pow (n := 32) (by omega) hx
  have h2 : 4294967295 ^^^ (x ^^^ y) < 4294967296 := Nat.xor_lt_two_pow (n := 32) (by omega) hxy
  have h3 : (4294967295 ^^^ x) &&& y < 4294967296 := Nat.and_lt_two_pow (n := 32) _ hy
  have h4 : (4294967295 ^^^ (x ^^^ y)) &&& d < 4294967296 := Nat.and_lt_two_pow (n := 32) _ hd2
  have h5 : ((4294967295 ^^^ x) &&& y) ||| ((4294967295 ^^^ (x ^^^ y)) &&& d) < 4294967296 := Nat.or_lt_two_pow (n := 32) h3 h4
  rw [hm, u32_xor_nat x y hx hy, u32_xor_nat _ x (by omega) hx, u32_xor_nat _ _ (by omega) hxy, u32_and_nat _ y h1 hy, u32_and_nat _ d h2 hd2, u32_or_nat _ _ h3 h4]
  have key : (((4294967295 ^^^ x) &&& y) ||| ((4294967295 ^^^ (x ^^^ y)) &&& d)) / 2147483648 = (if x < y + b then 1 else 0 : Nat) := by
    rw [top_bit32 h5, Nat.testBit_or, Nat.testBit_and, Nat.testBit_and, Nat.testBit_xor, Nat.testBit_xor, Nat.testBit_xor, bit_of hx, bit_of hy, bit_of hd2, show (4294967295 : Nat).testBit 31 = true by decide]
    by_cases a1 : 2147483648 ≤ x <;> by_cases a2 : 2147483648 ≤ y <;> by_cases a3 : 2147483648 ≤ d <;> simp [a1, a2, a3] <;> omega
  omega

end Go.Proofs.YtelalanhalbicaaDoor


namespace Go.Proofs.YtelalanhalbicaaDoor
open Go.RowKit

/-- What is left at limb j, and the borrow into it. -/
def brw (f h : Nat → Nat) : Nat → Nat
  | 0 => 0
  | k + 1 => if f k < h k + brw f h k then 1 else 0
theorem brw_le (f h : Nat → Nat) : ∀ k, brw f h k ≤ 1
  | 0 => by simp [brw]
  | k + 1 => by unfold brw; split <;> omega
def dif (f h : Nat → Nat) (j : Nat) : Nat := (f j + 4294967296 - h j - brw f h j) % 4294967296
theorem dif_lt (f h : Nat → Nat) (j : Nat) : dif f h j < 4294967296 := by unfold dif; omega
theorem vl_dif {f h : Nat → Nat} (hf : ∀ j, f j < 4294967296) (hh : ∀ j, h j < 4294967296) : ∀ k, vl (dif f h) k + vl h k = vl f k + brw f h k * pw k
  | 0 => by simp [vl, brw]
  | k + 1 => by
    have ih := vl_dif hf hh k
    have h1 := hf k
    have h2 := hh k
    have h3 := brw_le f h k
    rw [vl_succ, vl_succ h, vl_succ f, pw_succ]
    have e : dif f h k + h k + brw f h k = f k + brw f h (k + 1) * 4294967296 := by
      unfold dif
      show _ = f k + (if f k < h k + brw f h k then 1 else 0) * 4294967296
      split <;> omega
    have e2 : dif f h k * pw k + h k * pw k + brw f h k * pw k = f k * pw k + brw f h (k + 1) * (pw k * 4294967296) := by
      rw [← Nat.add_mul, ← Nat.add_mul, e, Nat.add_mul, Nat.mul_assoc, Nat.mul_comm 4294967296]
    omega

/-- The limbs from 40 on, with those of h taken off; the rest as it was. -/
def tkn (f h : Nat → Nat) (n : Nat) (j : Nat) : Nat := if 40 ≤ j ∧ j ≤ 40 + n then dif (fun i => f (40 + i)) h (j - 40) else f j

end Go.Proofs.YtelalanhalbicaaDoor


namespace Go.Proofs.YtelalanhalbicaaDoor
open Go.RowKit

end Go.Proofs.YtelalanhalbicaaDoor


namespace Go.Proofs.YtelalanhalbicaaDoor
open Go.RowKit

theorem row_setCells {t : TypeId} {g : Nat} : ∀ (vs : List Value) (o : Nat) (w : World) (cs : Array Value), w.heap[g]? = some (.cells cs t (0, 0)) → o + vs.length ≤ cs.size →
    ∃ cs' : Array Value, (w.setCells g o vs).heap[g]? = some (.cells cs' t (0, 0)) ∧ cs'.size = cs.size ∧ ∀ j, cs'[j]? = if o ≤ j ∧ j < o + vs.length then vs[j - o]? else cs[j]?
  | [], o, w, cs, h, _ => ⟨cs, h, rfl, fun j => by rw [if_neg (by simp)]⟩
  | v :: vs, o, w, cs, h, hl => by
    simp only [List.length_cons] at hl
    have h1 := heap_setCell_same w g o cs t v h
    obtain ⟨cs', h2, h3, h4⟩ := row_setCells vs (o + 1) _ _ h1 (by simp; omega)
    refine ⟨cs', h2, by simpa using h3, fun j => ?_⟩
    rw [h4 j]
    by_cases hj : j = o
    · subst hj
      rw [if_neg (by omega), if_pos (by simp), Nat.sub_self, List.getElem?_cons_zero, Array.getElem?_setIfInBounds, if_pos rfl, if_pos (by omega)]
    · by_cases hj2 : o + 1 ≤ j ∧ j < o + 1 + vs.length
      · rw [if_pos hj2, if_pos (by simp only [List.length_cons]; omega)]
        obtain ⟨d, rfl⟩ : ∃ d, j = o + 1 + d := ⟨j - (o + 1), by omega⟩
        rw [show o + 1 + d - (o + 1) = d by omega, show o + 1 + d - o = d + 1 by omega, List.getElem?_cons_succ]
      · rw [if_neg hj2, if_neg (by simp only [List.length_cons]; omega)]
        rw [Array.getElem?_setIfInBounds, if_neg (by omega)]
theorem below_setCells {B : Nat} {w : World} {g : Nat} : ∀ (vs : List Value) (o : Nat) (w' : World), Below B w w' → B ≤ g → Below B w (w'.setCells g o vs)
  | [], _, _, h, _ => h
  | v :: vs, o, _, h, hg => below_setCells vs (o + 1) _ (h.setCell (p := ⟨g, o, none⟩) hg v) hg
theorem pw_tp (q : Nat) : pw q = tp (32 * q) := by
  unfold pw tp
  rw [Nat.pow_mul]
theorem vl_at {f : Nat → Nat} {q n : Nat} (m : Nat) : vl (fun j => if q ≤ j ∧ j < q + n then f (j - q) else 0) (q + (n + m)) = vl f n * pw q := by
  have h0 : ∀ k, k ≤ q → vl (fun j => if q ≤ j ∧ j < q + n then f (j - q) else 0) k = 0 := by
    intro k
    induction k with
    | zero => intro _; rfl
    | succ k ih =>
      intro hk
      rw [vl_succ, ih (by omega)]
      show 0 + (if q ≤ k ∧ k < q + n then f (k - q) else 0) * pw k = 0
      rw [if_neg (by omega), Nat.zero_mul]
  rw [vl_shift, h0 q (Nat.le_refl _), Nat.zero_add, Nat.mul_comm]
  congr 1
  rw [vl_above (k := n) (m := n + m) (by omega) (fun j hj _ => ?_)]
  · exact vl_congr fun j hj => by
      show (if q ≤ q + j ∧ q + j < q + n then f (q + j - q) else 0) = f j
      rw [if_pos (by omega), Nat.add_sub_cancel_left]
  · show (if q ≤ q + j ∧ q + j < q + n then f (q + j - q) else 0) = 0
    rw [if_neg (by omega)]

/-- 'copy(n[q:], limbs)'. -/
theorem wpList_copy_at {P : Program} {w : World} {ops : Array Oper} {rest : List Oper} {o : Oper} {a : Act} {Q : Exit → Act → World → Prop} (hgd : o.guard = none) (d s : Operand) (t : TypeId)
    (ho : o.op = .call { callee := .builtin .copy, args := #[d, s], argTypes := #[t, t] }) (e : TypeId) (hu : P.underlying t = some (.slice e)) (hsz : (P.info? e).map (·.size) = some 1) {T : TypeId}
    {g q m c' N k c B : Nat} {A : Option Addr} {z f : Nat → Nat} (hd : a.eval d = .slice (some ⟨g, q, none⟩) m c') (hs : a.eval s = .slice A k c) (hb : Blk w T g N z) (hm : Rd w B A k c f) (hk : k ≤ m) (hN : q + k ≤ N)
    (h : ∀ w', Hid (Blk w' T g N (fun j => if q ≤ j ∧ j < q + k then f (j - q) else z j)) → Hid (Below g w w') → wpList P ops Q rest (a.put o.dst (goInt k)) w') :
    wpList P ops Q (o :: rest) a w := by
  obtain ⟨cur, hg, hcs, hcc⟩ := hb
  have hl : ((List.range k).map (fun j => Value.int .u32 (f j : Int))).length = k := by simp
  refine wpList_copy_splice hgd d s t t ho e hu hsz (some ⟨g, q, none⟩) A m c' k c hd hs g q cur.toList T (by simpa using hg) ((List.range k).map (fun j => Value.int .u32 (f j : Int))) (by rw [hl]; exact (Nat.min_eq_left hk).symm) ?_ (by simp [hcs]; omega) ?_ g w (Below.refl _ _) (Nat.le_refl _) ?_
  · intro h0
    rw [hl] at h0
    obtain ⟨b, off, rfl, hB, hc⟩ := hm.at_ h0
    exact ⟨rfl, _, rfl, fun j v hv => cells_of_rd hm _ rfl j v hv⟩
  · intro v hv
    simp at hv
    obtain ⟨j, _, rfl⟩ := hv
    rfl
  · intro w' hrow hbel
    have hrow := hrow.out
    rw [hl]
    refine h w' (show Blk _ _ _ _ _ from ⟨_, hrow, by simp [splice, hcs]; omega, fun j hj => ?_⟩) hbel
    simp only [splice, List.getElem?_toArray, hl]
    by_cases h1 : j < q
    · rw [List.getElem?_append_left (by simp [hcs]; omega), List.getElem?_take, if_pos h1, if_neg (by omega), Array.getElem?_toList]
      exact hcc j hj
    · obtain ⟨i, rfl⟩ : ∃ i, j = q + i := ⟨j - q, by omega⟩
      have hql : (cur.toList.take q).length = q := by simp [hcs]; omega
      rw [List.getElem?_append_right (by omega), hql, Nat.add_sub_cancel_left]
      by_cases h2 : i < k
      · rw [List.getElem?_append_left (by rw [hl]; exact h2), List.getElem?_map, List.getElem?_range h2, if_pos (by omega)]
        rfl
      · rw [List.getElem?_append_right (by rw [hl]; omega), hl, List.getElem?_drop, if_neg (by omega), show q + k + (i - k) = q + i by omega, Array.getElem?_toList]
        exact hcc (q + i) hj

end Go.Proofs.YtelalanhalbicaaDoor

