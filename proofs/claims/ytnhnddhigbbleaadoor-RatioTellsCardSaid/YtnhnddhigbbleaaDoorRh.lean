/- 'append(x, y...)', and copies by it. -/
/- Package ratio: a number that is divided: double, takeOff. -/
/- math/bits.Sub32. -/
/- Package ratio: takeOff. -/
/- Package ratio: top. -/
/- Package ratio: place. -/
import Derived.Test.YtnhnddhigbbleaaDoorRa
import Derived.Laws.AppendOwnNone
import Derived.Test.YtnhnddhigbbleaaDoorRd
import Derived.RegionTactic
import Derived.Deep.RegionHeld3
import Derived.Laws.BitsAllLaws
import Derived.IntWalk
import Derived.Deep.RegionWith
import Derived.Test.YtnhnddhigbbleaaDoorRg
import Derived.Laws.CopyOwn
import Derived.Laws.Rows
import Derived.Deep.MidRow

namespace Go.Proofs.YtnhnddhigbbleaaDoor
open Go.RowKit

/-- 'append(x, y...)', x a row of the call's own, y read from wherever, or nil. -/
theorem wpList_append_src {P : Program} {ops : Array Oper} {rest : List Oper} {o : Oper} {a : Act} {Q : Exit → Act → World → Prop} (hgd : o.guard = none) (s x : Operand) (t : TypeId)
    (ho : o.op = .call { callee := .builtin .append, args := #[s, x], argTypes := #[t, t] }) (e : TypeId) (z : Value) (bytes : Nat) (ht : P.underlying t = some (.slice e))
    (hi : (P.info? e).map (fun i => (i.zero, i.size, i.bytes)) = some (some z, 1, bytes)) (hz : z.cells.size = 1) (hby : bytes ≤ 8)
    {w : World} {B n m c : Nat} {v : Value} {xs news : List Value} {A : Option Addr} (hs : a.eval s = v) (hx : a.eval x = .slice A m c) (hown : w.ownsRow B e 1 v n xs) (hB : B ≤ w.heap.size)
    (hl : news.length = m) (hnil : A = none → m = 0 ∧ c = 0) (hcells : ∀ p, A = some p → ∀ j u, news[j]? = some u → w.cell? (p.add j) = some u) (hu : ∀ u ∈ news, u.oneCell' = true) (hn : n + m ≤ 17592186044416)
    (h : ∀ v' w', Hid (w'.ownsRow B e 1 v' (n + m) (xs ++ news)) → Hid (Below B w w') → wpList P ops Q rest (a.put o.dst v') w') : wpList P ops Q (o :: rest) a w := by
  obtain ⟨i0, hi, hz0, hz1, hz2⟩ := info_one hi
  cases A with
  | none =>
    obtain ⟨rfl, rfl⟩ := hnil rfl
    obtain rfl : news = [] := List.length_eq_zero_iff.1 hl
    refine wpList_append_own_none hgd s x t ho B e i0 1 ht hi v n xs hs hown hx ?_
    have hh := h v w
    rw [List.append_nil, Nat.add_zero] at hh
    exact hh hown (Below.refl _ _)
  | some p =>
    refine wpList_append_own _ hgd s x t ho B e i0 z 1 bytes ht hi hz0 hz1 hz2 hz (by decide) v n xs hs hown p m c news hx (by omega) (hcells p rfl) hu ?_ ?_ hB ?_
    · unfold maxLen
      omega
    · have : (n + m) * bytes ≤ (n + m) * 8 := Nat.mul_le_mul_left _ hby
      omega
    · intro v' w' hown' hgr _
      refine h v' w' hown' ((Below.refl _ _).grown hgr hB ?_)
      intro k hk
      rcases hown with ⟨_, ⟨rfl, _⟩ | ⟨g, cap, cur, rfl, hg, _⟩⟩
      · cases hk
      · injection hk with hk
        subst hk
        exact hg

/-- 'append([]T{}, y...)': what is handed back is of the call's own, and reads as y does. -/
theorem wpList_append_copy {P : Program} {ops : Array Oper} {rest : List Oper} {o : Oper} {a : Act} {Q : Exit → Act → World → Prop} (hgd : o.guard = none) (s x : Operand) (t : TypeId)
    (ho : o.op = .call { callee := .builtin .append, args := #[s, x], argTypes := #[t, t] }) (e : TypeId) (z : Value) (bytes : Nat) (ht : P.underlying t = some (.slice e))
    (hi : (P.info? e).map (fun i => (i.zero, i.size, i.bytes)) = some (some z, 1, bytes)) (hz : z.cells.size = 1) (hby : bytes ≤ 8)
    {w : World} {m c : Nat} {news : List Value} {A : Option Addr} (hs : a.eval s = .slice (some ⟨w.heap.size, 0, none⟩) 0 0) (hx : a.eval x = .slice A m c)
    (hl : news.length = m) (hnil : A = none → m = 0 ∧ c = 0) (hcells : ∀ p, A = some p → ∀ j u, news[j]? = some u → w.cell? (p.add j) = some u) (hu : ∀ u ∈ news, u.oneCell' = true) (hn : m ≤ 17592186044416)
    (h : ∀ v' w', Hid (w'.ownsRow w.heap.size e 1 v' m news) → Hid (Below w.heap.size w w') → wpList P ops Q rest (a.put o.dst v') w') : wpList P ops Q (o :: rest) a (w.alloc (.cells #[] e)) := by
  have bel : Below w.heap.size w (w.alloc (.cells #[] e)) := (Below.refl _ w).alloc (Nat.le_refl _) _
  refine wpList_append_src hgd s x t ho e z bytes ht hi hz hby (B := w.heap.size) (n := 0) (xs := []) hs hx ⟨rfl, .inr ⟨w.heap.size, 0, #[], rfl, Nat.le_refl _, heap_alloc_new w _, Nat.le_refl _, by unfold maxLen; omega, rfl, rfl⟩⟩ (by simp) hl hnil ?_ hu (by omega) ?_
  · intro p hp j u hj
    have hc := hcells p hp j u hj
    have hb : (p.add j).block < w.heap.size := block_lt_of_cell hc
    exact (bel.cell hb).trans hc
  · intro v' w' hown' hbel'
    rw [Nat.zero_add, List.nil_append] at hown'
    exact h v' w' hown' (bel.trans hbel'.out)

/-- A row of the call's own, its cells the limbs f. -/
theorem rd_of_row {w : World} {B n : Nat} {v : Value} {f : Nat → Nat} (h : w.ownsRow B 63 1 v n ((List.range n).map fun j => Value.int .u32 (f j : Int))) (hmax : n ≤ 140737488355328) (hlt : ∀ j, f j < 4294967296) (hout : ∀ j, n ≤ j → f j = 0) :
    ∃ A c, v = .slice A n c ∧ Rd w w.heap.size A n c f := by
  obtain ⟨_, hor⟩ := h
  rcases hor with ⟨rfl, rfl⟩ | ⟨g, cap, cur, rfl, hg, hh, hn, hc, hs, ht⟩
  · exact ⟨none, 0, rfl, ⟨Nat.le_refl _, hmax, hlt, hout, fun h => absurd h (by omega)⟩⟩
  · refine ⟨some ⟨g, 0, none⟩, cap, rfl, ⟨hn, hmax, hlt, hout, fun _ => ⟨g, 0, rfl, lt_of_heap hh, fun j hj => ?_⟩⟩⟩
    rw [Nat.zero_add, cell_of_row w g j cur 63 (0, 0) hh, ← Array.getElem?_toList]
    have e : ((List.range n).map fun j => Value.int .u32 (f j : Int))[j]? = some (.int .u32 (f j : Int)) := by simp [hj]
    rw [← ht, List.getElem?_take, Nat.mul_one, if_pos hj] at e
    exact e

theorem cells_of_rd {w : World} {B n c : Nat} {A : Option Addr} {f : Nat → Nat} (h : Rd w B A n c f) : ∀ p, A = some p → ∀ (j : Nat) (u : Value), ((List.range n).map fun j => Value.int .u32 (f j : Int))[j]? = some u → w.cell? (p.add j) = some u := by
  intro p hp j u hj
  have hjn : j < n := by
    rcases Nat.lt_or_ge j n with h | h
    · exact h
    · rw [List.getElem?_eq_none (by simpa using h)] at hj; cases hj
  obtain ⟨b, off, rfl, _, hc⟩ := h.at_ (by omega)
  injection hp with hp
  subst hp
  simp [hjn] at hj
  subst hj
  have : (⟨b, off, none⟩ : Addr).add j = ⟨b, off + j, none⟩ := by unfold Addr.add; simp
  rw [this]
  exact hc j hjn


end Go.Proofs.YtnhnddhigbbleaaDoor


namespace Go.Proofs.YtnhnddhigbbleaaDoor
open Go.RowKit

/-- Limbs, doubled. -/
def dbl (f : Nat → Nat) (j : Nat) : Nat := f j * 2 % 4294967296 + (if j = 0 then 0 else f (j - 1) / 2147483648)
theorem dbl_lt {f : Nat → Nat} (hf : ∀ j, f j < 4294967296) (j : Nat) : dbl f j < 4294967296 := by
  unfold dbl
  have h1 := hf j
  have h2 := hf (j - 1)
  split <;> omega
theorem vl_dbl {f : Nat → Nat} (hf : ∀ j, f j < 4294967296) : ∀ k, vl (dbl f) (k + 1) + f k / 2147483648 * pw (k + 1) = 2 * vl f (k + 1)
  | 0 => by
    have h := hf 0
    simp [vl, pw, dbl]
    omega
  | k + 1 => by
    have ih := vl_dbl hf k
    have h := hf (k + 1)
    rw [vl_succ, vl_succ f (k + 1), pw_succ (k + 1)]
    have e : dbl f (k + 1) = f (k + 1) * 2 % 4294967296 + f k / 2147483648 := by
      unfold dbl
      rw [if_neg (by omega), Nat.add_sub_cancel]
    rw [e, Nat.add_mul]
    have e2 : f (k + 1) * 2 % 4294967296 * pw (k + 1) + f (k + 1) / 2147483648 * (pw (k + 1) * 4294967296) = 2 * (f (k + 1) * pw (k + 1)) := by
      have e3 : f (k + 1) * 2 % 4294967296 + f (k + 1) / 2147483648 * 4294967296 = 2 * f (k + 1) := by omega
      rw [Nat.mul_comm (pw (k + 1)) 4294967296, ← Nat.mul_assoc (f (k + 1) / 2147483648), ← Nat.add_mul, e3, Nat.mul_assoc]
    generalize f (k + 1) * 2 % 4294967296 * pw (k + 1) = x1 at *
    generalize f (k + 1) / 2147483648 * (pw (k + 1) * 4294967296) = x2 at *
    generalize f k / 2147483648 * pw (k + 1) = x3 at *
    generalize f (k + 1) * pw (k + 1) = x4 at *
    omega
theorem or_low (x y : Nat) (hy : y ≤ 1) (hx : x % 2 = 0) (hx2 : x < 4294967296) : bits BinOp.or IntKind.u32 (x : Int) (y : Int) = ((x + y : Nat) : Int) := by
  rw [u32_or_nat x y hx2 (by omega), nat_join1 x y hx (by omega)]

theorem gset {w w' : World} {g : Nat} (h : w.grownBy w' (some g)) (j : Nat) (u : Value) : w.grownBy (w'.setCell ⟨g, j, none⟩ u).drew (some g) :=
  ⟨h.os, h.tape, h.output, by simpa [World.setCell, World.drew] using h.size, fun i hi hne => (Below.heap_setCell w' ⟨g, j, none⟩ u i (by rintro rfl; exact hne rfl)).trans (h.block i hi hne)⟩
theorem gset0 {w w' : World} {g : Nat} (h : w.grownBy w' (some g)) (j : Nat) (u : Value) : w.grownBy (w'.setCell ⟨g, j, none⟩ u) (some g) :=
  ⟨h.os, h.tape, h.output, by simpa [World.setCell] using h.size, fun i hi hne => (Below.heap_setCell w' ⟨g, j, none⟩ u i (by rintro rfl; exact hne rfl)).trans (h.block i hi hne)⟩
theorem grefl (w : World) (g : Nat) : w.grownBy w (some g) := ⟨rfl, rfl, rfl, Nat.le_refl _, fun _ _ _ => rfl⟩

set_option maxHeartbeats 3200000 in
theorem double_any {w : World} {g : Nat} {f : Nat → Nat} (h : Blk w 68 g 81 f) (hf : ∀ j, f j < 4294967296) :
    Calls Tryd.prog 52 #[.pointer (some ⟨g, 0, none⟩)] w fun e w' => e = .returned (.tuple #[]) ∧ Hid (Blk w' 68 g 81 (dbl f)) ∧ Hid (w.grownBy w' (some g)) := by
  have H := hid h
  have Hf := hid hf
  clear h hf
  go_enter Tryd.func52, Tryd.ntmps52
  go_wp2
  go_loopw [2] (fun i wr => ∃ k : Nat, k ≤ 80 ∧ i = .int .i64 (k : Int) ∧ Hid (Blk wr 68 g 81 (fun j => if j ≤ k then f j else dbl f j)) ∧ Hid (w.grownBy wr (some g))) (fun i _ => (intOf i).toNat)
  case atStart => exact ⟨80, Nat.le_refl _, rfl, hid (H.out.congr (fun j hj => (if_pos (by omega)).symm)), hid (grefl w g)⟩
  case round =>
    obtain ⟨k, hk, rfl, hblk, hgr⟩ := hrel
    have fz := hblk.out.frozen k
    rcases Nat.eq_zero_or_pos k with h0 | h0
    · subst h0
      have q0 := hblk.out.cell (j := 0) (by omega)
      have hf0 := Hf.out 0
      simp only [Nat.le_refl, if_true] at q0
      obtain ⟨x, hx⟩ : ∃ x, x = f 0 := ⟨_, rfl⟩
      rw [← hx] at q0 hf0
      have Hx := hid hx
      clear hx
      go_wp2_with fail
      go_region
      all_goals
        go_wp2
        go_end0
        refine ⟨rfl, ?_, hid (gset hgr.out 0 _)⟩
        have h1 := hblk.out.set 0 (x * 2 % 4294967296)
        have h2 : ((x * 2 % 4294967296 : Nat) : Int) = (x : Int) * 2 % 4294967296 := by omega
        rw [h2] at h1
        refine hid (h1.congr fun j hj => ?_)
        have h3 := Hx.out
        show (if j = 0 then x * 2 % 4294967296 else if j ≤ 0 then f j else dbl f j) = dbl f j
        by_cases h0 : j = 0
        · subst h0
          rw [if_pos rfl, h3]
          simp [dbl]
        · rw [if_neg h0, if_neg (by omega)]
    · obtain ⟨m, rfl⟩ : ∃ m, k = m + 1 := ⟨k - 1, by omega⟩
      have q1 := hblk.out.cell (j := m + 1) (by omega)
      have q0 := hblk.out.cell (j := m) (by omega)
      rw [if_pos (by omega)] at q0 q1
      have hf1 := Hf.out (m + 1)
      have hf0 := Hf.out m
      obtain ⟨x, hx⟩ : ∃ x, x = f (m + 1) := ⟨_, rfl⟩
      obtain ⟨y, hy⟩ : ∃ y, y = f m := ⟨_, rfl⟩
      rw [← hx] at q1 hf1
      rw [← hy] at q0 hf0
      have Hx := hid hx
      have Hy := hid hy
      clear hx hy
      have hp : (0 : Int) < ((m + 1 : Nat) : Int) := by omega
      have hm1 : ((m + 1 : Nat) : Int) - 1 = (m : Int) := by omega
      have hor : bits BinOp.or IntKind.u32 ((x : Int) * 2 % 4294967296) ((y : Int) / 2147483648) = ((x * 2 % 4294967296 + y / 2147483648 : Nat) : Int) := by
        have h := or_low (x * 2 % 4294967296) (y / 2147483648) (by omega) (by omega) (by omega)
        rw [← h]
        congr 1
      obtain ⟨z, hz⟩ : ∃ z, z = x * 2 % 4294967296 + y / 2147483648 := ⟨_, rfl⟩
      rw [← hz] at hor
      have Hz := hid hz
      clear hz
      go_wp2_with fail
      go_region
      all_goals
        go_wp2
        go_roundw
        case rel =>
          refine ⟨m, by omega, by go_num, ?_, hid (gset hgr.out _ _)⟩
          refine hid ((hblk.out.set (m + 1) z).congr fun j hj => ?_)
          have h3 := Hx.out
          have h4 := Hy.out
          have h5 := Hz.out
          show (if j = m + 1 then z else if j ≤ m + 1 then f j else dbl f j) = if j ≤ m then f j else dbl f j
          by_cases h0 : j = m + 1
          · subst h0
            rw [if_pos rfl, if_neg (by omega), h5, h3, h4]
            unfold dbl
            rw [if_neg (by omega), Nat.add_sub_cancel]
          · rw [if_neg h0]
            by_cases h6 : j ≤ m
            · rw [if_pos (by omega), if_pos h6]
            · rw [if_neg (by omega), if_neg h6]
        case measure => simp [intOf]

end Go.Proofs.YtnhnddhigbbleaaDoor


namespace Go.Proofs.YtnhnddhigbbleaaDoor
open Go.RowKit

theorem top_bit32 {n : Nat} (h : n < 4294967296) : n / 2147483648 = (n.testBit 31).toNat := by
  rw [Nat.testBit_eq_decide_div_mod_eq]
  have h1 : n / 2 ^ 31 % 2 = n / 2147483648 := by
    show n / 2147483648 % 2 = _
    omega
  rw [h1]
  have h2 : n / 2147483648 = 0 ∨ n / 2147483648 = 1 := by omega
  rcases h2 with h2 | h2 <;> rw [h2] <;> rfl
theorem bit_of {n : Nat} (h : n < 4294967296) : n.testBit 31 = decide (2147483648 ≤ n) := by
  have h1 := top_bit32 h
  cases hb : n.testBit 31 <;> rw [hb] at h1 <;> simp at h1 ⊢ <;> omega
theorem sub32_bits (x y b d : Nat) (hx : x < 4294967296) (hy : y < 4294967296) (hb : b ≤ 1) (hd : d = (x + 4294967296 - y - b) % 4294967296) :
    bits BinOp.or IntKind.u32 (bits BinOp.and IntKind.u32 (bits BinOp.xor IntKind.u32 IntKind.u32.max (x : Int)) (y : Int)) (bits BinOp.and IntKind.u32 (bits BinOp.xor IntKind.u32 IntKind.u32.max (bits BinOp.xor IntKind.u32 (x : Int) (y : Int))) (d : Int)) / 2147483648 = ((if x < y + b then 1 else 0 : Nat) : Int) := by
  have hd2 : d < 4294967296 := by omega
  have hm : IntKind.u32.max = ((4294967295 : Nat) : Int) := rfl
  have hxy : x ^^^ y < 4294967296 := Nat.xor_lt_two_pow (n := 32) hx hy
  have h1 : 4294967295 ^^^ x < 4294967296 := Nat.xor_lt_two_pow (n := 32) (by omega) hx
  have h2 : 4294967295 ^^^ (x ^^^ y) < 4294967296 := Nat.xor_lt_two_pow (n := 32) (by omega) hxy
  have h3 : (4294967295 ^^^ x) &&& y < 4294967296 := Nat.and_lt_two_pow (n := 32) _ hy
  have h4 : (4294967295 ^^^ (x ^^^ y)) &&& d < 4294967296 := Nat.and_lt_two_pow (n := 32) _ hd2
  have h5 : ((4294967295 ^^^ x) &&& y) ||| ((4294967295 ^^^ (x ^^^ y)) &&& d) < 4294967296 := Nat.or_lt_two_pow (n := 32) h3 h4
  rw [hm, u32_xor_nat x y hx hy, u32_xor_nat _ x (by omega) hx, u32_xor_nat _ _ (by omega) hxy, u32_and_nat _ y h1 hy, u32_and_nat _ d h2 hd2, u32_or_nat _ _ h3 h4]
  have key : (((4294967295 ^^^ x) &&& y) ||| ((4294967295 ^^^ (x ^^^ y)) &&& d)) / 2147483648 = (if x < y + b then 1 else 0 : Nat) := by
    rw [top_bit32 h5, Nat.testBit_or, Nat.testBit_and, Nat.testBit_and, Nat.testBit_xor, Nat.testBit_xor, Nat.testBit_xor, bit_of hx, bit_of hy, bit_of hd2, show (4294967295 : Nat).testBit 31 = true by decide]
    by_cases a1 : 2147483648 ≤ x <;> by_cases a2 : 2147483648 ≤ y <;> by_cases a3 : 2147483648 ≤ d <;> simp [a1, a2, a3] <;> omega
  omega

set_option maxHeartbeats 3200000 in
theorem sub32_any (x y b d r : Nat) (hx : x < 4294967296) (hy : y < 4294967296) (hb : b ≤ 1) (hd : d = (x + 4294967296 - y - b) % 4294967296) (hr : r = (if x < y + b then 1 else 0)) (w : World) :
    Calls Tryd.prog 65 #[.int .u32 (x : Int), .int .u32 (y : Int), .int .u32 (b : Int)] w fun e w' => e = .returned (.tuple #[.int .u32 (d : Int), .int .u32 (r : Int)]) ∧ w = w' := by
  have hsg : IntKind.u32.signed = false := rfl
  have hv := sub32_bits x y b d hx hy hb hd
  rw [← hr] at hv
  have hd3 : ((x : Int) - (y : Int) - (b : Int)) % 4294967296 = (d : Int) := by omega
  have Hd4 := hid (show (((x : Int) - (y : Int)) % 4294967296 - (b : Int)) % 4294967296 = (d : Int) by omega)
  have hd2 : d < 4294967296 := by omega
  have Hv := hid hv
  clear hd hr hv
  go_enter Tryd.func65, Tryd.ntmps65
  go_wp2
  go_ret2
  refine ⟨?_, rfl⟩
  have h := Hv.out
  have h4 := Hd4.out
  show Ending.returned (Value.tuple #[.int .u32 _, .int .u32 _]) = _
  rw [h, h4]
end Go.Proofs.YtnhnddhigbbleaaDoor


namespace Go.Proofs.YtnhnddhigbbleaaDoor
open Go.RowKit

/-- What is left at limb j, and the borrow into it. -/
def brw (f h : Nat → Nat) : Nat → Nat
  | 0 => 0
  | k + 1 => if f k < h k + brw f h k then 1 else 0
theorem brw_le (f h : Nat → Nat) : ∀ k, brw f h k ≤ 1
  | 0 => by simp [brw]
  | k + 1 => by unfold brw; split <;> omega
def dif (f h : Nat → Nat) (j : Nat) : Nat := (f j + 4294967296 - h j - brw f h j) % 4294967296
theorem dif_lt (f h : Nat → Nat) (j : Nat) : dif f h j < 4294967296 := by unfold dif; omega
theorem vl_dif {f h : Nat → Nat} (hf : ∀ j, f j < 4294967296) (hh : ∀ j, h j < 4294967296) : ∀ k, vl (dif f h) k + vl h k = vl f k + brw f h k * pw k
  | 0 => by simp [vl, brw]
  | k + 1 => by
    have ih := vl_dif hf hh k
    have h1 := hf k
    have h2 := hh k
    have h3 := brw_le f h k
    rw [vl_succ, vl_succ h, vl_succ f, pw_succ]
    have e : dif f h k + h k + brw f h k = f k + brw f h (k + 1) * 4294967296 := by
      unfold dif
      show _ = f k + (if f k < h k + brw f h k then 1 else 0) * 4294967296
      split <;> omega
    have e2 : dif f h k * pw k + h k * pw k + brw f h k * pw k = f k * pw k + brw f h (k + 1) * (pw k * 4294967296) := by
      rw [← Nat.add_mul, ← Nat.add_mul, e, Nat.add_mul, Nat.mul_assoc, Nat.mul_comm 4294967296]
    omega

/-- The limbs from 40 on, with those of h taken off; the rest as it was. -/
def tkn (f h : Nat → Nat) (n : Nat) (j : Nat) : Nat := if 40 ≤ j ∧ j ≤ 40 + n then dif (fun i => f (40 + i)) h (j - 40) else f j

set_option maxHeartbeats 6400000 in
theorem take_any {w : World} {g B n c : Nat} {A : Option Addr} {f h : Nat → Nat} (hb : Blk w 68 g 81 f) (hf : ∀ j, f j < 4294967296) (hr : Rd w B A n c h) (hB : B ≤ g) (hn : n ≤ 40) :
    Calls Tryd.prog 55 #[.pointer (some ⟨g, 0, none⟩), .slice A n c] w fun e w' => e = .returned (.tuple #[]) ∧ Hid (Blk w' 68 g 81 (tkn f h n)) ∧ Hid (w.grownBy w' (some g)) := by
  have Hb := hid hb
  have Hf := hid hf
  have Hr := hid hr
  have hnc := hr.cap
  have hnm := hr.max
  clear hb hf hr
  go_enter Tryd.func55, Tryd.ntmps55
  go_wp2
  go_loopw [4, 9] (fun cc i wr => ∃ k y : Nat, k ≤ n ∧ i = .int .i64 (k : Int) ∧ cc = .int .u32 (y : Int) ∧ y ≤ 1 ∧ Hid (y = brw (fun i => f (40 + i)) h k) ∧ Hid (Blk wr 68 g 81 (fun j => if 40 ≤ j ∧ j < 40 + k then dif (fun i => f (40 + i)) h (j - 40) else f j)) ∧ Hid (w.grownBy wr (some g))) (fun _ i _ => n - (intOf i).toNat)
  case atStart => exact ⟨0, 0, Nat.zero_le _, rfl, rfl, by omega, hid rfl, hid (Hb.out.congr (fun j hj => (if_neg (by omega)).symm)), hid (grefl w g)⟩
  case round =>
    obtain ⟨k, y, hk, rfl, rfl, hy, Hy, hblk, hgr⟩ := hrel
    obtain ⟨q, hq⟩ : ∃ q, q = 40 + k := ⟨_, rfl⟩
    have fz := hblk.out.frozen q
    have q1 := hblk.out.cell (j := q) (by omega)
    rw [if_neg (by omega)] at q1
    have hf1 := Hf.out (40 + k)
    obtain ⟨x, hx⟩ : ∃ x, x = f (40 + k) := ⟨_, rfl⟩
    rw [show f q = x by rw [hx, hq]] at q1
    rw [← hx] at hf1
    have Hx := hid hx
    clear hx
    have h40 : (40 : Int) + (k : Int) = (q : Int) := by omega
    have hq81 : q < 81 := by omega
    have hwq : IntKind.i64.wrap (q : Int) = (q : Int) := IntWalk.i64_in _ (by omega)
    have Hq := hid hq
    clear hq
    by_cases hkn : k < n
    · obtain ⟨b, off, rfl, hbB, hc⟩ := Hr.out.at_ (by omega)
      have hne : b ≠ g := by omega
      have xa : wr.cell? ⟨b, off + k, none⟩ = some (.int .u32 (h k : Int)) := by
        have h1 : b < w.heap.size := block_lt_of_cell (hc k hkn)
        rw [← hc k hkn]
        exact World.cell?_of_block (hgr.out.block b h1 (by intro e; injection e with e; exact hne e))
      have hh1 := Hr.out.lt k
      obtain ⟨u, hu⟩ : ∃ u, u = h k := ⟨_, rfl⟩
      rw [← hu] at xa hh1
      have Hu := hid hu
      have hki : (k : Int) < (n : Int) := by omega
      clear hu hc
      obtain ⟨d, hd⟩ : ∃ d, d = (x + 4294967296 - u - y) % 4294967296 := ⟨_, rfl⟩
      obtain ⟨r, hr⟩ : ∃ r, r = (if x < u + y then 1 else 0) := ⟨_, rfl⟩
      have CS := hid (fun w' => sub32_any x u y d r hf1 hh1 hy hd hr w')
      have Hd := hid hd
      have Hrr := hid hr
      have hr1 : r ≤ 1 := by rw [hr]; split <;> omega
      clear hd hr
      go_wp2_with fail
      go_region_with ((go_at_call 65; refine (CS.out _).mono ?_; rintro e w' ⟨rfl, rfl⟩))
      all_goals
        go_wp2
        trace_state
        go_roundw
        case rel =>
          refine ⟨k + 1, r, by omega, by go_num, rfl, hr1, ?_, ?_, hid (gset hgr.out _ _)⟩
          · refine hid ?_
            rw [Hrr.out, Hx.out, Hu.out, Hy.out]
            rfl
          · refine hid ((hblk.out.set q d).congr fun j hj => ?_)
            have h3 := Hx.out
            have h4 := Hu.out
            have h5 := Hd.out
            have h6 := Hy.out
            rw [Hq.out]
            show (if j = 40 + k then d else if 40 ≤ j ∧ j < 40 + k then dif (fun i => f (40 + i)) h (j - 40) else f j) = if 40 ≤ j ∧ j < 40 + (k + 1) then dif (fun i => f (40 + i)) h (j - 40) else f j
            by_cases h0 : j = 40 + k
            · subst h0
              rw [if_pos rfl, if_pos (by omega), h5, h3, h4, h6, Nat.add_sub_cancel_left]
              rfl
            · rw [if_neg h0]
              by_cases h7 : 40 ≤ j ∧ j < 40 + k
              · rw [if_pos h7, if_pos (by omega)]
              · rw [if_neg h7, if_neg (by omega)]
        case measure => simp [intOf]; omega
    · obtain rfl : k = n := by omega
      have hki : ¬ ((k : Int) < (k : Int)) := by omega
      have hs : ((x : Int) - (y : Int)) % 4294967296 = (((x + 4294967296 - 0 - y) % 4294967296 : Nat) : Int) := by omega
      obtain ⟨d, hd⟩ : ∃ d, d = (x + 4294967296 - 0 - y) % 4294967296 := ⟨_, rfl⟩
      rw [← hd] at hs
      have Hd := hid hd
      clear hd
      go_wp2_with fail
      go_region
      all_goals
        go_wp2
        go_end0
        refine ⟨rfl, ?_, hid (gset hgr.out _ _)⟩
        refine hid ((hblk.out.set q d).congr fun j hj => ?_)
        have h3 := Hx.out
        have h5 := Hd.out
        have h6 := Hy.out
        have h8 := Hr.out.out k (Nat.le_refl _)
        rw [Hq.out]
        show (if j = 40 + k then d else if 40 ≤ j ∧ j < 40 + k then dif (fun i => f (40 + i)) h (j - 40) else f j) = if 40 ≤ j ∧ j ≤ 40 + k then dif (fun i => f (40 + i)) h (j - 40) else f j
        by_cases h0 : j = 40 + k
        · subst h0
          rw [if_pos rfl, if_pos (by omega), h5, h3, h6, Nat.add_sub_cancel_left]
          unfold dif
          rw [h8]
        · rw [if_neg h0]
          by_cases h7 : 40 ≤ j ∧ j < 40 + k
          · rw [if_pos h7, if_pos (by omega)]
          · rw [if_neg h7, if_neg (by omega)]

end Go.Proofs.YtnhnddhigbbleaaDoor


namespace Go.Proofs.YtnhnddhigbbleaaDoor
open Go.RowKit

set_option maxHeartbeats 1600000 in
theorem top_any {V X : Nat} {s : Bool} {w : World} {v : Value} (h : Val w V v) (hX : X ≤ 1024) :
    Calls Tryd.prog 40 #[.agg #[.bool s, v, .int .i64 (X : Int)]] w fun e w' => ∃ z : Nat, e = .returned (.int .i64 ((z : Int) - 1 - (X : Int))) ∧ Hid (Size V z ∧ z ≤ 1280) ∧ Hid (Below w.heap.size w w') := by
  obtain ⟨A, n, c, rfl⟩ := h.shape
  have B0 := hid ((Below.refl w.heap.size w).alloc (Nat.le_refl _) (.cells #[.bool s, .slice A n c, .int .i64 (X : Int)] 24))
  have P0 : Hid (Dbox _ w.heap.size s (.slice A n c) (X : Int)) := heap_alloc_new w (.cells #[.bool s, .slice A n c, .int .i64 (X : Int)] 24)
  have hlt := h.lt
  have CB := hid (bits_val (h.below B0.out))
  have Hlt := hid hlt
  clear h hlt
  go_enter Tryd.func40, Tryd.ntmps40
  go_wp2_with fail
  refine CB.out.mono ?_
  rintro e w1 ⟨z, rfl, Sz, J⟩
  have P0 := hid (P0.out.below J.out P0.out.lt)
  have a2 := P0.out.c2
  have hz := size_le1280 Sz.out Hlt.out
  have B1 := hid (B0.out.trans (J.out.mono B0.out.size))
  clear CB J B0
  go_wp2
  go_ret
  exact ⟨z, rfl, ⟨Sz.out, hz⟩, B1⟩

end Go.Proofs.YtnhnddhigbbleaaDoor


namespace Go.Proofs.YtnhnddhigbbleaaDoor
open Go.RowKit

theorem row_setCells {t : TypeId} {g : Nat} : ∀ (vs : List Value) (o : Nat) (w : World) (cs : Array Value), w.heap[g]? = some (.cells cs t (0, 0)) → o + vs.length ≤ cs.size →
    ∃ cs' : Array Value, (w.setCells g o vs).heap[g]? = some (.cells cs' t (0, 0)) ∧ cs'.size = cs.size ∧ ∀ j, cs'[j]? = if o ≤ j ∧ j < o + vs.length then vs[j - o]? else cs[j]?
  | [], o, w, cs, h, _ => ⟨cs, h, rfl, fun j => by rw [if_neg (by simp)]⟩
  | v :: vs, o, w, cs, h, hl => by
    simp only [List.length_cons] at hl
    have h1 := heap_setCell_same w g o cs t v h
    obtain ⟨cs', h2, h3, h4⟩ := row_setCells vs (o + 1) _ _ h1 (by simp; omega)
    refine ⟨cs', h2, by simpa using h3, fun j => ?_⟩
    rw [h4 j]
    by_cases hj : j = o
    · subst hj
      rw [if_neg (by omega), if_pos (by simp), Nat.sub_self, List.getElem?_cons_zero, Array.getElem?_setIfInBounds, if_pos rfl, if_pos (by omega)]
    · by_cases hj2 : o + 1 ≤ j ∧ j < o + 1 + vs.length
      · rw [if_pos hj2, if_pos (by simp only [List.length_cons]; omega)]
        obtain ⟨d, rfl⟩ : ∃ d, j = o + 1 + d := ⟨j - (o + 1), by omega⟩
        rw [show o + 1 + d - (o + 1) = d by omega, show o + 1 + d - o = d + 1 by omega, List.getElem?_cons_succ]
      · rw [if_neg hj2, if_neg (by simp only [List.length_cons]; omega)]
        rw [Array.getElem?_setIfInBounds, if_neg (by omega)]
theorem below_setCells {B : Nat} {w : World} {g : Nat} : ∀ (vs : List Value) (o : Nat) (w' : World), Below B w w' → B ≤ g → Below B w (w'.setCells g o vs)
  | [], _, _, h, _ => h
  | v :: vs, o, _, h, hg => below_setCells vs (o + 1) _ (h.setCell (p := ⟨g, o, none⟩) hg v) hg
theorem pw_tp (q : Nat) : pw q = tp (32 * q) := by
  unfold pw tp
  rw [Nat.pow_mul]
theorem vl_at {f : Nat → Nat} {q n : Nat} (m : Nat) : vl (fun j => if q ≤ j ∧ j < q + n then f (j - q) else 0) (q + (n + m)) = vl f n * pw q := by
  have h0 : ∀ k, k ≤ q → vl (fun j => if q ≤ j ∧ j < q + n then f (j - q) else 0) k = 0 := by
    intro k
    induction k with
    | zero => intro _; rfl
    | succ k ih =>
      intro hk
      rw [vl_succ, ih (by omega)]
      show 0 + (if q ≤ k ∧ k < q + n then f (k - q) else 0) * pw k = 0
      rw [if_neg (by omega), Nat.zero_mul]
  rw [vl_shift, h0 q (Nat.le_refl _), Nat.zero_add, Nat.mul_comm]
  congr 1
  rw [vl_above (k := n) (m := n + m) (by omega) (fun j hj _ => ?_)]
  · exact vl_congr fun j hj => by
      show (if q ≤ q + j ∧ q + j < q + n then f (q + j - q) else 0) = f j
      rw [if_pos (by omega), Nat.add_sub_cancel_left]
  · show (if q ≤ q + j ∧ q + j < q + n then f (q + j - q) else 0) = 0
    rw [if_neg (by omega)]

theorem zero_num : Tryd.zeroCells68 = Array.replicate 81 (.int .u32 0) := by kernel_rfl
theorem zero_blk (w : World) : Blk (w.alloc (.cells Tryd.zeroCells68 68)) 68 w.heap.size 81 (fun _ => 0) := by
  refine ⟨_, heap_alloc_new w _, ?_, fun j hj => ?_⟩
  · rw [zero_num]; simp
  · rw [zero_num, Array.getElem?_replicate, if_pos hj]; rfl

/-- 'copy(n[q:], limbs)'. -/
theorem wpList_copy_at {P : Program} {w : World} {ops : Array Oper} {rest : List Oper} {o : Oper} {a : Act} {Q : Exit → Act → World → Prop} (hgd : o.guard = none) (d s : Operand) (t : TypeId)
    (ho : o.op = .call { callee := .builtin .copy, args := #[d, s], argTypes := #[t, t] }) (e : TypeId) (hu : P.underlying t = some (.slice e)) (hsz : (P.info? e).map (·.size) = some 1) {T : TypeId}
    {g q m c' N k c B : Nat} {A : Option Addr} {z f : Nat → Nat} (hd : a.eval d = .slice (some ⟨g, q, none⟩) m c') (hs : a.eval s = .slice A k c) (hb : Blk w T g N z) (hm : Rd w B A k c f) (hk : k ≤ m) (hN : q + k ≤ N)
    (h : ∀ w', Hid (Blk w' T g N (fun j => if q ≤ j ∧ j < q + k then f (j - q) else z j)) → Hid (Below g w w') → wpList P ops Q rest (a.put o.dst (goInt k)) w') :
    wpList P ops Q (o :: rest) a w := by
  obtain ⟨cur, hg, hcs, hcc⟩ := hb
  have hl : ((List.range k).map (fun j => Value.int .u32 (f j : Int))).length = k := by simp
  refine wpList_copy_splice hgd d s t t ho e hu hsz (some ⟨g, q, none⟩) A m c' k c hd hs g q cur.toList T (by simpa using hg) ((List.range k).map (fun j => Value.int .u32 (f j : Int))) (by rw [hl]; exact (Nat.min_eq_left hk).symm) ?_ (by simp [hcs]; omega) ?_ g w (Below.refl _ _) (Nat.le_refl _) ?_
  · intro h0
    rw [hl] at h0
    obtain ⟨b, off, rfl, hB, hc⟩ := hm.at_ h0
    exact ⟨rfl, _, rfl, fun j v hv => cells_of_rd hm _ rfl j v hv⟩
  · intro v hv
    simp at hv
    obtain ⟨j, _, rfl⟩ := hv
    rfl
  · intro w' hrow hbel
    have hrow := hrow.out
    rw [hl]
    refine h w' (show Blk _ _ _ _ _ from ⟨_, hrow, by simp [splice, hcs]; omega, fun j hj => ?_⟩) hbel
    simp only [splice, List.getElem?_toArray, hl]
    by_cases h1 : j < q
    · rw [List.getElem?_append_left (by simp [hcs]; omega), List.getElem?_take, if_pos h1, if_neg (by omega), Array.getElem?_toList]
      exact hcc j hj
    · obtain ⟨i, rfl⟩ : ∃ i, j = q + i := ⟨j - q, by omega⟩
      have hql : (cur.toList.take q).length = q := by simp [hcs]; omega
      rw [List.getElem?_append_right (by omega), hql, Nat.add_sub_cancel_left]
      by_cases h2 : i < k
      · rw [List.getElem?_append_left (by rw [hl]; exact h2), List.getElem?_map, List.getElem?_range h2, if_pos (by omega)]
        rfl
      · rw [List.getElem?_append_right (by rw [hl]; omega), hl, List.getElem?_drop, if_neg (by omega), show q + k + (i - k) = q + i by omega, Array.getElem?_toList]
        exact hcc (q + i) hj

theorem len_num : Tryd.prog.arrayLen 68 = 81 := by kernel_rfl
theorem slice_num (g q : Nat) (hq : q ≤ 80) (w : World) : (Instr.sliceAt 68 (.pointer (some ⟨g, 0, none⟩)) (some (.int .i64 (q : Int))) none none).run Tryd.prog w = .ok (.slice (some ⟨g, q, none⟩) (81 - q) (81 - q)) w := by
  have h := run_sliceAt_array_l (P := Tryd.prog) w 68 ⟨g, 0, none⟩ (by kernel_rfl) .i64 (q : Int) (by omega) (by rw [len_num]; omega)
  rw [h, len_num]
  have hne : ¬ 81 = q := by omega
  have hs : ∀ w', (sizeOf (Tryd.prog.elem 68)).run Tryd.prog w' = .ok 1 w' := by
    intro w'
    rw [show Tryd.prog.elem 68 = 63 from by kernel_rfl]
    go_simp
  rw [hs]
  simp [slicedAt, hne, Addr.add, Result.andThen]
  try omega

set_option maxHeartbeats 6400000 in
set_option maxRecDepth 100000 in
theorem nplace_any {w : World} {A : Option Addr} {n c t q r : Nat} {f : Nat → Nat} (hr : Rd w w.heap.size A n c f) (ht : t = 32 * q + r) (hr32 : r < 32) (hq : q + n ≤ 81) (hq2 : q ≤ 80) (hV : vl f n * tp t < pw 81) :
    Calls Tryd.prog 41 #[.slice A n c, .int .i64 ((t : Int) - 1280)] w fun e w' => ∃ cs : Array Value, e = .returned (.agg cs) ∧ Hid (∃ F : Nat → Nat, cs.size = 81 ∧ (∀ j, j < 81 → cs[j]? = some (.int .u32 (F j : Int))) ∧ (∀ j, F j < 4294967296) ∧ vl F 81 = vl f n * tp t) ∧ Hid (Below w.heap.size w w') := by
  have hw1 : IntKind.i64.wrap ((t : Int) - 1280 + 1280) = (t : Int) := by rw [Int.sub_add_cancel]; exact IntWalk.i64_in _ (by omega)
  have hdiv : (t : Int) / 32 = (q : Int) := by omega
  have hmod : (t : Int) % 32 = (r : Int) := by omega
  have hcap := hr.cap
  have hsl := slice_num (w.heap.size + 1) q hq2
  have B0 := hid (((Below.refl w.heap.size w).alloc (Nat.le_refl _) (.cells Tryd.zeroCells68 68)).alloc (by simp) (.cells Tryd.zeroCells68 68))
  have Z0 := hid ((zero_blk w).alloc (.cells Tryd.zeroCells68 68))
  have Z1 := hid (zero_blk (w.alloc (.cells Tryd.zeroCells68 68)))
  rw [show (w.alloc (.cells Tryd.zeroCells68 68)).heap.size = w.heap.size + 1 by simp] at Z1
  have Hr := hid (hr.below B0.out)
  have HV := hid hV
  have Ht := hid ht
  obtain ⟨W, hW⟩ : ∃ W, W = (w.alloc (.cells Tryd.zeroCells68 68)).alloc (.cells Tryd.zeroCells68 68) := ⟨_, rfl⟩
  have HW := hid hW
  rw [← hW] at B0 Z0 Z1 Hr
  clear hr hV hW ht
  go_enter Tryd.func41, Tryd.ntmps41
  go_upto_region 3 with fail
  rw [← HW.out]
  have hsz : (Tryd.prog.info? 63).map (·.size) = some 1 := by kernel_rfl
  have Z1o := Z1.out
  have Hro := Hr.out
  go_wp2_with (with_reducible refine wpList_copy_at rfl (.tmp 10) (.tmp 11) 22 rfl 63 Tryd.underlying22 hsz rfl rfl Z1o Hro (by omega) (by omega) ?_; intro w1 hb1 hl1)
  have Hlt := Hr.out.lt
  have HF0 : Hid (vl (fun j => if q ≤ j ∧ j < q + n then f (j - q) else 0) 81 = vl f n * pw q) := by
    have h := vl_at (f := f) (q := q) (n := n) (81 - q - n)
    rwa [show q + (n + (81 - q - n)) = 81 by omega] at h
  have HL0 : Hid (∀ j, (if q ≤ j ∧ j < q + n then f (j - q) else 0) < 4294967296) := by
    intro j
    show (if q ≤ j ∧ j < q + n then f (j - q) else 0) < 4294967296
    split
    · exact Hlt _
    · omega
  have Z0 := hid (Z0.out.below hl1.out (by omega))
  have B1 := hid (B0.out.trans (hl1.out.mono (by have := Z1.out.lt; omega)))
  have HB := hid (show Below w.heap.size w w1 from B0.out.trans (hl1.out.mono (by omega)))
  clear Z1o Hro Z1 hl1 Hlt B1
  go_wp2_with fail
  go_loopw [15] (fun i wr => ∃ (k : Nat) (F : Nat → Nat), k ≤ r ∧ i = .int .i64 (k : Int) ∧ Hid (Blk wr 68 (w.heap.size + 1) 81 F) ∧ Hid (Blk wr 68 w.heap.size 81 (fun _ => 0)) ∧ Hid (∀ j, F j < 4294967296) ∧ Hid (vl F 81 = vl f n * pw q * tp k) ∧ Hid (Below w.heap.size w wr)) (fun i _ => r - (intOf i).toNat)
  case atStart => exact ⟨0, _, Nat.zero_le _, rfl, hb1, Z0, HL0, hid (by rw [HF0.out, tp_zero, Nat.mul_one]), HB⟩
  case round =>
    obtain ⟨k, F, hk, rfl, hblk, hz, hlt, hvl, hbel⟩ := hrel
    by_cases hkr : k < r
    · have hki : (k : Int) < (r : Int) := by omega
      have CD := hid (double_any hblk.out hlt.out)
      have htop : Hid (vl (dbl F) 81 = vl f n * pw q * tp (k + 1)) := by
        have h1 := vl_dbl hlt.out 80
        have h2 := hvl.out
        have h3 := HV.out
        have h4 : vl f n * pw q * tp (k + 1) ≤ vl f n * tp t := by
          rw [Ht.out, tp_add (32 * q) r, ← pw_tp, ← Nat.mul_assoc]
          exact Nat.mul_le_mul_left _ (Nat.pow_le_pow_right (by omega) (by omega))
        have h5 : 2 * vl F 81 = vl f n * pw q * tp (k + 1) := by
          rw [h2, tp_succ, Nat.mul_comm 2, Nat.mul_assoc]
        have h6 : F 80 / 2147483648 = 0 := by
          rcases Nat.eq_zero_or_pos (F 80 / 2147483648) with h | h
          · exact h
          · have h7 : pw (80 + 1) ≤ F 80 / 2147483648 * pw (80 + 1) := Nat.le_mul_of_pos_left _ h
            have h8 : vl f n * tp t < pw (80 + 1) := h3
            have h9 : 2 * vl F (80 + 1) = vl f n * pw q * tp (k + 1) := h5
            omega
        rw [h6, Nat.zero_mul, Nat.add_zero] at h1
        show vl (dbl F) 81 = _
        rw [h1, h5]
      go_wp2_with fail
      refine CD.out.mono ?_
      rintro e w2 ⟨rfl, hb2, hg2⟩
      have hz2 := hid (hz.out.grown hg2.out (by intro e; injection e with e; omega))
      have hbel2 := hid (Below.grown hbel.out hg2.out hbel.out.size (fun k hk => by injection hk with hk; omega))
      have hlt2 := hid (dbl_lt hlt.out)
      clear hblk hz hbel CD
      go_wp2
      go_roundw
      case rel => exact ⟨.int .i64 ((k + 1 : Nat) : Int), _, _, _, ⟨k + 1, _, by omega, rfl, hb2, hz2, hlt2, htop, hbel2⟩, by rw [hmod]; rfl⟩
      case measure => simp [intOf]; omega
    · obtain rfl : k = r := by omega
      obtain ⟨cs, hh, hs, hc⟩ := hblk.out
      obtain ⟨cz, hzh, hzs, hzc⟩ := hz.out
      have hone : cs.all (·.oneCell') = true := by
        refine Array.all_eq_true.2 (fun j hj => ?_)
        have h1 := hc j (by omega)
        rw [Array.getElem?_eq_getElem hj] at h1
        injection h1 with h1
        rw [h1]
        rfl
      have hthere : wr.there w.heap.size 0 cs.size := fun j hj => by
        rw [Nat.zero_add]
        refine ⟨?_, hz.out.frozen j⟩
        rw [hz.out.cell (by omega)]
        rfl
      obtain ⟨cs', e1, e2, e3⟩ := row_setCells (t := 68) cs.toList 0 wr cz hzh (by simp; omega)
      have hcs : cs' = cs := by
        apply Array.ext_getElem?
        intro j
        rw [e3 j]
        by_cases hj : j < cs.size
        · rw [if_pos (by simp; omega), Nat.sub_zero, Array.getElem?_toList]
        · rw [if_neg (by simp; omega), Array.getElem?_eq_none (by omega), Array.getElem?_eq_none (by omega)]
      rw [hcs] at e1
      have E1 := hid e1
      have HH := hid hh
      have HS := hid hs
      have HC := hid hc
      have HO := hid hone
      have HT := hid hthere
      have hisz : (Tryd.prog.info? 68).map (·.size) = some 81 := by kernel_rfl
      have HI := hid (show (Tryd.prog.info? 68).map (·.size) = some cs.size by rw [hisz, hs])
      clear hh hs hc hzh hzs hzc hone hthere e1 e2 e3 hcs hisz
      go_wp2_with (first
        | (with_reducible refine wpList_load_row rfl 68 (.tmp 5) rfl (w.heap.size + 1) rfl 68 cs (0, 0) _ HH.out Tryd.underlying68 rfl HI.out ?_)
        | (with_reducible refine wpList_store_mid rfl 68 (.tmp 4) (.tmp 19) rfl w.heap.size 0 cs rfl rfl HT.out HI.out HO.out ?_))
      refine bodyPost_ret (results_cell_row (ty := 68) rfl _ _ w.heap.size 68 cs (0, 0) _ rfl E1.out Tryd.underlying68 rfl HI.out) rfl ⟨cs, rfl, hid ⟨F, HS.out, HC.out, hlt.out, ?_⟩, hid (below_setCells _ _ _ hbel.out (Nat.le_refl _))⟩
      rw [hvl.out, Ht.out, tp_add (32 * q) k, ← pw_tp, Nat.mul_assoc]

end Go.Proofs.YtnhnddhigbbleaaDoor

