/- Ether: the document's May, Check, SameOne, Same, Great, Counted, Many. -/
import Derived.Test.YtbpijlghdpflgaaDoorYc
import Derived.Deep.DeepBigQuietO
import Derived.Deep.RegionHeld3
import Derived.Deep.QuietTactic
import Derived.Laws.Cover3
namespace Go.Proofs.YtbpijlghdpflgaaDoor.Eth
open Go.RowKit Go.Shelf Go.Lib

/-- A copy in its box. -/
def Cbx (w : World) (g : Nat) (x y : Int) (A : Option Addr) (n c : Nat) (s : Bool) : Prop := w.heap[g]? = some (.cells #[.int .i64 x, .int .i64 y, .slice A n c, .bool s] 28 (0, 0))
section
variable {w w' : World} {g n c : Nat} {x y : Int} {A : Option Addr} {s : Bool}
theorem Cbx.lt (h : Cbx w g x y A n c s) : g < w.heap.size := lt_of_heap h
theorem Cbx.c0 (h : Cbx w g x y A n c s) : w.cell? ⟨g, 0, none⟩ = some (.int .i64 x) := by rw [cell_of_row w g _ _ _ (0, 0) h]; rfl
theorem Cbx.c1 (h : Cbx w g x y A n c s) : w.cell? ⟨g, 1, none⟩ = some (.int .i64 y) := by rw [cell_of_row w g _ _ _ (0, 0) h]; rfl
theorem Cbx.c2 (h : Cbx w g x y A n c s) : w.cell? ⟨g, 2, none⟩ = some (.slice A n c) := by rw [cell_of_row w g _ _ _ (0, 0) h]; rfl
theorem Cbx.c3 (h : Cbx w g x y A n c s) : w.cell? ⟨g, 3, none⟩ = some (.bool s) := by rw [cell_of_row w g _ _ _ (0, 0) h]; rfl
theorem Cbx.frozen (h : Cbx w g x y A n c s) (k : Nat) : w.frozen? ⟨g, k, none⟩ = false := frozen_of_row w g k _ _ h
theorem Cbx.below {B : Nat} (h : Cbx w g x y A n c s) (hb : Below B w w') (hg : g < B) : Cbx w' g x y A n c s := (hb.block g hg).trans h
theorem Cbx.alloc (h : Cbx w g x y A n c s) (o : Obj) : Cbx (w.alloc o) g x y A n c s := (Below.heap_alloc w o g h.lt).trans h
theorem Cbx.new (w : World) (x y : Int) (A : Option Addr) (n c : Nat) (s : Bool) : Cbx (w.alloc (.cells #[.int .i64 x, .int .i64 y, .slice A n c, .bool s] 28)) w.heap.size x y A n c s := heap_alloc_new w _
end

set_option maxHeartbeats 3200000 in
set_option maxRecDepth 100000 in
theorem may_any {w : World} {B n c : Nat} {x y : Int} {A : Option Addr} {t : List Nat} {s : Bool} (h : Gs w B A n c 1 (cellsB t)) :
    Calls Tryd.prog 40 #[.agg #[.int .i64 x, .int .i64 y, .slice A n c, .bool s]] w fun e w' => e = .returned (.bool (decide (MayC (x, y, t, s)))) ∧ Hid (Below w.heap.size w w') := by
  have hl := hid h.blen
  clear h
  obtain ⟨W, hW⟩ : ∃ W, W = w.alloc (.cells #[.int .i64 x, .int .i64 y, .slice A n c, .bool s] 28) := ⟨_, rfl⟩
  have B0 := hid (show Below w.heap.size w W from hW ▸ (Below.refl _ w).alloc (Nat.le_refl _) _)
  have X0 := hid (show Cbx W w.heap.size x y A n c s from hW ▸ Cbx.new w x y A n c s)
  have x0 := X0.out.c0
  have x1 := X0.out.c1
  have x2 := X0.out.c2
  have HW := hid hW
  clear hW
  by_cases z1 : x ≥ 0
  case neg =>
    rw [decide_eq_false (show ¬ MayC (x, y, t, s) from fun h => by obtain ⟨⟨a1, a2⟩, ⟨a3, a4⟩, a5, a6⟩ := h; have := hl.out; simp only at a1 a2 a3 a4 a5 a6; omega)]
    go_enter Tryd.func40, Tryd.ntmps40
    go_upto_region 1 with fail
    rw [← HW.out]
    go_wp2
    go_ret
    exact ⟨rfl, B0⟩
  by_cases z2 : x ≤ 1048575
  case neg =>
    rw [decide_eq_false (show ¬ MayC (x, y, t, s) from fun h => by obtain ⟨⟨a1, a2⟩, ⟨a3, a4⟩, a5, a6⟩ := h; have := hl.out; simp only at a1 a2 a3 a4 a5 a6; omega)]
    go_enter Tryd.func40, Tryd.ntmps40
    go_upto_region 1 with fail
    rw [← HW.out]
    go_wp2
    go_ret
    exact ⟨rfl, B0⟩
  by_cases z3 : y ≥ 0
  case neg =>
    rw [decide_eq_false (show ¬ MayC (x, y, t, s) from fun h => by obtain ⟨⟨a1, a2⟩, ⟨a3, a4⟩, a5, a6⟩ := h; have := hl.out; simp only at a1 a2 a3 a4 a5 a6; omega)]
    go_enter Tryd.func40, Tryd.ntmps40
    go_upto_region 1 with fail
    rw [← HW.out]
    go_wp2
    go_ret
    exact ⟨rfl, B0⟩
  by_cases z4 : y < 8
  case neg =>
    rw [decide_eq_false (show ¬ MayC (x, y, t, s) from fun h => by obtain ⟨⟨a1, a2⟩, ⟨a3, a4⟩, a5, a6⟩ := h; have := hl.out; simp only at a1 a2 a3 a4 a5 a6; omega)]
    go_enter Tryd.func40, Tryd.ntmps40
    go_upto_region 1 with fail
    rw [← HW.out]
    go_wp2
    go_ret
    exact ⟨rfl, B0⟩
  by_cases z5 : (n : Int) ≥ 1
  case neg =>
    rw [decide_eq_false (show ¬ MayC (x, y, t, s) from fun h => by obtain ⟨⟨a1, a2⟩, ⟨a3, a4⟩, a5, a6⟩ := h; have := hl.out; simp only at a1 a2 a3 a4 a5 a6; omega)]
    go_enter Tryd.func40, Tryd.ntmps40
    go_upto_region 1 with fail
    rw [← HW.out]
    go_wp2
    go_ret
    exact ⟨rfl, B0⟩
  by_cases z6 : (n : Int) ≤ 4105
  case neg =>
    rw [decide_eq_false (show ¬ MayC (x, y, t, s) from fun h => by obtain ⟨⟨a1, a2⟩, ⟨a3, a4⟩, a5, a6⟩ := h; have := hl.out; simp only at a1 a2 a3 a4 a5 a6; omega)]
    go_enter Tryd.func40, Tryd.ntmps40
    go_upto_region 1 with fail
    rw [← HW.out]
    go_wp2
    go_ret
    exact ⟨rfl, B0⟩
  rw [decide_eq_true (show MayC (x, y, t, s) from ⟨⟨z1, z2⟩, ⟨z3, z4⟩, by have := hl.out; show 1 ≤ t.length; omega, by have := hl.out; show t.length ≤ 4105; omega⟩)]
  go_enter Tryd.func40, Tryd.ntmps40
  go_upto_region 1 with fail
  rw [← HW.out]
  go_wp2
  go_ret
  exact ⟨rfl, B0⟩

/-- Check goes on. -/
def GoneC (l : List Cp) (k : Nat) : Prop := ∀ p ∈ l.take k, MayC p
theorem GoneC.next {l : List Cp} {k : Nat} {p : Cp} (h : GoneC l k) (hp : l[k]? = some p) (hm : MayC p) : GoneC l (k + 1) := by
  intro q hq
  rw [List.take_add_one, hp] at hq
  rcases List.mem_append.1 hq with hq | hq
  · exact h q hq
  · obtain rfl : q = p := by simpa using hq
    exact hm
theorem echk_bad {l : List Cp} {k : Nat} {p : Cp} (hl : l.length ≤ 16) (hp : l[k]? = some p) (hm : ¬ MayC p) : echk l = 8 := by
  unfold echk
  rw [if_neg (by omega), if_neg (fun h => hm (h p (List.mem_of_getElem? hp)))]
theorem echk_good {l : List Cp} {n : Nat} (hl : l.length ≤ 16) (hn : l.length = n) (h : GoneC l n) : echk l = 0 := by
  refine echk_zero.2 ⟨hl, fun p hp => h p ?_⟩
  rw [List.take_of_length_le (by omega)]
  exact hp
set_option maxHeartbeats 3200000 in
set_option maxRecDepth 100000 in
theorem rcheck_any {w : World} {B n c : Nat} {A : Option Addr} {l : List Cp} (h : Cls w B A n c l) (hB : B ≤ w.heap.size) :
    Calls Tryd.prog 28 #[.slice A n c] w fun e w' => e = .returned (.int .i64 (echk l)) ∧ Hid (Below w.heap.size w w') := by
  have H := hid (h.mono hB)
  have hl := hid h.len
  have hcap := h.cap
  clear h hB
  by_cases hn : 16 < n
  · have hz : (n : Int) > 16 := by omega
    go_enter Tryd.func28, Tryd.ntmps28
    go_wp2
    go_ret
    refine ⟨?_, hid (Below.refl _ _)⟩
    unfold echk
    rw [if_pos (by rw [hl.out]; exact hn)]
    rfl
  · have hz : ¬ (n : Int) > 16 := by omega
    have hL := hid (show l.length ≤ 16 by rw [hl.out]; omega)
    go_enter Tryd.func28, Tryd.ntmps28
    go_wp2
    go_loopg [3] n (fun gg s3 wr => ∃ kk : Nat, kk ≤ n ∧ n - kk ≤ gg ∧ s3 = .int .i64 kk ∧ Hid (Below w.heap.size w wr) ∧ Hid (GoneC l kk))
    case atStart => exact ⟨0, Nat.zero_le _, by omega, rfl, hid (Below.refl _ _), hid (by intro p hp; simp at hp)⟩
    case round =>
      obtain ⟨kk, hkk, hg, rfl, BW, HA⟩ := hrel
      by_cases hlt : kk < n
      · have hltz : (kk : Int) < (n : Int) := by omega
        obtain ⟨b, off, x, y, A', n', c', t, s, rfl, hb, hp, c0, c1, c2, c3, ht, hf⟩ := (H.out.below BW.out).get hlt
        have CM := hid (may_any (x := x) (y := y) (s := s) ht)
        have HP := hid hp
        clear hp ht hf
        by_cases hm : MayC (x, y, t, s)
        · rw [decide_eq_true hm] at CM
          have HN := hid (HA.out.next HP.out hm)
          clear hm
          go_wp2_with fail
          refine CM.out.mono ?_
          rintro e w2 ⟨rfl, h2⟩
          go_wp2
          go_roundg (n - (kk + 1))
          case measure => omega
          case rel => exact ⟨kk + 1, by omega, by omega, by go_num, hid (gbelow_on BW.out (Nat.le_refl _) h2.out), HN⟩
        · rw [decide_eq_false hm] at CM
          have HE := hid (echk_bad hL.out HP.out hm)
          clear hm
          go_wp2_with fail
          refine CM.out.mono ?_
          rintro e w2 ⟨rfl, h2⟩
          go_wp2
          go_ret
          exact ⟨by rw [HE.out]; rfl, hid (gbelow_on BW.out (Nat.le_refl _) h2.out)⟩
      · have hltz : ¬ (kk : Int) < (n : Int) := by omega
        obtain rfl : kk = n := by omega
        have HE := hid (echk_good hL.out hl.out HA.out)
        go_wp2
        go_ret
        exact ⟨by rw [HE.out]; rfl, BW⟩
end Go.Proofs.YtbpijlghdpflgaaDoor.Eth
