/- Package field: the reader. -/
import Derived.Test.YtmaggpigodkhhaaJpd
import Derived.RegionTactic
import Derived.Deep.RegionWith
namespace Go.Proofs.Ytmaggpigodkhhaa
open Go.RowKit

/-- What is read, in its box (of some type). -/
def Rbox (w : World) (t : TypeId) (g : Nat) (A : Option Addr) (n c : Nat) (p : Int) : Prop :=
  w.heap[g]? = some (.cells #[.slice A n c, .int .i64 p] t (0, 0))
section
variable {w w' : World} {t : TypeId} {g n c : Nat} {A : Option Addr} {p : Int}
theorem Rbox.lt (q : Rbox w t g A n c p) : g < w.heap.size := lt_of_heap q
theorem Rbox.c0 (q : Rbox w t g A n c p) : w.cell? ⟨g, 0, none⟩ = some (.slice A n c) := by rw [cell_of_row w g 0 _ _ (0, 0) q]; rfl
theorem Rbox.c1 (q : Rbox w t g A n c p) : w.cell? ⟨g, 1, none⟩ = some (.int .i64 p) := by rw [cell_of_row w g 1 _ _ (0, 0) q]; rfl
theorem Rbox.frozen (q : Rbox w t g A n c p) (j : Nat) : w.frozen? ⟨g, j, none⟩ = false := frozen_of_row w g j _ _ q
theorem Rbox.drew (q : Rbox w t g A n c p) : Rbox w.drew t g A n c p := q
theorem Rbox.below {B : Nat} (q : Rbox w t g A n c p) (hb : Below B w w') (hg : g < B) : Rbox w' t g A n c p := (hb.block g hg).trans q
theorem Rbox.alloc (q : Rbox w t g A n c p) (o : Obj) : Rbox (w.alloc o) t g A n c p := (Below.heap_alloc w o g q.lt).trans q
theorem Rbox.set1 (q : Rbox w t g A n c p) (p' : Int) : Rbox (w.setCell ⟨g, 1, none⟩ (.int .i64 p')) t g A n c p' := heap_setCell_same w g 1 _ _ _ q
theorem Rbox.set0 {D : Option Addr} {m d : Nat} (q : Rbox w t g A n c p) : Rbox (w.setCell ⟨g, 0, none⟩ (.slice D m d)) t g D m d p := heap_setCell_same w g 0 _ _ _ q
theorem Rbox.far (q : Rbox w t g A n c p) {k : Nat} (hk : g ≠ k) (j : Nat) (u : Value) : Rbox (w.setCell ⟨k, j, none⟩ u) t g A n c p := (Below.heap_setCell w ⟨k, j, none⟩ u g hk).trans q
end

theorem gset0 {w w' : World} {g : Nat} (h : w.grownBy w' (some g)) (j : Nat) (u : Value) : w.grownBy (w'.setCell ⟨g, j, none⟩ u) (some g) :=
  ⟨h.os, h.tape, h.output, by simpa [World.setCell] using h.size, fun i hi hne => (Below.heap_setCell w' ⟨g, j, none⟩ u i (by rintro rfl; exact hne rfl)).trans (h.block i hi hne)⟩
theorem grefl (w : World) (g : Nat) : w.grownBy w (some g) := ⟨rfl, rfl, rfl, Nat.le_refl _, fun _ _ _ => rfl⟩
theorem gdrew {w w' : World} {g : Nat} (h : w.grownBy w' (some g)) : w.grownBy w'.drew (some g) := ⟨h.os, h.tape, h.output, h.size, h.block⟩
theorem gthen {w wr w' : World} {g : Nat} (h : w.grownBy wr (some g)) (k : wr.grownBy w' (some g)) : w.grownBy w' (some g) :=
  ⟨k.os.trans h.os, k.tape.trans h.tape, k.output.trans h.output, Nat.le_trans h.size k.size, fun i hi hne => (k.block i (Nat.lt_of_lt_of_le hi h.size) hne).trans (h.block i hi hne)⟩
theorem gbelow {w wr w' : World} {g B : Nat} (h : w.grownBy wr (some g)) (k : Below B wr w') (hB : w.heap.size ≤ B) : w.grownBy w' (some g) :=
  ⟨k.os.trans h.os, k.tape.trans h.tape, k.output.trans h.output, Nat.le_trans h.size k.size, fun i hi hne => (k.block i (Nat.lt_of_lt_of_le hi hB)).trans (h.block i hi hne)⟩
theorem below_of_grown {w w' : World} {g : Nat} (h : w.grownBy w' (some g)) (hg : g ≤ w.heap.size) : Below g w w' :=
  ⟨h.os, h.tape, h.output, h.size, fun i hi => h.block i (by omega) (by intro e; injection e with e; omega)⟩

theorem join_byte (V x : Nat) (hV : V < 72057594037927936) (hx : x < 256) : bits BinOp.or IntKind.u64 ((V : Int) * 256) (x : Int) = ((256 * V + x : Nat) : Int) := by
  have e := u64_or_nat (V * 256) x (by omega) (by omega)
  rw [nat_join 8 _ _ (by omega) (by omega)] at e
  rw [show 256 * V + x = V * 256 + x by omega, ← e]
  congr 1

theorem part_one {xs : List Nat} {p k x : Nat} (h : xs[p + k]? = some x) : bn ((xs.drop p).take (k + 1)) = 256 * bn ((xs.drop p).take k) + x := bn_take (by rw [List.getElem?_drop]; exact h)
theorem part_lt {xs : List Nat} {p k m : Nat} (h : ∀ x ∈ xs, x < 256) (hk : k ≤ m) : bn ((xs.drop p).take k) < 256 ^ m := by
  have e := bn_lt (xs := (xs.drop p).take k) (fun x hx => take_mem h hx)
  exact Nat.lt_of_lt_of_le e (Nat.pow_le_pow_right (by omega) (by rw [List.length_take]; omega))

set_option maxHeartbeats 1600000 in
theorem next_short {w : World} {g n c p z : Nat} {A : Option Addr} (hq : Rbox w 64 g A n c (p : Int)) (hz : n < p + z) (hp : p ≤ n) (_hz8 : z ≤ 8) (hn : n ≤ 140737488355328) :
    Calls Try.prog 32 #[.pointer (some ⟨g, 0, none⟩), .int .i64 (z : Int)] w fun e w' => e = .returned (.tuple #[.int .u64 0, .bool false]) ∧ Hid (Rbox w' 64 g A n c (p : Int)) ∧ Hid (w.grownBy w' (some g)) := by
  have H := hid hq
  have q0 := hq.c0
  have q1 := hq.c1
  have hw1 : IntKind.i64.wrap ((n : Int) - (p : Int)) = (n : Int) - (p : Int) := IntWalk.i64_in _ (by omega)
  clear hq
  go_enter Try.func32, Try.ntmps32
  go_wp2_with fail
  go_region
  all_goals
    go_wp2
    go_ret2
    exact ⟨rfl, H.out.drew, gdrew (grefl w g)⟩

set_option maxHeartbeats 3200000 in
theorem next_any {w : World} {B g n c p z : Nat} {A : Option Addr} {xs : List Nat} (hq : Rbox w 64 g A n c (p : Int)) (hby : By w B A n c xs) (hB : B ≤ g) (hz : p + z ≤ n) (hz8 : z ≤ 8) :
    Calls Try.prog 32 #[.pointer (some ⟨g, 0, none⟩), .int .i64 (z : Int)] w fun e w' => e = .returned (.tuple #[.int .u64 (bn ((xs.drop p).take z) : Nat), .bool true]) ∧ Hid (Rbox w' 64 g A n c ((p + z : Nat) : Int)) ∧ Hid (w.grownBy w' (some g)) := by
  have H := hid hq
  have HX := hid hby
  have hmax := hby.max
  have hcap := hby.cap
  have q0 := hq.c0
  have q1 := hq.c1
  have hw1 : IntKind.i64.wrap ((n : Int) - (p : Int)) = (n : Int) - (p : Int) := IntWalk.i64_in _ (by omega)
  clear hq hby
  go_enter Try.func32, Try.ntmps32
  go_wp2_with fail
  go_region
  all_goals
    go_wp2_with fail
    go_loopw [4, 21] (fun a i wr => ∃ k V : Nat, k ≤ z ∧ i = .int .i64 k ∧ a = .int .u64 (V : Int) ∧ Hid (V = bn ((xs.drop p).take k)) ∧ Hid (Rbox wr 64 g A n c ((p + k : Nat) : Int)) ∧ Hid (w.grownBy wr (some g))) (fun _ i _ => z - (intOf i).toNat)
    case atStart => exact ⟨0, 0, by omega, rfl, rfl, hid rfl, H.out.drew, gdrew (grefl w g)⟩
    case round =>
      obtain ⟨k, V, hk, rfl, rfl, hV, hR, hb⟩ := hrel
      by_cases hcon : k < z
      · obtain ⟨x, hx⟩ : ∃ x, xs[p + k]? = some x := ⟨xs[p + k]'(by rw [HX.out.len]; omega), List.getElem?_eq_getElem _⟩
        have hx256 := HX.out.lt x (List.mem_of_getElem? hx)
        have hVl : V < 72057594037927936 := by
          rw [hV.out]
          exact Nat.lt_of_lt_of_le (part_lt (m := 7) HX.out.lt (by omega)) (by decide)
        have hor := join_byte V x hVl hx256
        have hnext : Hid (256 * V + x = bn ((xs.drop p).take (k + 1))) := hid (by rw [part_one hx, hV.out])
        have hnl : 256 * V + x < 18446744073709551616 := by omega
        obtain ⟨b, off, rfl, hbB, hc⟩ := HX.out.at_ (by omega)
        have hcell := hb.out.cell (hc _ x hx) (by intro e; injection e with e; have e2 : b = g := e; omega)
        obtain ⟨q, hqk⟩ : ∃ q, q = p + k := ⟨_, rfl⟩
        have hql : q < n := by omega
        have Hq1 : Hid (q + 1 = p + (k + 1)) := hid (by omega)
        rw [← hqk] at hcell hR
        have r0 := hR.out.c0
        have r1 := hR.out.c1
        have f1 := hR.out.frozen 1
        have hw2 : IntKind.i64.wrap ((q : Int) + 1) = (q : Int) + 1 := IntWalk.i64_in _ (by omega)
        generalize 256 * V + x = U at *
        clear hc hx hqk
        go_wp2_with fail
        go_region
        all_goals
          go_wp2
          go_roundw
          case rel => exact ⟨k + 1, U, by omega, by go_num, rfl, hnext, hid (by rw [← Hq1.out]; exact hR.out.set1 _), hid (gset0 (gdrew hb.out) 1 _)⟩
          case measure => simp [intOf]; omega
      · obtain rfl : k = z := by omega
        go_wp2
        go_ret2
        exact ⟨by rw [← hV.out]; rfl, hR, hb⟩

end Go.Proofs.Ytmaggpigodkhhaa
