/- The document's Same and Done over bytes that are read. -/
import Derived.Test.YtmaggpigodkhhaaJany
namespace Go.Proofs.Ytmaggpigodkhhaa
open Go.RowKit

set_option maxHeartbeats 1600000 in
theorem frsame_any {w : World} {A D : Option Addr} {n c m d : Nat} {xs ys : List Nat} {p q : Int} (hx : By w w.heap.size A n c xs) (hy : By w w.heap.size D m d ys) :
    Calls Try.prog 16 #[.agg #[.slice A n c, .int .i64 p], .agg #[.slice D m d, .int .i64 q]] w fun e w' => e = .returned (.bool (decide (p = q ∧ xs = ys))) ∧ Hid (Below w.heap.size w w') := by
  obtain ⟨W, hW⟩ : ∃ W, W = (w.alloc (.cells #[.slice A n c, .int .i64 p] 39)).alloc (.cells #[.slice D m d, .int .i64 q] 39) := ⟨_, rfl⟩
  have B0 := hid (show Below w.heap.size w W from hW ▸ ((Below.refl w.heap.size w).alloc (Nat.le_refl _) _).alloc (by simp) _)
  have P0 : Hid (Rbox W 39 w.heap.size A n c p) := hid (hW ▸ (Below.heap_alloc _ _ _ (by simp)).trans (heap_alloc_new w _))
  have Q0 : Hid (Rbox W 39 (w.heap.size + 1) D m d q) := hid (hW ▸ heap_alloc2_new w _ _)
  have cv1 := conv_any (hx.below B0.out)
  have cv2 := conv_any (hy.below B0.out)
  have se := str_beq hx.lt hy.lt
  have HW := hid hW
  have b0 := P0.out.c0
  have b1 := P0.out.c1
  have d0 := Q0.out.c0
  have d1 := Q0.out.c1
  clear hW hx hy
  by_cases hpq : p = q
  · have hb : (p == q) = true := by simp [hpq]
    rw [show decide (p = q ∧ xs = ys) = ((str xs).toList == (str ys).toList) by rw [← beq_toListBytes, se]; simp [hpq]]
    generalize str xs = sx at *
    generalize str ys = sy at *
    clear se hpq
    go_enter Try.func16, Try.ntmps16
    go_upto_region 1 with fail
    rw [← HW.out]
    go_wp2
    go_ret
    exact ⟨rfl, B0⟩
  · have hb : (p == q) = false := by simp [hpq]
    rw [show decide (p = q ∧ xs = ys) = false by simp [hpq]]
    clear se hpq
    go_enter Try.func16, Try.ntmps16
    go_upto_region 1 with fail
    rw [← HW.out]
    go_wp2
    go_ret
    exact ⟨rfl, B0⟩

end Go.Proofs.Ytmaggpigodkhhaa
