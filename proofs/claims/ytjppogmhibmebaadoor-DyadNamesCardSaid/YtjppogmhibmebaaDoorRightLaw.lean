/- Contracts: limb.Right, limb.Bits. -/
import Derived.Test.YtjppogmhibmebaaDoorRight
import Derived.Test.YtjppogmhibmebaaDoorBitsLaw
namespace Go.Proofs.YtjppogmhibmebaaDoor
open Go.RowKit

/-- An error alone is handed back, or limbs. -/
def rightErr (n : Nat) (f : Nat → Nat) (k : Int) : Int := if Fit n f then (if k < 0 then 2 else 0) else 8

set_option maxHeartbeats 800000 in
theorem Right_any {A : Option Addr} {n c : Nat} {f : Nat → Nat} {w : World} (ha : Rd w w.heap.size A n c f) (k : Int) (hk : k ≤ 9223372036854775807) :
    Calls Tryd.prog 64 #[.slice A n c, .int .i64 k] w (Ans 26 w (rightErr n f k) (vl f n / 2 ^ k.toNat)) := by
  have cb := bad_lone ha 22
  have b0 : Below w.heap.size w (w.alloc (.cells #[.slice A n c] 22)) := (Below.refl _ w).alloc (Nat.le_refl _) _
  by_cases hf : Fit n f
  · rw [show decide (¬ Fit n f) = false by simp [hf]] at cb
    by_cases hk0 : k < 0
    · rw [show rightErr n f k = 2 by unfold rightErr; rw [if_pos hf, if_pos hk0]]
      have Cb := hid cb
      have Hb0 := hid b0
      clear cb hf ha b0 hk
      go_enter Tryd.func64, Tryd.ntmps64
      go_wp2_with fail
      refine Cb.out.mono ?_
      rintro e w' ⟨rfl, rfl⟩
      go_wp2
      go_ret2
      exact Ans.fail (by decide) Hb0.out
    · rw [show rightErr n f k = 0 by unfold rightErr; rw [if_pos hf, if_neg hk0]]
      obtain ⟨k, rfl⟩ := Int.eq_ofNat_of_zero_le (show 0 ≤ k by omega)
      rw [Int.toNat_natCast]
      have cr := right_any (w := w.alloc (.cells #[.slice A n c] 22)) ((ha.below b0).mono (by simp)) hf k (by omega)
      have Cr := hid cr
      have Cb := hid cb
      have Hb0 := hid b0
      clear cb hf ha b0 hk cr
      go_enter Tryd.func64, Tryd.ntmps64
      go_wp2_with fail
      refine Cb.out.mono ?_
      rintro e w' ⟨rfl, rfl⟩
      go_wp2_with fail
      refine Cr.out.mono ?_
      rintro e w' ⟨v, rfl, hnum, hbel⟩
      have R : Ans 26 w 0 (vl f n / 2 ^ k) (.returned (.tuple #[v, .int .i64 0])) w' := Ans.good (Num.mono hnum (by simp)) (Hb0.out.trans (hbel.mono (by simp)))
      have HR := hid R
      clear hnum hbel R
      go_wp2
      go_ret2
      exact HR.out
  · rw [show decide (¬ Fit n f) = true by simp [hf]] at cb
    rw [show rightErr n f k = 8 from if_neg hf]
    have Cb := hid cb
    have Hb0 := hid b0
    clear cb hf ha b0 hk
    go_enter Tryd.func64, Tryd.ntmps64
    go_wp2_with fail
    refine Cb.out.mono ?_
    rintro e w' ⟨rfl, rfl⟩
    go_wp2
    go_ret2
    exact Ans.fail (by decide) Hb0.out

end Go.Proofs.YtjppogmhibmebaaDoor
