/- Contract: limb.Bits. -/
import Derived.Test.YtjppogmhibmebaaDoorMake
import Derived.Test.YtjppogmhibmebaaDoorBits
namespace Go.Proofs.YtjppogmhibmebaaDoor
open Go.RowKit

/-- Bits' answer: an error, and how many digits. -/
def BitsPost (w : World) (n : Nat) (f : Nat → Nat) (e : Ending) (w' : World) : Prop :=
  Below w.heap.size w w' ∧ ∃ s : Nat, e = .returned (.tuple #[.int .i64 (s : Int), .int .i64 (chk n f)]) ∧ (Fit n f → Size (vl f n) s) ∧ (¬ Fit n f → s = 0)

set_option maxHeartbeats 800000 in
theorem Bits_any {A : Option Addr} {n c : Nat} {f : Nat → Nat} {w : World} (ha : Rd w w.heap.size A n c f) :
    Calls Tryd.prog 71 #[.slice A n c] w (BitsPost w n f) := by
  have cb := bad_lone ha 22
  have b0 : Below w.heap.size w (w.alloc (.cells #[.slice A n c] 22)) := (Below.refl _ w).alloc (Nat.le_refl _) _
  by_cases hf : Fit n f
  · rw [show decide (¬ Fit n f) = false by simp [hf]] at cb
    have Cs := hid (size_any (ha.below b0) hf)
    have Cb := hid cb
    have Hb0 := hid b0
    have Hf := hid hf
    clear cb hf ha b0
    go_enter Tryd.func71, Tryd.ntmps71
    go_wp2_with fail
    refine Cb.out.mono ?_
    rintro e w' ⟨rfl, rfl⟩
    go_wp2_with fail
    refine Cs.out.mono ?_
    rintro e w' ⟨s, rfl, rfl, hs⟩
    have Hs := hid hs
    clear hs
    go_wp2
    go_ret2
    exact ⟨Hb0.out, s, by rw [chk_fit Hf.out]; rfl, fun _ => Hs.out, fun h => absurd Hf.out h⟩
  · rw [show decide (¬ Fit n f) = true by simp [hf]] at cb
    have Cb := hid cb
    have Hb0 := hid b0
    have Hf := hid hf
    clear cb hf ha b0
    go_enter Tryd.func71, Tryd.ntmps71
    go_wp2_with fail
    refine Cb.out.mono ?_
    rintro e w' ⟨rfl, rfl⟩
    go_wp2
    go_ret2
    exact ⟨Hb0.out, 0, by rw [chk_bad Hf.out]; rfl, fun h => absurd h Hf.out, fun _ => rfl⟩

end Go.Proofs.YtjppogmhibmebaaDoor
