/- The law's own helper of package field: alive. -/
import Derived.Test.YtndehapggbmndaaJdy
namespace Go.Proofs.Ytndehapggbmndaa
open Go.RowKit

/-- The limbs of a number below 2^32. -/
def one (x j : Nat) : Nat := if j = 0 then x else 0
theorem Rd.one (w : World) (x : Nat) (hx : x < 4294967296) : Rd (w.alloc (.cells #[.int .u32 (x : Int)] 51)) (w.heap.size + 1) (some ⟨w.heap.size, 0, none⟩) 1 1 (one x) :=
  ⟨Nat.le_refl _, by omega, fun j => by unfold Proofs.Ytndehapggbmndaa.one; split <;> omega, fun j hj => if_neg (by omega), fun _ => ⟨w.heap.size, 0, rfl, by omega, fun j hj => by
    obtain rfl : j = 0 := by omega
    rw [cell_of_row _ w.heap.size _ _ 51 (0, 0) (heap_alloc_new w _)]
    rfl⟩⟩

set_option maxHeartbeats 6400000 in
theorem falive_any (w : World) : Calls Try.prog 12 #[] w fun e w' => e = .returned (.bool true) ∧ Hid (Below w.heap.size w w') := by
  have C1 := hid (PutNumber_fits (w := w) (V := 258) (k := 2) (By.nul w _) (by omega) (by omega) (by decide) (by omega) (by omega))
  go_enter Try.func12, Try.ntmps12
  go_wp2_with fail
  refine C1.out.mono ?_
  rintro e w1 ⟨v1, rfl, hO1, hb1⟩
  rw [show [] ++ be 258 2 = [1, 2] from rfl] at hO1
  obtain ⟨A1, c1, rfl, hY1⟩ := hO1.out.shape
  have HY1 : Hid (By w1 w1.heap.size A1 2 c1 [1, 2]) := hid hY1
  have Ba := hid ((Below.refl w1.heap.size w1).alloc (Nat.le_refl _) (.cells #[.int .u32 3] 51))
  have HR := hid (Rd.one w1 3 (by omega))
  have HM : Hid (DMay true 1 (one 3) ((2 : Nat) : Int)) := hid ⟨⟨by omega, fun _ => by decide⟩, by omega, by omega, fun h => by omega, fun _ => by decide⟩
  have C2 := hid (PutDyad_fits (By.nul _ _) (HR.out.mono (B' := (w1.alloc (.cells #[.int .u32 3] 51)).heap.size) (by simp)) HM.out (by omega))
  clear hO1 hY1 C1
  go_wp2_with fail
  refine C2.out.mono ?_
  rintro e w2 ⟨v2, rfl, hO2, hb2⟩
  rw [show [] ++ dtx true 1 (one 3) 2 = [1, 0, 2, 1, 0, 0, 0, 3] from rfl] at hO2
  obtain ⟨A2, c2, rfl, hY2⟩ := hO2.out.shape
  have HY2 : Hid (By w2 w2.heap.size A2 8 c2 [1, 0, 2, 1, 0, 0, 0, 3]) := hid hY2
  have C3 := hid (PutDyad_fits (w := w2) (s := false) (X := 0) (By.nul _ _) (Rd.nil w2 _) ⟨⟨by omega, fun h => by omega⟩, by omega, by omega, fun _ => rfl, fun h => by omega⟩ (by omega))
  clear hO2 hY2 C2
  go_wp2_with fail
  refine C3.out.mono ?_
  rintro e w3 ⟨v3, rfl, hO3, hb3⟩
  rw [show [] ++ dtx false 0 (fun _ => 0) 0 = [0, 0, 0, 0] from rfl] at hO3
  obtain ⟨A3, c3, rfl, hY3⟩ := hO3.out.shape
  have K3 := hid ((Ba.out.trans (hb2.out.mono Ba.out.size)).trans (hb3.out.mono (Nat.le_trans Ba.out.size hb2.out.size)))
  have cv1 := conv_any (HY1.out.below K3.out)
  have cv2 := conv_any (HY2.out.below hb3.out)
  have hY3' : By w3 w3.heap.size A3 4 c3 [0, 0, 0, 0] := hY3
  have cv3 := conv_any hY3'
  rw [show str [1, 2] = { data := #[1, 2] } by decide] at cv1
  rw [show str [1, 0, 2, 1, 0, 0, 0, 3] = { data := #[1, 0, 2, 1, 0, 0, 0, 3] } by decide] at cv2
  rw [show str [0, 0, 0, 0] = { data := #[0, 0, 0, 0] } by decide] at cv3
  have B3 := hid (hb1.out.trans (K3.out.mono hb1.out.size))
  clear hO3 hY3 hY3' C3
  go_wp2
  go_ret
  exact ⟨rfl, B3⟩

end Go.Proofs.Ytndehapggbmndaa
