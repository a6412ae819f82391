/- Package dyad: takeLast, lessen. -/
import Derived.Test.YtjppogmhibmebaaDoorDval
import Derived.Test.YtjppogmhibmebaaDoorDbad
namespace Go.Proofs.YtjppogmhibmebaaDoor
open Go.RowKit

/-- Block g is a number under way. -/
def Wbox (w : World) (g : Nat) (s : Bool) (v : Value) (x : Int) (l : Nat) : Prop := w.heap[g]? = some (.cells #[.bool s, v, .int .i64 x, .int .u32 (l : Int)] 50 (0, 0))
section
variable {w w' : World} {g : Nat} {s : Bool} {v : Value} {x : Int} {l : Nat}
theorem Wbox.lt (h : Wbox w g s v x l) : g < w.heap.size := lt_of_heap h
theorem Wbox.c0 (h : Wbox w g s v x l) : w.cell? ⟨g, 0, none⟩ = some (.bool s) := by rw [cell_of_row w g 0 _ _ (0, 0) h]; rfl
theorem Wbox.c1 (h : Wbox w g s v x l) : w.cell? ⟨g, 1, none⟩ = some v := by rw [cell_of_row w g 1 _ _ (0, 0) h]; rfl
theorem Wbox.c2 (h : Wbox w g s v x l) : w.cell? ⟨g, 2, none⟩ = some (.int .i64 x) := by rw [cell_of_row w g 2 _ _ (0, 0) h]; rfl
theorem Wbox.c3 (h : Wbox w g s v x l) : w.cell? ⟨g, 3, none⟩ = some (.int .u32 (l : Int)) := by rw [cell_of_row w g 3 _ _ (0, 0) h]; rfl
theorem Wbox.frozen (h : Wbox w g s v x l) (j : Nat) : w.frozen? ⟨g, j, none⟩ = false := frozen_of_row w g j _ _ h
theorem Wbox.below {B : Nat} (h : Wbox w g s v x l) (hb : Below B w w') (hg : g < B) : Wbox w' g s v x l := (hb.block g hg).trans h
theorem Wbox.set1 (h : Wbox w g s v x l) (u : Value) : Wbox (w.setCell ⟨g, 1, none⟩ u) g s u x l := heap_setCell_same w g 1 _ _ u h
theorem Wbox.set2 (h : Wbox w g s v x l) (y : Int) : Wbox (w.setCell ⟨g, 2, none⟩ (.int .i64 y)) g s v y l := heap_setCell_same w g 2 _ _ _ h
end

/-- All but block g stays. -/
theorem grown_of_below {w w' : World} (g : Nat) (h : Below w.heap.size w w') : w.grownBy w' (some g) := ⟨h.os, h.tape, h.output, h.size, fun i hi _ => h.block i hi⟩
theorem grown_set {w w' : World} {g : Nat} (h : w.grownBy w' (some g)) (j : Nat) (u : Value) : w.grownBy (w'.setCell ⟨g, j, none⟩ u) (some g) :=
  ⟨h.os, h.tape, h.output, by simpa [World.setCell] using h.size, fun i hi hne => (Below.heap_setCell _ _ _ i (by rintro rfl; exact hne rfl)).trans (h.block i hi hne)⟩

/-- What takeLast leaves, and lessen. -/
def Took (w : World) (g : Nat) (s : Bool) (x : Int) (l : Nat) (V : Nat) (w' : World) : Prop :=
  ∃ v, Wbox w' g s v x l ∧ Num 26 w.heap.size w' V v ∧ w.grownBy w' (some g)

set_option maxHeartbeats 1600000 in
theorem dtake_any {w : World} {g V l : Nat} {s : Bool} {v : Value} {x : Int} (hw : Wbox w g s v x l) (hv : Val w V v) (hl : l ≤ 1) :
    Calls Tryd.prog 66 #[.pointer (some ⟨g, 0, none⟩)] w fun e w' => ∃ er, e = .returned (.int .i64 er) ∧ Hid (er = overErr (2 * V + l)) ∧ Hid (er = 0 → Took w g s x l (2 * V + l) w') ∧ w.grownBy w' (some g) := by
  have c1 := hw.c1
  have f1 := hw.frozen 1
  have Hw := hid hw
  have C1 := hid (left_val hv 1 (by omega))
  clear hw hv
  by_cases h1 : V * tp 1 < pw 40
  · have hO : 2 * V + l < pw 40 := by
      rw [tp_one] at h1
      have : pw 40 % 2 = 0 := by unfold pw; decide
      omega
    rw [over_ok h1] at C1
    have HO := hid hO
    clear h1 hO
    go_enter Tryd.func66, Tryd.ntmps66
    go_wp2_with fail
    refine C1.out.mono ?_
    rintro e w1 ⟨v1, er, rfl, ⟨rfl⟩, Hv1, Hb1⟩
    have Hw1 := hid (Hw.out.below Hb1.out Hw.out.lt)
    have c3 := Hw1.out.c3
    have C2 := hid (of_val l (by omega) w1)
    go_wp2_with fail
    refine C2.out.mono ?_
    rintro e w2 ⟨v2, rfl, Hv2, Hb2⟩
    have Hv1' := hid (Hv1.out.val.below Hb2.out)
    have C3 := hid (add_val Hv1'.out Hv2.out.val)
    rw [resV_ok rfl, tp_one, Nat.mul_comm V 2, over_ok HO.out] at C3
    go_wp2_with fail
    refine C3.out.mono ?_
    rintro e w3 ⟨v3, er, rfl, ⟨rfl⟩, Hv3, Hb3⟩
    have Hw3 := hid ((Hw1.out.below Hb2.out Hw1.out.lt).below Hb3.out (Nat.lt_of_lt_of_le Hw1.out.lt Hb2.out.size))
    have f3 := Hw3.out.frozen 1
    have k3 := Hw3.out.c1
    obtain ⟨A3, n3, d3, rfl⟩ := Hv3.out.shape
    have HB3 := hid (grown_set (grown_of_below g ((Hb1.out.trans (Hb2.out.mono Hb1.out.size)).trans (Hb3.out.mono (Nat.le_trans Hb1.out.size Hb2.out.size)))) 1 (.slice A3 n3 d3))
    have HV3 := hid ((Hv3.out.set (g := g) (Nat.lt_of_lt_of_le Hw1.out.lt Hb2.out.size) 1 (.slice A3 n3 d3)).mono (Nat.le_trans Hb1.out.size Hb2.out.size))
    have HW3 := hid (Hw3.out.set1 (.slice A3 n3 d3))
    clear C1 C2 C3 Hv1 Hv1' Hv2 Hb1 Hb2 Hb3
    go_wp2
    go_ret
    exact ⟨0, rfl, hid (over_ok HO.out).symm, hid (fun _ => ⟨_, HW3.out, HV3.out, HB3.out⟩), HB3.out⟩
  · have hO : ¬ 2 * V + l < pw 40 := by
      rw [tp_one] at h1
      omega
    rw [over_bad h1] at C1
    have HO := hid hO
    clear h1 hO
    go_enter Tryd.func66, Tryd.ntmps66
    go_wp2_with fail
    refine C1.out.mono ?_
    rintro e w1 ⟨v1, er, rfl, ⟨rfl⟩, Hv1, Hb1⟩
    have HB1 := hid (grown_of_below g Hb1.out)
    clear Hv1 Hb1
    go_wp2
    go_ret
    exact ⟨10, rfl, hid (over_bad HO.out).symm, hid (fun h => by cases h), HB1.out⟩

theorem lessen_math {V k0 k x : Nat} (h : LowOf V k0) (hk : k = min k0 x) : ∃ q, V = q * tp k ∧ (V = 0 ∨ k = x ∨ q % 2 = 1) := by
  rcases h with ⟨rfl, _⟩ | ⟨m, rfl⟩
  · exact ⟨0, by rw [Nat.zero_mul], .inl rfl⟩
  · rcases Nat.lt_or_ge x k0 with hx | hx
    · obtain ⟨d, rfl⟩ : ∃ d, k0 = x + d := ⟨k0 - x, by omega⟩
      obtain rfl : k = x := by omega
      refine ⟨tp d * (2 * m + 1), ?_, .inr (.inl rfl)⟩
      show tp (k + d) * _ = _
      rw [tp_add, Nat.mul_assoc, Nat.mul_comm (tp k)]
    · obtain rfl : k = k0 := by omega
      exact ⟨2 * m + 1, Nat.mul_comm _ _, .inr (.inr (by omega))⟩

set_option maxHeartbeats 1600000 in
theorem dlessen_any {w : World} {g V l x : Nat} {s : Bool} {v : Value} (hw : Wbox w g s v ((x : Int) + 1) l) (hv : Val w V v) (hx : x ≤ 1024) (hT : Tab w) :
    Calls Tryd.prog 65 #[.pointer (some ⟨g, 0, none⟩)] w fun e w' => ∃ k q : Nat, e = .returned (.tuple #[]) ∧ Hid (k ≤ x ∧ V = q * tp k ∧ (V = 0 ∨ k = x ∨ q % 2 = 1)) ∧ Hid (Took w g s ((x - k : Nat) : Int) l q w') := by
  have c1 := hw.c1
  have Hw := hid hw
  have Hv := hid hv
  have C1 := hid (low_val hv hT)
  clear hw hv hT
  go_enter Tryd.func65, Tryd.ntmps65
  go_wp2_with fail
  refine C1.out.mono ?_
  rintro e w1 ⟨k0, rfl, Hk0, Hb1⟩
  have Hw1 := hid (Hw.out.below Hb1.out Hw.out.lt)
  have Hv1 := hid (Hv.out.below Hb1.out)
  have k1 := Hw1.out.c1
  have k2 := Hw1.out.c2
  obtain ⟨k, hk⟩ : ∃ k : Nat, k = min k0 x := ⟨_, rfl⟩
  have hmin : min (k0 : Int) (x : Int) = (k : Int) := by omega
  have hL := lessen_math Hk0.out hk
  have hkx : k ≤ x := by omega
  have HL := hid hL
  have C2 := hid (right_val Hv1.out k (by omega))
  clear C1 hL Hk0
  have Hk := hid hk
  clear hk
  go_wp2_with fail
  refine C2.out.mono ?_
  rintro e w2 ⟨v2, er, rfl, ⟨rfl⟩, Hv2, Hb2⟩
  obtain ⟨A2, n2, d2, rfl⟩ := Hv2.out.shape
  have Hw2 := hid (Hw1.out.below Hb2.out Hw1.out.lt)
  have f1 := Hw2.out.frozen 1
  have j1 := Hw2.out.c1
  have j2 := Hw2.out.c2
  have f2 := (Hw2.out.set1 (.slice A2 n2 d2)).frozen 2
  go_wp2
  go_end0
  obtain ⟨q, hq, hor⟩ := HL.out
  have hVq : V / tp k = q := by rw [hq, Nat.mul_div_cancel _ (tp_pos k)]
  have hv2 := Hv2.out
  rw [resV_ok rfl, hVq] at hv2
  have hlt := Nat.lt_of_lt_of_le Hw.out.lt Hb1.out.size
  refine ⟨k, q, rfl, hid ⟨hkx, hq, hor⟩, hid ⟨_, ?_, ((hv2.set hlt 1 _).set hlt 2 _).mono Hb1.out.size, grown_set (grown_set (grown_of_below g (Hb1.out.trans (Hb2.out.mono Hb1.out.size))) _ _) _ _⟩⟩
  have h := (Hw2.out.set1 (.slice A2 n2 d2)).set2 ((x : Int) + 1 - ((k : Int) + 1))
  rwa [show ((x - k : Nat) : Int) = (x : Int) + 1 - ((k : Int) + 1) by omega]

end Go.Proofs.YtjppogmhibmebaaDoor
