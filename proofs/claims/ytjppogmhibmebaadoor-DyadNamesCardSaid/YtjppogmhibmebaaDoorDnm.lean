/- DyadNames: its numbers, and the numbers that may not be. -/
import Derived.Test.YtjppogmhibmebaaDoorDcom
import Derived.Test.YtjppogmhibmebaaDoorDcmpa
namespace Go.Proofs.YtjppogmhibmebaaDoor
open Go.RowKit

theorem half_over {s : Bool} {V X : Nat} {H : Int} (hX : X = 1024) (hodd : V % 2 = 1) (h : 2 * H = dv s V X) : ¬ Okay H := by
  have e := half_scaled (s := s) (V := V) (X := X) (by omega)
  obtain rfl : H = num s (V * tp (4000 - (X + 1))) := by omega
  exact not_okay (s := s) (V := V) (x := X + 1) ⟨fun h => by omega, fun _ => hodd⟩ (by omega) (.inr (by omega))
theorem vl_max : ∀ k, vl (fun _ => 4294967295) k + 1 = pw k
  | 0 => rfl
  | k + 1 => by
    have h := vl_max k
    rw [vl_succ, pw_succ]
    omega
theorem top_arg {w : World} {A : Option Addr} {c : Nat} {f : Nat → Nat} (hr : Rd w w.heap.size A 40 c f) (hf : ∀ j, j < 40 → f j = 4294967295) : DArg w True (dv false (pw 40 - 1) 0) (.agg #[.bool false, .slice A 40 c, .int .i64 0]) := by
  have hv : vl f 40 = pw 40 - 1 := by
    rw [vl_congr (g := fun _ => 4294967295) (fun j hj => hf j hj)]
    have := vl_max 40
    omega
  have hp : 0 < pw 40 - 1 := by
    have a := pw_mono (j := 1) (k := 40) (by omega)
    have b : pw 1 = 4294967296 := rfl
    omega
  refine ⟨false, A, 40, c, f, 0, rfl, hr, ⟨fun _ => ?_, fun _ => trivial⟩, fun _ => ⟨0, rfl, by rw [hv]⟩⟩
  refine canon_may (X := 0) ⟨by omega, fun _ => by rw [hf 39 (by omega)]; omega⟩ ?_ (by omega)
  rw [hv]
  exact canon_small hp (fun h => absurd h (by omega))


theorem box_of {X w' : World} (hb : Below (X.alloc (.cells #[.bool false, .slice none 0 0, .int .i64 0] 24)).heap.size (X.alloc (.cells #[.bool false, .slice none 0 0, .int .i64 0] 24)) w') : ∃ g, g = X.heap.size ∧ Dbox w' g false (.slice none 0 0) 0 :=
  ⟨_, rfl, Dbox.below (heap_alloc_new X _) hb (by simp)⟩
theorem Dbox.far {w : World} {g k : Nat} {s : Bool} {v : Value} {x : Int} (h : Dbox w g s v x) (hk : g ≠ k) (j : Nat) (u : Value) : Dbox (w.setCell ⟨k, j, none⟩ u) g s v x := (Below.heap_setCell w ⟨k, j, none⟩ u g hk).trans h
theorem pw40_pos : 4294967296 ≤ pw 40 := by
  have a := pw_mono (j := 1) (k := 40) (by omega)
  have b : pw 1 = 4294967296 := rfl
  omega
theorem over_one : ¬ Okay (dv false (pw 40 - 1) 0 + dv false 1 0) := by
  have hp := pw40_pos
  have e : dv false (pw 40 - 1) 0 + dv false 1 0 = dv false (pw 40) 0 := by
    unfold dv
    rw [← num_like, ← Nat.add_mul, show pw 40 - 1 + 1 = pw 40 by omega]
  rw [e]
  exact not_okay (canon_small (by omega) (fun h => absurd h (by omega))) (by omega) (.inl (Nat.le_refl _))
theorem over_less_gen (E : Nat) (h0 : 0 < E) (hE : E ≤ 4000) : ¬ Okay (dv false (pw 40 - 1) 0 + dv true 1 E) := by
  have hp := pw40_pos
  obtain ⟨D, rfl⟩ : ∃ D, E = D + 1 := ⟨E - 1, by omega⟩
  have ht : tp (D + 1) = tp D * 2 := tp_succ D
  have ht2 := tp_pos D
  have e : dv false (pw 40 - 1) 0 + dv true 1 (D + 1) = dv false ((pw 40 - 1) * tp (D + 1) - 1) (D + 1) := by
    unfold dv
    rw [show 4000 - 0 = (D + 1) + (4000 - (D + 1)) by omega, tp_add, ← Nat.mul_assoc]
    have h1 : 1 ≤ (pw 40 - 1) * tp (D + 1) := Nat.mul_pos (by omega) (tp_pos _)
    generalize (pw 40 - 1) * tp (D + 1) = a at *
    generalize tp (4000 - (D + 1)) = T
    rw [num_mul false a T, num_mul true 1 T, num_mul false (a - 1) T, ← Int.add_mul]
    congr 1
    simp [num]
    omega
  rw [e]
  have h2 : pw 40 ≤ (pw 40 - 1) * tp (D + 1) - 1 := by
    have h3 : (pw 40 - 1) * 2 ≤ (pw 40 - 1) * tp (D + 1) := Nat.mul_le_mul_left _ (by omega)
    omega
  refine not_okay (canon_small (by omega) (fun _ => ?_)) hE (.inl h2)
  have h4 : 1 ≤ (pw 40 - 1) * tp D := Nat.mul_pos (by omega) ht2
  rw [ht, ← Nat.mul_assoc]
  omega
theorem over_less : ¬ Okay (dv false (pw 40 - 1) 0 + dv true 1 1024) := over_less_gen 1024 (by omega) (by omega)
theorem cmp_top_gen (E : Nat) : cmpI (dv false (pw 40 - 1) 0) (dv true 1 E) = 1 := by
  have hp := pw40_pos
  have h1 := Nat.mul_pos (show 0 < pw 40 - 1 by omega) (tp_pos (4000 - 0))
  have h2 := Nat.mul_pos (show 0 < 1 by omega) (tp_pos (4000 - E))
  refine cmpI_gt ?_
  unfold dv
  generalize (pw 40 - 1) * tp (4000 - 0) = a at *
  generalize 1 * tp (4000 - E) = b at *
  simp [num]
  omega
theorem cmp_top : cmpI (dv false (pw 40 - 1) 0) (dv true 1 1024) = 1 := cmp_top_gen 1024
theorem cmp_last_gen (E : Nat) : cmpI (dv true 1 E) (dv false 0 0) = -1 := by
  have h2 := Nat.mul_pos (show 0 < 1 by omega) (tp_pos (4000 - E))
  refine cmpI_lt ?_
  unfold dv
  rw [Nat.zero_mul, num_zero]
  generalize 1 * tp (4000 - E) = b at *
  simp [num]
  omega
theorem cmp_last : cmpI (dv true 1 1024) (dv false 0 0) = -1 := cmp_last_gen 1024
theorem least_two {B : Nat} {w : World} {A : Option Addr} {n c V : Nat} {s : Bool} (h : Num 26 B w V (.slice A n c) ∧ ((-9223372036854775808 : Int) < 0 ↔ s = true) ∧ num s V = -9223372036854775808) : s = true ∧ n = 2 := by
  obtain ⟨hn, hs, hv⟩ := h
  have hs1 := hs.1 (by omega)
  refine ⟨hs1, ?_⟩
  subst hs1
  have hV : V = 9223372036854775808 := by
    have : -(V : Int) = -9223372036854775808 := hv
    omega
  obtain ⟨A', n', c', f, hsl, hr, hf, hvl⟩ := hn.val
  injection hsl with e1 e2 e3
  subst e2
  have p1 : pw 1 = 4294967296 := rfl
  have p2 : pw 2 = 18446744073709551616 := rfl
  have hlt := vl_lt (f := f) (k := n) (fun j _ => hr.lt j)
  rcases Nat.lt_trichotomy n 2 with h | h | h
  · have := pw_mono (j := n) (k := 1) (by omega)
    omega
  · exact h
  · have a := vl_ge (f := f) (k := n) (by omega) (hf.2 (by omega))
    have b := pw_mono (j := 2) (k := n - 1) (by omega)
    omega
theorem least_arg {B : Nat} {w : World} {v : Value} {V : Nat} (h : Num 26 B w V v ∧ ((-9223372036854775808 : Int) < 0 ↔ true = true) ∧ num true V = -9223372036854775808) : DArg w True (dv true 9223372036854775808 0) (.agg #[.bool true, v, .int .i64 0]) := by
  obtain ⟨hn, _, hv⟩ := h
  have hV : V = 9223372036854775808 := by
    have : -(V : Int) = -9223372036854775808 := hv
    omega
  subst hV
  exact (show Dn B w (dv true 9223372036854775808 0) _ from ⟨true, v, 0, _, rfl, hn, ⟨fun h => absurd h (by omega), fun h => absurd h (by omega)⟩, by omega, rfl⟩).arg
set_option maxHeartbeats 800000 in
theorem part_raw (s : Bool) (n : Nat) (x : Int) (hn : n < 4294967296) (w : World) :
    Calls Tryd.prog 10 #[.bool s, .int .u32 (n : Int), .int .i64 x] w fun e w' => ∃ A c, e = .returned (.agg #[.bool s, .slice A 1 c, .int .i64 x]) ∧ Hid (Rd w' w'.heap.size A 1 c (fun j => if j = 0 then n else 0)) ∧ Hid (Below w.heap.size w w') := by
  have Hn := hid hn
  clear hn
  go_enter Tryd.func10, Tryd.ntmps10
  go_wp2
  have hbox : Dbox ((w.alloc (.cells #[.bool s, .slice (some ⟨w.heap.size + 1, 0, none⟩) 1 1, .int .i64 x] 24)).alloc (.cells #[.int .u32 (n : Int)] 26)) w.heap.size s (.slice (some ⟨w.heap.size + 1, 0, none⟩) 1 1) x := (Below.heap_alloc _ _ _ (by simp)).trans (heap_alloc_new w _)
  have hrow := heap_alloc2_new w (.cells #[.bool s, .slice (some ⟨w.heap.size + 1, 0, none⟩) 1 1, .int .i64 x] 24) (.cells #[.int .u32 (n : Int)] 26)
  refine ret_one rfl rfl rfl hbox ?_
  refine ⟨_, 1, rfl, ⟨Nat.le_refl _, by omega, fun j => ?_, fun j hj => if_neg (by omega), fun _ => ⟨w.heap.size + 1, 0, rfl, by simp, fun j hj => ?_⟩⟩, ((Below.refl w.heap.size w).alloc (Nat.le_refl _) _).alloc (by simp) _⟩
  · show (if j = 0 then n else 0) < _
    have := Hn.out
    split <;> omega
  · obtain rfl : j = 0 := by omega
    rw [cell_of_row _ _ _ _ _ (0, 0) hrow]
    rfl

end Go.Proofs.YtjppogmhibmebaaDoor
