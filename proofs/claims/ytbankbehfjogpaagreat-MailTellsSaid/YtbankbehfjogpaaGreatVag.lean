/- Package field: PutNumber, PutDyad. -/
/- Package field: PutDyad. -/
/- Package field: the reader. -/
/- Package field: mayRead, Number, Done. -/
/- Package field: formed. -/
/- Package field: takeDyad. -/
/- Package field: takeDyad, walked. -/
/- Package field: Dyad. -/
/- The document's Same and Done over bytes that are read. -/
import Derived.Test.YtbankbehfjogpaaGreatVaf
import Derived.RegionTactic
import Derived.Deep.RegionWith
import Derived.Test.YtbankbehfjogpaaGreatVab
import Derived.Test.YtbankbehfjogpaaGreatVac
import Derived.ScopeJumps
namespace Go.Proofs.YtbankbehfjogpaaGreat
set_option maxRecDepth 100000
open Go.RowKit
theorem fit_pow {V z : Nat} : V < 256 ^ z ↔ V / 2 ^ (8 * z) = 0 := by
  rw [Nat.pow_mul, show (2 : Nat) ^ 8 = 256 from rfl]
  exact (Nat.div_eq_zero_iff_lt (Nat.pow_pos (by omega))).symm
set_option maxHeartbeats 1600000 in
theorem maySize_any (z : Int) (w : World) :
    Calls Tryz.prog 86 #[.int .i64 z] w fun e w' => e = .returned (.bool (decide (1 ≤ z ∧ z ≤ 8))) ∧ w = w' := by
  have hcase : (¬ 1 ≤ z) ∨ (1 ≤ z ∧ ¬ z ≤ 8) ∨ (1 ≤ z ∧ z ≤ 8) := by omega
  rcases hcase with h1 | ⟨h1, h2⟩ | ⟨h1, h2⟩
  all_goals
    go_enter Tryz.func86, Tryz.ntmps86
    go_wp2
    go_ret
    refine ⟨?_, rfl⟩
    congr 2
    simp
    try omega
set_option maxHeartbeats 3200000 in
theorem PutNumber_arg {w : World} {n c V : Nat} {A : Option Addr} {z : Int} (hz : ¬ (1 ≤ z ∧ z ≤ 8 ∧ V < 256 ^ z.toNat)) (_hV : V ≤ 18446744073709551615) :
    Calls Tryz.prog 46 #[.slice A n c, .int .u64 (V : Int), .int .i64 z] w fun e w' => e = .returned (.tuple #[.slice none 0 0, .int .i64 2]) ∧ w = w' := by
  by_cases h1 : 1 ≤ z ∧ z ≤ 8
  · obtain ⟨k, rfl⟩ : ∃ k : Nat, z = k := ⟨z.toNat, by omega⟩
    have hp : ¬ V < 256 ^ k := fun h => hz ⟨h1.1, h1.2, by rwa [Int.toNat_natCast]⟩
    rw [fit_pow] at hp
    obtain ⟨t, ht⟩ : ∃ t : Nat, t = 8 * k := ⟨_, rfl⟩
    rw [← ht] at hp
    have hw1 : IntKind.i64.wrap (8 * (k : Int)) = (t : Int) := by rw [IntWalk.i64_in _ (by omega)]; omega
    have hw2 : 8 * (k : Int) = (t : Int) := by omega
    have hne : ((V : Int) / 2 ^ t != 0) = true := by
      simp only [bne_iff_ne]
      intro h
      apply hp
      have : ((V / 2 ^ t : Nat) : Int) = 0 := by simpa using h
      omega
    have C := maySize_any k w
    rw [show decide (1 ≤ (k : Int) ∧ (k : Int) ≤ 8) = true by simp; omega] at C
    have HC := hid C
    clear C hz hp ht
    go_enter Tryz.func46, Tryz.ntmps46
    go_wp2_with fail
    refine HC.out.mono ?_
    rintro e w1 ⟨rfl, rfl⟩
    go_wp2
    go_ret2
    exact ⟨rfl, rfl⟩
  · have C := maySize_any z w
    rw [show decide (1 ≤ z ∧ z ≤ 8) = false by simp; omega] at C
    have HC := hid C
    clear C hz h1
    go_enter Tryz.func46, Tryz.ntmps46
    go_wp2_with fail
    refine HC.out.mono ?_
    rintro e w1 ⟨rfl, rfl⟩
    go_wp2
    go_ret2
    exact ⟨rfl, rfl⟩
set_option maxHeartbeats 3200000 in
theorem PutNumber_many {w : World} {n c V k : Nat} {A : Option Addr} (h1 : 1 ≤ k) (h8 : k ≤ 8) (hV : V < 256 ^ k) (_hV : V ≤ 18446744073709551615) (hn : 3900 < n + k) (hm : n ≤ 140737488355328) :
    Calls Tryz.prog 46 #[.slice A n c, .int .u64 (V : Int), .int .i64 (k : Int)] w fun e w' => e = .returned (.tuple #[.slice none 0 0, .int .i64 4]) ∧ w = w' := by
  rw [fit_pow] at hV
  obtain ⟨t, ht⟩ : ∃ t : Nat, t = 8 * k := ⟨_, rfl⟩
  rw [← ht] at hV
  have hw1 : IntKind.i64.wrap (8 * (k : Int)) = (t : Int) := by rw [IntWalk.i64_in _ (by omega)]; omega
  have hw2 : 8 * (k : Int) = (t : Int) := by omega
  have hne : ((V : Int) / 2 ^ t != 0) = false := by
    have : ((V / 2 ^ t : Nat) : Int) = 0 := by omega
    simpa using this
  have C := maySize_any k w
  rw [show decide (1 ≤ (k : Int) ∧ (k : Int) ≤ 8) = true by simp; omega] at C
  have HC := hid C
  have CW := hid (widened_many (w := w) (c := c) (A := A) hn (by omega) hm)
  clear C hV ht
  go_enter Tryz.func46, Tryz.ntmps46
  go_wp2_with fail
  refine HC.out.mono ?_
  rintro e w1 ⟨rfl, rfl⟩
  go_wp2_with fail
  refine CW.out.mono ?_
  rintro e w1 ⟨rfl, rfl⟩
  go_wp2
  go_ret2
  exact ⟨rfl, rfl⟩
set_option maxHeartbeats 3200000 in
theorem PutNumber_fits {w : World} {n c V k : Nat} {A : Option Addr} {xs : List Nat} (h : By w w.heap.size A n c xs) (h1 : 1 ≤ k) (h8 : k ≤ 8) (hV : V < 256 ^ k) (_hV : V ≤ 18446744073709551615) (hn : n + k ≤ 3900) :
    Calls Tryz.prog 46 #[.slice A n c, .int .u64 (V : Int), .int .i64 (k : Int)] w fun e w' => ∃ v, e = .returned (.tuple #[v, .int .i64 0]) ∧ Hid (Ow w' w.heap.size v (xs ++ be V k)) ∧ Hid (Below w.heap.size w w') := by
  rw [fit_pow] at hV
  obtain ⟨t, ht⟩ : ∃ t : Nat, t = 8 * k := ⟨_, rfl⟩
  rw [← ht] at hV
  have hw1 : IntKind.i64.wrap (8 * (k : Int)) = (t : Int) := by rw [IntWalk.i64_in _ (by omega)]; omega
  have hw2 : 8 * (k : Int) = (t : Int) := by omega
  have hne : ((V : Int) / 2 ^ t != 0) = false := by
    have : ((V / 2 ^ t : Nat) : Int) = 0 := by omega
    simpa using this
  have C := maySize_any k w
  rw [show decide (1 ≤ (k : Int) ∧ (k : Int) ≤ 8) = true by simp; omega] at C
  have HC := hid C
  have CW := hid (widened_fits h hn)
  have hlen := h.len
  clear C hV ht h
  go_enter Tryz.func46, Tryz.ntmps46
  go_wp2_with fail
  refine HC.out.mono ?_
  rintro e w1 ⟨rfl, rfl⟩
  go_wp2_with fail
  refine CW.out.mono ?_
  rintro e w1 ⟨v1, rfl, hO1, hb1⟩
  go_wp2_with fail
  refine (putDigits_any hO1.out hb1.out.size (by omega) h8 _hV).mono ?_
  rintro e w2 ⟨v2, rfl, hO2, hb2⟩
  go_wp2
  go_ret2
  exact ⟨_, rfl, hO2, hid (hb1.out.trans hb2.out)⟩
set_option maxHeartbeats 1600000 in
theorem signOf_any (s : Bool) (A : Option Addr) (n c : Nat) (x : Int) (w : World) :
    Calls Tryz.prog 90 #[.agg #[.bool s, .slice A n c, .int .i64 x]] w fun e w' => e = .returned (.int .u64 (if s then 1 else 0)) ∧ Hid (Below w.heap.size w w') := by
  have B0 := hid ((Below.refl w.heap.size w).alloc (Nat.le_refl _) (.cells #[.bool s, .slice A n c, .int .i64 x] 24))
  cases s
  all_goals
    go_enter Tryz.func90, Tryz.ntmps90
    go_wp2
    go_ret
    exact ⟨rfl, B0⟩
open Go.RowKit
theorem dchk_ok {s : Bool} {n : Nat} {f : Nat → Nat} {x : Int} (h : DMay s n f x) : dchk s n f x = 0 := if_pos h
theorem dchk_bad {s : Bool} {n : Nat} {f : Nat → Nat} {x : Int} (h : ¬ DMay s n f x) : dchk s n f x = 8 := if_neg h
set_option maxHeartbeats 1600000 in
theorem PutDyad_bad {w : World} {n c m d : Nat} {A D : Option Addr} {f : Nat → Nat} {s : Bool} {x : Int} (hr : Rd w w.heap.size D m d f) (hm : ¬ DMay s m f x) :
    Calls Tryz.prog 47 #[.slice A n c, .agg #[.bool s, .slice D m d, .int .i64 x]] w fun e w' => e = .returned (.tuple #[.slice none 0 0, .int .i64 8]) ∧ Hid (Below w.heap.size w w') := by
  have B0 := hid ((Below.refl w.heap.size w).alloc (Nat.le_refl _) (.cells #[.bool s, .slice D m d, .int .i64 x] 24))
  have P0 : Hid (Dbox _ w.heap.size s (.slice D m d) x) := heap_alloc_new w (.cells #[.bool s, .slice D m d, .int .i64 x] 24)
  have C := dcheck_any ((hr.below B0.out).mono B0.out.size) s x
  rw [dchk_bad hm] at C
  have HC := hid C
  have b0 := P0.out.c0
  have b1 := P0.out.c1
  have b2 := P0.out.c2
  clear C hr hm
  go_enter Tryz.func47, Tryz.ntmps47
  go_wp2_with fail
  refine HC.out.mono ?_
  rintro e w1 ⟨rfl, hb⟩
  have B1 := hid (B0.out.trans (hb.mono B0.out.size))
  go_wp2
  go_ret2
  exact ⟨rfl, B1⟩
set_option maxHeartbeats 3200000 in
theorem PutDyad_many {w : World} {n c m d : Nat} {A D : Option Addr} {f : Nat → Nat} {s : Bool} {x : Int} (hr : Rd w w.heap.size D m d f) (hm : DMay s m f x) (hn : 3900 < n + (4 + 4 * m)) (hx : n ≤ 140737488355328) :
    Calls Tryz.prog 47 #[.slice A n c, .agg #[.bool s, .slice D m d, .int .i64 x]] w fun e w' => e = .returned (.tuple #[.slice none 0 0, .int .i64 4]) ∧ Hid (Below w.heap.size w w') := by
  have B0 := hid ((Below.refl w.heap.size w).alloc (Nat.le_refl _) (.cells #[.bool s, .slice D m d, .int .i64 x] 24))
  have P0 : Hid (Dbox _ w.heap.size s (.slice D m d) x) := heap_alloc_new w (.cells #[.bool s, .slice D m d, .int .i64 x] 24)
  have C := dcheck_any ((hr.below B0.out).mono B0.out.size) s x
  rw [dchk_ok hm] at C
  have HC := hid C
  have b0 := P0.out.c0
  have b1 := P0.out.c1
  have b2 := P0.out.c2
  have hm40 := hm.1.1
  have hw1 : IntKind.i64.wrap (4 * (m : Int)) = 4 * (m : Int) := IntWalk.i64_in _ (by omega)
  have hw2 : IntKind.i64.wrap (4 + 4 * (m : Int)) = 4 + 4 * (m : Int) := IntWalk.i64_in _ (by omega)
  have hcap := hr.cap
  have CW := fun w => hid (widened_many (w := w) (c := c) (A := A) hn (by omega) hx)
  rw [show ((4 + 4 * m : Nat) : Int) = 4 + 4 * (m : Int) by omega] at CW
  clear C hr hm
  go_enter Tryz.func47, Tryz.ntmps47
  go_wp2_with fail
  refine HC.out.mono ?_
  rintro e w1 ⟨rfl, hb⟩
  have B1 := hid (B0.out.trans (hb.mono B0.out.size))
  have P1 := hid (P0.out.below hb P0.out.lt)
  have e0 := P1.out.c0
  have e1 := P1.out.c1
  have e2 := P1.out.c2
  clear b0 b1 b2
  go_wp2_with fail
  refine (CW _).out.mono ?_
  rintro e w2 ⟨rfl, rfl⟩
  go_wp2
  go_ret2
  exact ⟨rfl, B1⟩
set_option maxHeartbeats 6400000 in
theorem PutDyad_fits {w : World} {n c m d X : Nat} {A D : Option Addr} {f : Nat → Nat} {s : Bool} {xs : List Nat} (h : By w w.heap.size A n c xs) (hr : Rd w w.heap.size D m d f) (hm : DMay s m f (X : Int)) (hn : n + (4 + 4 * m) ≤ 3900) :
    Calls Tryz.prog 47 #[.slice A n c, .agg #[.bool s, .slice D m d, .int .i64 (X : Int)]] w fun e w' => ∃ v, e = .returned (.tuple #[v, .int .i64 0]) ∧ Hid (Ow w' w.heap.size v (xs ++ dtx s m f X)) ∧ Hid (Below w.heap.size w w') := by
  have B0 := hid ((Below.refl w.heap.size w).alloc (Nat.le_refl _) (.cells #[.bool s, .slice D m d, .int .i64 (X : Int)] 24))
  have P0 : Hid (Dbox _ w.heap.size s (.slice D m d) (X : Int)) := heap_alloc_new w (.cells #[.bool s, .slice D m d, .int .i64 (X : Int)] 24)
  have C := dcheck_any ((hr.below B0.out).mono B0.out.size) s X
  rw [dchk_ok hm] at C
  have HC := hid C
  have b0 := P0.out.c0
  have b1 := P0.out.c1
  have b2 := P0.out.c2
  have hm40 := hm.1.1
  have hX := hm.2.2.1
  have hw1 : IntKind.i64.wrap (4 * (m : Int)) = 4 * (m : Int) := IntWalk.i64_in _ (by omega)
  have hw2 : IntKind.i64.wrap (4 + 4 * (m : Int)) = 4 + 4 * (m : Int) := IntWalk.i64_in _ (by omega)
  have hcap := hr.cap
  have hlen := h.len
  have CW := fun (w' : World) (hb : Below w.heap.size w w') => hid (widened_fits ((h.below hb).mono hb.size) hn)
  rw [show ((4 + 4 * m : Nat) : Int) = 4 + 4 * (m : Int) by omega] at CW
  have HR := hid hr
  clear C hr hm h
  go_enter Tryz.func47, Tryz.ntmps47
  go_wp2_with fail
  refine HC.out.mono ?_
  rintro e w1 ⟨rfl, hb⟩
  have B1 := hid (B0.out.trans (hb.mono B0.out.size))
  have P1 := hid (P0.out.below hb P0.out.lt)
  have e0 := P1.out.c0
  have e1 := P1.out.c1
  have e2 := P1.out.c2
  clear b0 b1 b2 P0 B0 HC
  go_wp2_with fail
  refine (CW _ B1.out).out.mono ?_
  rintro e w2 ⟨v2, rfl, hO2, hb2⟩
  have K2 := hid hb2.out
  have P2 := hid (P1.out.below hb2.out P1.out.lt)
  have b0 := P2.out.c0
  have b1 := P2.out.c1
  have b2 := P2.out.c2
  have hlt := P1.out.lt
  clear e0 e1 e2 CW hb2
  go_wp2_with fail
  refine (signOf_any s D m d X _).mono ?_
  rintro e w3 ⟨rfl, hb3⟩
  have K3 := hid (K2.out.trans (hb3.out.mono K2.out.size))
  have P3 := hid (P1.out.below K3.out hlt)
  have O3 := hid (hO2.out.below hb3.out (Nat.le_refl _))
  have e0 := P3.out.c0
  have e1 := P3.out.c1
  have e2 := P3.out.c2
  obtain ⟨g, hg⟩ : ∃ g : Nat, g = if s then 1 else 0 := ⟨_, rfl⟩
  have hgl : g ≤ 1 := by rw [hg]; split <;> omega
  rw [show (if s then (1 : Int) else 0) = (g : Int) by rw [hg]; split <;> rfl]
  have Hg := hid hg
  clear b0 b1 b2 P2 K2 hO2 hb3 hg
  go_wp2_with fail
  refine (putDigits_any (z := 1) O3.out K3.out.size (by omega) (by omega) (by omega)).mono ?_
  rintro e w4 ⟨v4, rfl, hO4, hb4⟩
  have K4 := hid (K3.out.trans hb4.out)
  have P4 := hid (P1.out.below K4.out hlt)
  have b0 := P4.out.c0
  have b1 := P4.out.c1
  have b2 := P4.out.c2
  clear e0 e1 e2 P3 K3 O3 hb4
  go_wp2_with fail
  refine (putDigits_any (z := 2) hO4.out K4.out.size (by simp [be_length]; omega) (by omega) (by omega)).mono ?_
  rintro e w5 ⟨v5, rfl, hO5, hb5⟩
  have K5 := hid (K4.out.trans hb5.out)
  have P5 := hid (P1.out.below K5.out hlt)
  have e0 := P5.out.c0
  have e1 := P5.out.c1
  have e2 := P5.out.c2
  clear b0 b1 b2 P4 K4 hO4 hb5
  go_wp2_with fail
  refine (putDigits_any (z := 1) hO5.out K5.out.size (by simp [be_length]; omega) (by omega) (by omega)).mono ?_
  rintro e w6 ⟨v6, rfl, hO6, hb6⟩
  have K6 := hid (K5.out.trans hb6.out)
  have P6 := hid (P1.out.below K6.out hlt)
  have b0 := P6.out.c0
  have b1 := P6.out.c1
  have b2 := P6.out.c2
  clear e0 e1 e2 P5 K5 hO5 hb6
  go_wp2_with fail
  refine (putLimbs_any hO6.out K6.out.size (by simp [be_length]; omega) ((HR.out.below (B1.out.trans (K6.out.mono B1.out.size))).mono B1.out.size) (by omega)).mono ?_
  rintro e w7 ⟨v7, rfl, hO7, hb7⟩
  go_wp2
  go_ret2
  refine ⟨v7, rfl, hid ?_, hid (B1.out.trans ((K6.out.trans hb7.out).mono B1.out.size))⟩
  have h7 := hO7.out.mono B1.out.size
  rw [Hg.out] at h7
  simpa only [dtx, List.append_assoc] using h7
open Go.RowKit
def Rbox (w : World) (t : TypeId) (g : Nat) (A : Option Addr) (n c : Nat) (p : Int) : Prop :=
  w.heap[g]? = some (.cells #[.slice A n c, .int .i64 p] t (0, 0))
section
variable {w w' : World} {t : TypeId} {g n c : Nat} {A : Option Addr} {p : Int}
theorem Rbox.lt (q : Rbox w t g A n c p) : g < w.heap.size := lt_of_heap q
theorem Rbox.c0 (q : Rbox w t g A n c p) : w.cell? ⟨g, 0, none⟩ = some (.slice A n c) := by rw [cell_of_row w g 0 _ _ (0, 0) q]; rfl
theorem Rbox.c1 (q : Rbox w t g A n c p) : w.cell? ⟨g, 1, none⟩ = some (.int .i64 p) := by rw [cell_of_row w g 1 _ _ (0, 0) q]; rfl
theorem Rbox.frozen (q : Rbox w t g A n c p) (j : Nat) : w.frozen? ⟨g, j, none⟩ = false := frozen_of_row w g j _ _ q
theorem Rbox.drew (q : Rbox w t g A n c p) : Rbox w.drew t g A n c p := q
theorem Rbox.below {B : Nat} (q : Rbox w t g A n c p) (hb : Below B w w') (hg : g < B) : Rbox w' t g A n c p := (hb.block g hg).trans q
theorem Rbox.set1 (q : Rbox w t g A n c p) (p' : Int) : Rbox (w.setCell ⟨g, 1, none⟩ (.int .i64 p')) t g A n c p' := heap_setCell_same w g 1 _ _ _ q
theorem Rbox.set0 {D : Option Addr} {m d : Nat} (q : Rbox w t g A n c p) : Rbox (w.setCell ⟨g, 0, none⟩ (.slice D m d)) t g D m d p := heap_setCell_same w g 0 _ _ _ q
theorem Rbox.far (q : Rbox w t g A n c p) {k : Nat} (hk : g ≠ k) (j : Nat) (u : Value) : Rbox (w.setCell ⟨k, j, none⟩ u) t g A n c p := (Below.heap_setCell w ⟨k, j, none⟩ u g hk).trans q
end
theorem jgset0 {w w' : World} {g : Nat} (h : w.grownBy w' (some g)) (j : Nat) (u : Value) : w.grownBy (w'.setCell ⟨g, j, none⟩ u) (some g) :=
  ⟨h.os, h.tape, h.output, by simpa [World.setCell] using h.size, fun i hi hne => (Below.heap_setCell w' ⟨g, j, none⟩ u i (by rintro rfl; exact hne rfl)).trans (h.block i hi hne)⟩
theorem jgrefl (w : World) (g : Nat) : w.grownBy w (some g) := ⟨rfl, rfl, rfl, Nat.le_refl _, fun _ _ _ => rfl⟩
theorem gdrew {w w' : World} {g : Nat} (h : w.grownBy w' (some g)) : w.grownBy w'.drew (some g) := ⟨h.os, h.tape, h.output, h.size, h.block⟩
theorem gthen {w wr w' : World} {g : Nat} (h : w.grownBy wr (some g)) (k : wr.grownBy w' (some g)) : w.grownBy w' (some g) :=
  ⟨k.os.trans h.os, k.tape.trans h.tape, k.output.trans h.output, Nat.le_trans h.size k.size, fun i hi hne => (k.block i (Nat.lt_of_lt_of_le hi h.size) hne).trans (h.block i hi hne)⟩
theorem gbelow {w wr w' : World} {g B : Nat} (h : w.grownBy wr (some g)) (k : Below B wr w') (hB : w.heap.size ≤ B) : w.grownBy w' (some g) :=
  ⟨k.os.trans h.os, k.tape.trans h.tape, k.output.trans h.output, Nat.le_trans h.size k.size, fun i hi hne => (k.block i (Nat.lt_of_lt_of_le hi hB)).trans (h.block i hi hne)⟩
theorem below_of_grown {w w' : World} {g : Nat} (h : w.grownBy w' (some g)) (hg : g ≤ w.heap.size) : Below g w w' :=
  ⟨h.os, h.tape, h.output, h.size, fun i hi => h.block i (by omega) (by intro e; injection e with e; omega)⟩
theorem join_byte (V x : Nat) (hV : V < 72057594037927936) (hx : x < 256) : bits BinOp.or IntKind.u64 ((V : Int) * 256) (x : Int) = ((256 * V + x : Nat) : Int) := by
  have e := u64_or_nat (V * 256) x (by omega) (by omega)
  rw [nat_join 8 _ _ (by omega) (by omega)] at e
  rw [show 256 * V + x = V * 256 + x by omega, ← e]
  congr 1
theorem part_one {xs : List Nat} {p k x : Nat} (h : xs[p + k]? = some x) : bn ((xs.drop p).take (k + 1)) = 256 * bn ((xs.drop p).take k) + x := bn_take (by rw [List.getElem?_drop]; exact h)
theorem part_lt {xs : List Nat} {p k m : Nat} (h : ∀ x ∈ xs, x < 256) (hk : k ≤ m) : bn ((xs.drop p).take k) < 256 ^ m := by
  have e := bn_lt (xs := (xs.drop p).take k) (fun x hx => take_mem h hx)
  exact Nat.lt_of_lt_of_le e (Nat.pow_le_pow_right (by omega) (by rw [List.length_take]; omega))
set_option maxHeartbeats 1600000 in
theorem next_short {w : World} {g n c p z : Nat} {A : Option Addr} (hq : Rbox w 141 g A n c (p : Int)) (hz : n < p + z) (hp : p ≤ n) (_hz8 : z ≤ 8) (hn : n ≤ 140737488355328) :
    Calls Tryz.prog 101 #[.pointer (some ⟨g, 0, none⟩), .int .i64 (z : Int)] w fun e w' => e = .returned (.tuple #[.int .u64 0, .bool false]) ∧ Hid (Rbox w' 141 g A n c (p : Int)) ∧ Hid (w.grownBy w' (some g)) := by
  have H := hid hq
  have q0 := hq.c0
  have q1 := hq.c1
  have hw1 : IntKind.i64.wrap ((n : Int) - (p : Int)) = (n : Int) - (p : Int) := IntWalk.i64_in _ (by omega)
  clear hq
  go_enter Tryz.func101, Tryz.ntmps101
  go_wp2_with fail
  go_region
  all_goals
    go_wp2
    go_ret2
    exact ⟨rfl, H.out.drew, gdrew (jgrefl w g)⟩
set_option maxHeartbeats 3200000 in
theorem next_any {w : World} {B g n c p z : Nat} {A : Option Addr} {xs : List Nat} (hq : Rbox w 141 g A n c (p : Int)) (hby : By w B A n c xs) (hB : B ≤ g) (hz : p + z ≤ n) (hz8 : z ≤ 8) :
    Calls Tryz.prog 101 #[.pointer (some ⟨g, 0, none⟩), .int .i64 (z : Int)] w fun e w' => e = .returned (.tuple #[.int .u64 (bn ((xs.drop p).take z) : Nat), .bool true]) ∧ Hid (Rbox w' 141 g A n c ((p + z : Nat) : Int)) ∧ Hid (w.grownBy w' (some g)) := by
  have H := hid hq
  have HX := hid hby
  have hmax := hby.max
  have hcap := hby.cap
  have q0 := hq.c0
  have q1 := hq.c1
  have hw1 : IntKind.i64.wrap ((n : Int) - (p : Int)) = (n : Int) - (p : Int) := IntWalk.i64_in _ (by omega)
  clear hq hby
  go_enter Tryz.func101, Tryz.ntmps101
  go_wp2_with fail
  go_region
  all_goals
    go_wp2_with fail
    go_loopw [4, 21] (fun a i wr => ∃ k V : Nat, k ≤ z ∧ i = .int .i64 k ∧ a = .int .u64 (V : Int) ∧ Hid (V = bn ((xs.drop p).take k)) ∧ Hid (Rbox wr 141 g A n c ((p + k : Nat) : Int)) ∧ Hid (w.grownBy wr (some g))) (fun _ i _ => z - (intOf i).toNat)
    case atStart => exact ⟨0, 0, by omega, rfl, rfl, hid rfl, H.out.drew, gdrew (jgrefl w g)⟩
    case round =>
      obtain ⟨k, V, hk, rfl, rfl, hV, hR, hb⟩ := hrel
      by_cases hcon : k < z
      · obtain ⟨x, hx⟩ : ∃ x, xs[p + k]? = some x := ⟨xs[p + k]'(by rw [HX.out.len]; omega), List.getElem?_eq_getElem _⟩
        have hx256 := HX.out.lt x (List.mem_of_getElem? hx)
        have hVl : V < 72057594037927936 := by
          rw [hV.out]
          exact Nat.lt_of_lt_of_le (part_lt (m := 7) HX.out.lt (by omega)) (by decide)
        have hor := join_byte V x hVl hx256
        have hnext : Hid (256 * V + x = bn ((xs.drop p).take (k + 1))) := hid (by rw [part_one hx, hV.out])
        have hnl : 256 * V + x < 18446744073709551616 := by omega
        obtain ⟨b, off, rfl, hbB, hc⟩ := HX.out.at_ (by omega)
        have hcell := hb.out.cell (hc _ x hx) (by intro e; injection e with e; have e2 : b = g := e; omega)
        obtain ⟨q, hqk⟩ : ∃ q, q = p + k := ⟨_, rfl⟩
        have hql : q < n := by omega
        have Hq1 : Hid (q + 1 = p + (k + 1)) := hid (by omega)
        rw [← hqk] at hcell hR
        have r0 := hR.out.c0
        have r1 := hR.out.c1
        have f1 := hR.out.frozen 1
        have hw2 : IntKind.i64.wrap ((q : Int) + 1) = (q : Int) + 1 := IntWalk.i64_in _ (by omega)
        generalize 256 * V + x = U at *
        clear hc hx hqk
        go_wp2_with fail
        go_region
        all_goals
          go_wp2
          go_roundw
          case rel => exact ⟨k + 1, U, by omega, by go_num, rfl, hnext, hid (by rw [← Hq1.out]; exact hR.out.set1 _), hid (jgset0 (gdrew hb.out) 1 _)⟩
          case measure => simp [intOf]; omega
      · obtain rfl : k = z := by omega
        go_wp2
        go_ret2
        exact ⟨by rw [← hV.out]; rfl, hR, hb⟩
open Go.RowKit
theorem results_ctt {fn : Func} {p u v : Tmp} {ty : TypeId} (h : fn.results = #[.cell p ty, .tmp u, .tmp v]) (tmps : Array Value) (P : Program) (w : World) :
    (results fn tmps).run P w =
      ((asAddr (tmps.getD p undef)).run P w).andThen fun a w₁ => ((loadVar ty a).run P w₁).andThen fun x w₂ => .ok (.tuple #[x, tmps.getD u undef, tmps.getD v undef]) w₂ := by
  simp only [results, h]
  simp [Sem.run_bind, Result.andThen]
theorem jresults_cct {fn : Func} {p q u : Tmp} {ty tz : TypeId} (h : fn.results = #[.cell p ty, .cell q tz, .tmp u]) (tmps : Array Value) (P : Program) (w : World) :
    (results fn tmps).run P w =
      ((asAddr (tmps.getD p undef)).run P w).andThen fun a w₁ => ((loadVar ty a).run P w₁).andThen fun x w₂ => ((asAddr (tmps.getD q undef)).run P w₂).andThen fun b w₃ => ((loadVar tz b).run P w₃).andThen fun y w₄ => .ok (.tuple #[x, y, tmps.getD u undef]) w₄ := by
  simp only [results, h]
  simp [Sem.run_bind, Result.andThen]
theorem rest_size : (Tryz.prog.info? 63).map (·.size) = some 2 := by kernel_rfl
theorem ret_rest {fn : Func} {R : Ending → World → Prop} {a : Act} {w : World} {p u v : Tmp} {t : TypeId} {g n c : Nat} {A : Option Addr} {q : Int} {x er : Value} (h : fn.results = #[.cell p 63, .tmp u, .tmp v]) (hp : a.tmps.getD p undef = .pointer (some ⟨g, 0, none⟩)) (hu : a.tmps.getD u undef = x) (hv : a.tmps.getD v undef = er)
    (hd : a.defers = []) (hg : Rbox w t g A n c q) (hR : R (.returned (.tuple #[.agg #[.slice A n c, .int .i64 q], x, er])) w) : bodyPost Tryz.prog fn R .ret a w := by
  refine bodyPost_ret ?_ hd hR
  rw [results_ctt h, hp, hu, hv]
  simp [asAddr, Result.andThen, run_loadVar_row w g t 63 _ _ _ hg Tryz.underlying63 rfl rest_size]
theorem ret_rest_dyad {fn : Func} {R : Ending → World → Prop} {a : Act} {w : World} {p q u : Tmp} {t : TypeId} {g k n c : Nat} {A : Option Addr} {z : Int} {s : Bool} {v er : Value} {x : Int} (h : fn.results = #[.cell p 63, .cell q 24, .tmp u]) (hp : a.tmps.getD p undef = .pointer (some ⟨g, 0, none⟩)) (hq : a.tmps.getD q undef = .pointer (some ⟨k, 0, none⟩)) (hu : a.tmps.getD u undef = er)
    (hd : a.defers = []) (hg : Rbox w t g A n c z) (hk : Dbox w k s v x) (hR : R (.returned (.tuple #[.agg #[.slice A n c, .int .i64 z], .agg #[.bool s, v, .int .i64 x], er])) w) : bodyPost Tryz.prog fn R .ret a w := by
  refine bodyPost_ret ?_ hd hR
  rw [jresults_cct h, hp, hq, hu]
  simp [asAddr, Result.andThen, run_loadVar_row w g t 63 _ _ _ hg Tryz.underlying63 rfl rest_size, run_loadVar_row w k _ 24 _ _ _ hk Tryz.underlying24 rfl dyad_size]
set_option maxHeartbeats 1600000 in
theorem mayRead_any (A : Option Addr) (n c : Nat) (p : Int) (w : World) (_hm : n ≤ 140737488355328) :
    Calls Tryz.prog 68 #[.agg #[.slice A n c, .int .i64 p]] w fun e w' => e = .returned (.bool (decide (0 ≤ p ∧ p ≤ n))) ∧ Hid (Below w.heap.size w w') := by
  have B0 := hid ((Below.refl w.heap.size w).alloc (Nat.le_refl _) (.cells #[.slice A n c, .int .i64 p] 63))
  have hcase : (¬ 0 ≤ p) ∨ (0 ≤ p ∧ ¬ p ≤ (n : Int)) ∨ (0 ≤ p ∧ p ≤ (n : Int)) := by omega
  rcases hcase with h1 | ⟨h1, h2⟩ | ⟨h1, h2⟩
  all_goals
    go_enter Tryz.func68, Tryz.ntmps68
    go_wp2
    go_ret
    refine ⟨?_, B0⟩
    congr 2
    simp
    try omega
set_option maxHeartbeats 1600000 in
theorem Done_any (A : Option Addr) (n c : Nat) (p : Int) (w : World) (hm : n ≤ 140737488355328) :
    Calls Tryz.prog 29 #[.agg #[.slice A n c, .int .i64 p]] w fun e w' => e = .returned (.bool (decide (p = n))) ∧ Hid (Below w.heap.size w w') := by
  have B0 := hid ((Below.refl w.heap.size w).alloc (Nat.le_refl _) (.cells #[.slice A n c, .int .i64 p] 63))
  have R0 : Hid (Rbox _ 63 w.heap.size A n c p) := heap_alloc_new w (.cells #[.slice A n c, .int .i64 p] 63)
  have C := mayRead_any A n c p (w.alloc (.cells #[.slice A n c, .int .i64 p] 63)) hm
  by_cases h1 : 0 ≤ p ∧ p ≤ (n : Int)
  · rw [bool_of_dec h1] at C
    have HC := hid C
    clear C
    by_cases h2 : p = (n : Int)
    · have he : (p == (n : Int)) = true := by simp [h2]
      rw [bool_of_dec h2]
      have b0 := R0.out.c0
      have b1 := R0.out.c1
      clear h1 h2
      go_enter Tryz.func29, Tryz.ntmps29
      go_wp2_with fail
      refine HC.out.mono ?_
      rintro e w1 ⟨rfl, hb⟩
      have R1 := hid (R0.out.below hb.out R0.out.lt)
      have e0 := R1.out.c0
      have e1 := R1.out.c1
      clear b0 b1
      go_wp2
      go_ret
      exact ⟨rfl, hid (B0.out.trans (hb.out.mono B0.out.size))⟩
    · have he : (p == (n : Int)) = false := by simp [h2]
      rw [bool_of_not h2]
      have b0 := R0.out.c0
      have b1 := R0.out.c1
      clear h1 h2
      go_enter Tryz.func29, Tryz.ntmps29
      go_wp2_with fail
      refine HC.out.mono ?_
      rintro e w1 ⟨rfl, hb⟩
      have R1 := hid (R0.out.below hb.out R0.out.lt)
      have e0 := R1.out.c0
      have e1 := R1.out.c1
      clear b0 b1
      go_wp2
      go_ret
      exact ⟨rfl, hid (B0.out.trans (hb.out.mono B0.out.size))⟩
  · rw [bool_of_not h1] at C
    rw [bool_of_not (fun h2 : p = (n : Int) => h1 (by omega))]
    have HC := hid C
    have b0 := R0.out.c0
    have b1 := R0.out.c1
    clear C h1
    go_enter Tryz.func29, Tryz.ntmps29
    go_wp2_with fail
    refine HC.out.mono ?_
    rintro e w1 ⟨rfl, hb⟩
    go_wp2
    go_ret
    exact ⟨rfl, hid (B0.out.trans (hb.out.mono B0.out.size))⟩
def nE (n : Nat) (p z : Int) : Int := if ¬ (0 ≤ p ∧ p ≤ n) then 8 else if ¬ (1 ≤ z ∧ z ≤ 8) then 2 else if (n : Int) < p + z then 40 else 0
def NRes (w : World) (n : Nat) (xs : List Nat) (p z : Int) (e : Ending) (w' : World) : Prop := ∃ A' n' c' V er, ∃ p' : Int, e = .returned (.tuple #[.agg #[.slice A' n' c', .int .i64 p'], .int .u64 ((V : Nat) : Int), .int .i64 er]) ∧
  Hid (er = nE n p z) ∧ Hid (By w' w.heap.size A' n' c' (if er = 0 then xs else [])) ∧ Hid (p' = if er = 0 then p + z else 0) ∧ Hid (V = if er = 0 then bn ((xs.drop p.toNat).take z.toNat) else 0) ∧ Hid (Below w.heap.size w w')
open Go.RowKit
set_option maxHeartbeats 6400000 in
theorem formed_any {w : World} {n c g : Nat} {A : Option Addr} {f : Nat → Nat} {x : Int} (hr : Rd w w.heap.size A n c f) (hg : g < 256) :
    Calls Tryz.prog 113 #[.int .u64 (g : Int), .agg #[.bool false, .slice A n c, .int .i64 x]] w fun e w' =>
      Hid (Below w.heap.size w w') ∧ ((g ≤ 1 ∧ DMay (decide (g = 1)) n f x ∧ e = .returned (.tuple #[.agg #[.bool (decide (g = 1)), .slice A n c, .int .i64 x], .int .i64 0])) ∨
        (¬ (g ≤ 1 ∧ DMay (decide (g = 1)) n f x) ∧ e = .returned (.tuple #[.agg #[.bool false, .slice none 0 0, .int .i64 0], .int .i64 41]))) := by
  obtain ⟨W, hW⟩ : ∃ W, W = (w.alloc (.cells #[.bool false, .slice A n c, .int .i64 x] 24)).alloc (.cells #[.bool false, .slice none 0 0, .int .i64 0] 24) := ⟨_, rfl⟩
  have B0 := hid (show Below w.heap.size w W from hW ▸ ((Below.refl w.heap.size w).alloc (Nat.le_refl _) _).alloc (by simp) _)
  have P0 : Hid (Dbox W w.heap.size false (.slice A n c) x) := hid (hW ▸ (Below.heap_alloc _ _ _ (by simp)).trans (heap_alloc_new w _))
  have Z0 : Hid (Dbox W (w.heap.size + 1) false (.slice none 0 0) 0) := hid (hW ▸ heap_alloc2_new w _ _)
  have HW := hid hW
  have HR := hid hr
  clear hW hr
  have b0 := P0.out.frozen 0
  have hcase : g = 0 ∨ g = 1 ∨ (((g : Int) == 1) = false ∧ ((g : Int) != 0) = true ∧ ¬ g ≤ 1) := by
    rcases Nat.lt_or_ge g 2 with h | h
    · omega
    · right; right
      refine ⟨by simp; omega, ?_, by omega⟩
      simp only [bne_iff_ne]
      omega
  rcases hcase with rfl | rfl | ⟨h1, h2, h3⟩
  · have P1 := hid (P0.out.set0 false)
    have B1 := hid (B0.out.setCell (p := ⟨w.heap.size, 0, none⟩) (Nat.le_refl _) (.bool false))
    have Z1 := hid (Z0.out.far (k := w.heap.size) (by omega) 0 (.bool false))
    have C := hid (dcheck_any (w := W.setCell ⟨w.heap.size, 0, none⟩ (.bool false)) ((HR.out.below B1.out).mono B1.out.size) false x)
    have c0 := P0.out.c0
    have c1 := P0.out.c1
    have c2 := P0.out.c2
    by_cases hm : DMay false n f x
    · have HM := hid hm
      rw [dchk_ok hm] at C
      clear hm
      go_enter Tryz.func113, Tryz.ntmps113
      go_upto_region 1 with fail
      rw [← HW.out]
      go_wp2_with fail
      refine C.out.mono ?_
      rintro e w1 ⟨rfl, hb⟩
      have P2 := hid (P1.out.below hb P1.out.lt)
      have Z2 := hid (Z1.out.below hb Z1.out.lt)
      have B2 := hid (B1.out.trans (hb.mono B1.out.size))
      have e0 := P2.out.c0
      have e1 := P2.out.c1
      have e2 := P2.out.c2
      have f0 := Z2.out.frozen 0
      have f1 := Z2.out.frozen 1
      have f2 := Z2.out.frozen 2
      have z0 := Z2.out.c0
      have z1 := Z2.out.c1
      have z2 := Z2.out.c2
      clear c0 c1 c2
      go_wp2
      refine ret_dyad rfl rfl rfl rfl (Z2.out.store (t := false) (u := .slice A n c) (y := x)) ?_
      exact ⟨below_put3 B2.out (by simp), .inl ⟨by omega, HM.out, rfl⟩⟩
    · have HM := hid hm
      rw [dchk_bad hm] at C
      clear hm
      go_enter Tryz.func113, Tryz.ntmps113
      go_upto_region 1 with fail
      rw [← HW.out]
      go_wp2_with fail
      refine C.out.mono ?_
      rintro e w1 ⟨rfl, hb⟩
      have Z2 := hid (Z1.out.below hb Z1.out.lt)
      have B2 := hid (B1.out.trans (hb.mono B1.out.size))
      have f0 := Z2.out.frozen 0
      have f1 := Z2.out.frozen 1
      have f2 := Z2.out.frozen 2
      have z0 := Z2.out.c0
      have z1 := Z2.out.c1
      have z2 := Z2.out.c2
      clear c0 c1 c2
      go_wp2
      refine ret_dyad rfl rfl rfl rfl (Z2.out.store (t := false) (u := .slice none 0 0) (y := 0)) ?_
      exact ⟨below_put3 B2.out (by simp), .inr ⟨fun h => HM.out h.2, rfl⟩⟩
  · have P1 := hid (P0.out.set0 true)
    have B1 := hid (B0.out.setCell (p := ⟨w.heap.size, 0, none⟩) (Nat.le_refl _) (.bool true))
    have Z1 := hid (Z0.out.far (k := w.heap.size) (by omega) 0 (.bool true))
    have C := hid (dcheck_any (w := W.setCell ⟨w.heap.size, 0, none⟩ (.bool true)) ((HR.out.below B1.out).mono B1.out.size) true x)
    have c0 := P0.out.c0
    have c1 := P0.out.c1
    have c2 := P0.out.c2
    by_cases hm : DMay true n f x
    · have HM := hid hm
      rw [dchk_ok hm] at C
      clear hm
      go_enter Tryz.func113, Tryz.ntmps113
      go_upto_region 1 with fail
      rw [← HW.out]
      go_wp2_with fail
      refine C.out.mono ?_
      rintro e w1 ⟨rfl, hb⟩
      have P2 := hid (P1.out.below hb P1.out.lt)
      have Z2 := hid (Z1.out.below hb Z1.out.lt)
      have B2 := hid (B1.out.trans (hb.mono B1.out.size))
      have e0 := P2.out.c0
      have e1 := P2.out.c1
      have e2 := P2.out.c2
      have f0 := Z2.out.frozen 0
      have f1 := Z2.out.frozen 1
      have f2 := Z2.out.frozen 2
      have z0 := Z2.out.c0
      have z1 := Z2.out.c1
      have z2 := Z2.out.c2
      clear c0 c1 c2
      go_wp2
      refine ret_dyad rfl rfl rfl rfl (Z2.out.store (t := true) (u := .slice A n c) (y := x)) ?_
      exact ⟨below_put3 B2.out (by simp), .inl ⟨by omega, HM.out, rfl⟩⟩
    · have HM := hid hm
      rw [dchk_bad hm] at C
      clear hm
      go_enter Tryz.func113, Tryz.ntmps113
      go_upto_region 1 with fail
      rw [← HW.out]
      go_wp2_with fail
      refine C.out.mono ?_
      rintro e w1 ⟨rfl, hb⟩
      have Z2 := hid (Z1.out.below hb Z1.out.lt)
      have B2 := hid (B1.out.trans (hb.mono B1.out.size))
      have f0 := Z2.out.frozen 0
      have f1 := Z2.out.frozen 1
      have f2 := Z2.out.frozen 2
      have z0 := Z2.out.c0
      have z1 := Z2.out.c1
      have z2 := Z2.out.c2
      clear c0 c1 c2
      go_wp2
      refine ret_dyad rfl rfl rfl rfl (Z2.out.store (t := false) (u := .slice none 0 0) (y := 0)) ?_
      exact ⟨below_put3 B2.out (by simp), .inr ⟨fun h => HM.out h.2, rfl⟩⟩
  · have H3 := hid h3
    have P1 := hid (P0.out.set0 false)
    have B1 := hid (B0.out.setCell (p := ⟨w.heap.size, 0, none⟩) (Nat.le_refl _) (.bool false))
    have Z1 := hid (Z0.out.far (k := w.heap.size) (by omega) 0 (.bool false))
    have c0 := P0.out.c0
    have f0 := Z0.out.frozen 0
    have f1 := Z0.out.frozen 1
    have f2 := Z0.out.frozen 2
    have z0 := Z0.out.c0
    have z1 := Z0.out.c1
    have z2 := Z0.out.c2
    clear h3
    go_enter Tryz.func113, Tryz.ntmps113
    go_upto_region 1 with fail
    rw [← HW.out]
    go_wp2
    refine ret_dyad rfl rfl rfl rfl (Z1.out.store (t := false) (u := .slice none 0 0) (y := 0)) ?_
    exact ⟨below_put3 B1.out (by simp), .inr ⟨fun h => H3.out h.1, rfl⟩⟩
open Go.RowKit
theorem wp_scope_once {P : Program} {a : Act} {w : World} {Q : Exit → Act → World → Prop} {c rest : Code} (l : Nat) (hf : findLabel c l = some rest)
    (first : c.wp P (Exit.jump l (fun a w => rest.wp P (Exit.noGoto Q) a w) Q) a w) : (Code.scope c).wp P Q a w := by
  refine wp_scope_jumps l (fun a w => rest.wp P (Exit.noGoto Q) a w) (fun _ _ => 0) hf first fun a w h => Code.wp_mono ?_ h
  intro e a w h
  cases e with
  | goto l' => exact h.elim
  | normal => exact h
  | exit id => exact h
  | ret => exact h
  | panic ch => exact h
  | outgrown => exact h
def cntOf (ys : List Nat) : Nat := ys.getD 3 0
def sgOf (ys : List Nat) : Nat := ys.getD 0 0
def expOf (ys : List Nat) : Nat := bn ((ys.drop 1).take 2)
def limOf (ys : List Nat) (j : Nat) : Nat := lof (ys.drop 4) (cntOf ys) j
def dE (ys : List Nat) : Int := if ys.length < 4 ∨ ys.length < 4 + 4 * cntOf ys then 40 else if sgOf ys ≤ 1 ∧ DMay (decide (sgOf ys = 1)) (cntOf ys) (limOf ys) (expOf ys) then 0 else 41
theorem bn_one {xs : List Nat} {p : Nat} (h : p < xs.length) : bn ((xs.drop p).take 1) = xs.getD p 0 := by
  have e : xs[p]? = some (xs.getD p 0) := by
    rw [List.getD_eq_getElem?_getD, List.getElem?_eq_getElem h]
    rfl
  have := part_one (xs := xs) (p := p) (k := 0) (by rw [Nat.add_zero]; exact e)
  rw [this, List.take_zero, bn_nil]
  omega
theorem getD_drop (xs : List Nat) (p j : Nat) : (xs.drop p).getD j 0 = xs.getD (p + j) 0 := by
  rw [List.getD_eq_getElem?_getD, List.getD_eq_getElem?_getD, List.getElem?_drop]
def TRes (w : World) (g : Nat) (A : Option Addr) (n c p : Nat) (ys : List Nat) (e : Ending) (w' : World) : Prop := ∃ s A' k c' x er, ∃ f : Nat → Nat, e = .returned (.tuple #[.agg #[.bool s, .slice A' k c', .int .i64 x], .int .i64 er]) ∧
  Hid (er = dE ys) ∧ Hid (Mk w' 75 w.heap.size A' k c' f) ∧ Hid (er = 0 → s = decide (sgOf ys = 1) ∧ k = cntOf ys ∧ f = limOf ys ∧ x = (expOf ys : Int)) ∧ Hid (er ≠ 0 → s = false ∧ A' = none ∧ k = 0 ∧ c' = 0 ∧ f = (fun _ => 0) ∧ x = 0) ∧
  Hid (er = 0 → Rbox w' 141 g A n c ((p + (4 + 4 * cntOf ys) : Nat) : Int)) ∧ Hid (Below g w w')
theorem TRes.bad {w w' : World} {g n c p : Nat} {A : Option Addr} {ys : List Nat} {er : Int} (he : er = dE ys) (h0 : er ≠ 0) (hb : Below g w w') : TRes w g A n c p ys (.returned (.tuple #[.agg #[.bool false, .slice none 0 0, .int .i64 0], .int .i64 er])) w' :=
  ⟨false, none, 0, 0, 0, er, fun _ => 0, rfl, he, Mk.nil _ _ _, fun h => absurd h h0, fun _ => ⟨rfl, rfl, rfl, rfl, rfl, rfl⟩, fun h => absurd h h0, hb⟩
theorem limOf_succ {xs : List Nat} {p k : Nat} (h : k < cntOf (xs.drop p)) : bn ((xs.drop (p + 4 + 4 * k)).take 4) = limOf (xs.drop p) k := by
  unfold limOf lof
  rw [if_pos h, List.drop_drop, List.drop_drop, ← Nat.add_assoc]
def Lgr (w : World) (B : Nat) (f : Nat → Nat) (n : Nat) (v : Value) : Prop := w.ownsRow B 75 1 v n ((List.range n).map fun j => Value.int .u32 (f j : Int))
theorem Lgr.grown {w w' : World} {B n g : Nat} {f : Nat → Nat} {v : Value} (h : Lgr w B f n v) (hb : w.grownBy w' (some g)) (hg : g < B) : Lgr w' B f n v := by
  obtain ⟨hl, hor⟩ := h
  refine ⟨hl, ?_⟩
  rcases hor with h0 | ⟨k, cap, cur, rfl, hk, hh, hr⟩
  · exact .inl h0
  · exact .inr ⟨k, cap, cur, rfl, hk, (hb.block k (lt_of_heap hh) (by intro e; injection e with e; omega)).trans hh, hr⟩
theorem Lgr.nil (w : World) (B : Nat) (f : Nat → Nat) : Lgr w B f 0 (.slice none 0 0) := ⟨rfl, .inl ⟨rfl, rfl⟩⟩
theorem app_limb {P : Program} {ops : Array Oper} {rest : List Oper} {o : Oper} {a : Act} {Q : Exit → Act → World → Prop} (hgd : o.guard = none) (s x : Operand) (t : TypeId)
    (ho : o.op = .call { callee := .builtin .append, args := #[s, x], argTypes := #[t, t] }) (e : TypeId) (z : Value) (bytes : Nat) (ht : P.underlying t = some (.slice e))
    (hi : (P.info? e).map (fun i => (i.zero, i.size, i.bytes)) = some (some z, 1, bytes)) (hz : z.cells.size = 1) (hby : bytes ≤ 8)
    {wr : World} {B n : Nat} {v u : Value} {xs : List Value} (hs : a.eval s = v) (hx : a.eval x = .slice (some ⟨wr.heap.size, 0, none⟩) 1 1) (hown : wr.ownsRow B e 1 v n xs) (hB : B ≤ wr.heap.size)
    (hu : u.oneCell' = true) (hn : n + 1 ≤ 17592186044416)
    (h : ∀ v' w', Hid (w'.ownsRow B e 1 v' (n + 1) (xs ++ [u])) → Hid (Below B wr w') → wpList P ops Q rest (a.put o.dst v') w') : wpList P ops Q (o :: rest) a (wr.alloc (.cells #[u] e)) := by
  refine wpList_append_src hgd s x t ho e z bytes ht hi hz hby (B := B) (news := [u]) hs hx (hown.alloc _) (by simp; omega) rfl (fun h => by cases h) ?_ (fun y hy => by simp at hy; subst hy; exact hu) hn ?_
  · intro p hp j y hj
    injection hp with hp
    subst hp
    match j, hj with
    | 0, hj =>
      simp at hj
      subst hj
      show (wr.alloc _).cell? ⟨wr.heap.size, 0, none⟩ = _
      rw [cell_of_row _ wr.heap.size 0 _ e (0, 0) (heap_alloc_new wr _)]
      rfl
    | j + 1, hj => simp at hj
  · intro v' w' hown' hb
    exact h v' w' hown' (hid (((Below.refl B wr).alloc hB _).trans hb.out))
open Go.RowKit
theorem dE_short {ys : List Nat} (h : ys.length < 4 ∨ ys.length < 4 + 4 * cntOf ys) : (40 : Int) = dE ys := by unfold dE; rw [if_pos h]
theorem lim_lt {xs : List Nat} {p : Nat} (h : ∀ x ∈ xs, x < 256) (j : Nat) : limOf (xs.drop p) j < 4294967296 := lof_lt (fun x hx => h x (List.mem_of_mem_drop (List.mem_of_mem_drop hx))) j
theorem exp_eq (xs : List Nat) (p : Nat) : bn ((xs.drop (p + 1)).take 2) = expOf (xs.drop p) := by unfold expOf; rw [List.drop_drop]
theorem sg_eq {xs : List Nat} {p : Nat} (h : p < xs.length) : bn ((xs.drop p).take 1) = sgOf (xs.drop p) := by
  rw [bn_one h]
  unfold sgOf
  rw [getD_drop]
  rfl
theorem cnt_eq {xs : List Nat} {p : Nat} (h : p + 3 < xs.length) : bn ((xs.drop (p + 1 + 2)).take 1) = cntOf (xs.drop p) := by
  rw [bn_one (by omega)]
  unfold cntOf
  rw [getD_drop]
theorem getD_lt {xs : List Nat} (h : ∀ x ∈ xs, x < 256) (j : Nat) : xs.getD j 0 < 256 := by
  rw [List.getD_eq_getElem?_getD]
  cases hx : xs[j]? with
  | none => show 0 < 256; omega
  | some x => exact h x (List.mem_of_getElem? hx)
set_option maxHeartbeats 12800000 in
theorem takeDyad_any {w : World} {B g n c p : Nat} {A : Option Addr} {xs : List Nat} (hq : Rbox w 141 g A n c (p : Int)) (hby : By w B A n c xs) (hB : B ≤ g) (hp : p ≤ n) :
    Calls Tryz.prog 102 #[.func (.func 101) #[.pointer (some ⟨g, 0, none⟩)] #[]] w (TRes w g A n c p (xs.drop p)) := by
  obtain ⟨W, hW⟩ : ∃ W, W = w.alloc (.cells #[.bool false, .slice none 0 0, .int .i64 0] 24) := ⟨_, rfl⟩
  have Z0 : Hid (Dbox W w.heap.size false (.slice none 0 0) 0) := hid (hW ▸ heap_alloc_new w _)
  have B0 : Hid (Below w.heap.size w W) := hid (hW ▸ (Below.refl w.heap.size w).alloc (Nat.le_refl _) _)
  have hWs : W.heap.size = w.heap.size + 1 := by rw [hW]; simp
  have HWs := hid hWs
  have HW := hid hW
  have HX := hid hby
  have hlt := hq.lt
  have Q0 := hid (hq.below B0.out hlt)
  have G0 := hid (gbelow (jgrefl w g) B0.out (Nat.le_refl _))
  have hlen := hby.len
  have hmax := hby.max
  have HL : Hid ((xs.drop p).length = n - p) := hid (by rw [List.length_drop, hlen])
  have HB := hid hB
  have HBY := hid (fun (w' : World) (h : w.grownBy w' (some g)) => hby.below ((below_of_grown h (by omega)).mono hB))
  clear hq hby hW hWs hB
  go_enter Tryz.func102, Tryz.ntmps102
  go_upto_region 1 with fail
  rw [← HW.out]
  go_wp2
  refine wp_scope_once 0 rfl ?_
  go_wp2_with fail
  by_cases h1 : n < p + 1
  · refine (next_short Q0.out h1 hp (by omega) hmax).mono ?_
    rintro e w1 ⟨rfl, R1, hg1⟩
    have Z1 := hid (Z0.out.grown hg1.out (by omega))
    have f0 := Z1.out.frozen 0
    have z0 := Z1.out.c0
    have f1 := Z1.out.frozen 1
    have z1 := Z1.out.c1
    have f2 := Z1.out.frozen 2
    have z2 := Z1.out.c2
    go_wp2
    go_step3
    refine ⟨rfl, ?_⟩
    show Code.wp _ _ _ _ _
    go_wp2
    refine ret_dyad rfl rfl rfl rfl (Z1.out.store (t := false) (u := .slice none 0 0) (y := 0)) ?_
    exact TRes.bad (dE_short (.inl (by rw [HL.out]; omega))) (by omega) (below_put3 (below_of_grown (gthen G0.out hg1.out) (by omega)) (by omega))
  · refine (next_any (z := 1) Q0.out (HBY.out _ G0.out) HB.out (by omega) (by omega)).mono ?_
    rintro e w1 ⟨rfl, R1, hg1⟩
    have Z1 := hid (Z0.out.grown hg1.out (by omega))
    have G1 := hid (gthen G0.out hg1.out)
    clear hg1
    have hs1 := sg_eq (xs := xs) (p := p) (by omega)
    rw [hs1]
    have hsl : sgOf (xs.drop p) < 256 := getD_lt (fun x hx => HX.out.lt x (List.mem_of_mem_drop hx)) 0
    obtain ⟨sg, hsg⟩ : ∃ sg, sg = sgOf (xs.drop p) := ⟨_, rfl⟩
    rw [← hsg] at hsl ⊢
    have Hsg := hid hsg
    clear hsg hs1
    go_wp2_with fail
    by_cases h2 : n < p + 1 + 2
    · refine (next_short R1.out h2 (by omega) (by omega) hmax).mono ?_
      rintro e w2 ⟨rfl, R2, hg2⟩
      have Z2 := hid (Z1.out.grown hg2.out (by omega))
      have f0 := Z2.out.frozen 0
      have z0 := Z2.out.c0
      have f1 := Z2.out.frozen 1
      have z1 := Z2.out.c1
      have f2 := Z2.out.frozen 2
      have z2 := Z2.out.c2
      go_wp2
      go_step3
      refine ⟨rfl, ?_⟩
      show Code.wp _ _ _ _ _
      go_wp2
      refine ret_dyad rfl rfl rfl rfl (Z2.out.store (t := false) (u := .slice none 0 0) (y := 0)) ?_
      exact TRes.bad (dE_short (.inl (by rw [HL.out]; omega))) (by omega) (below_put3 (below_of_grown (gthen G1.out hg2.out) (by omega)) (by omega))
    · refine (next_any (z := 2) R1.out (HBY.out _ G1.out) HB.out (by omega) (by omega)).mono ?_
      rintro e w2 ⟨rfl, R2, hg2⟩
      have Z2 := hid (Z1.out.grown hg2.out (by omega))
      have G2 := hid (gthen G1.out hg2.out)
      clear hg2
      rw [exp_eq]
      have hxl : expOf (xs.drop p) < 65536 := Nat.lt_of_lt_of_le (bn_lt (fun x hx => take_mem (fun y hy => HX.out.lt y (List.mem_of_mem_drop hy)) hx)) (Nat.le_trans (Nat.pow_le_pow_right (by omega) (by rw [List.length_take]; exact Nat.min_le_left _ _)) (by decide))
      obtain ⟨xp, hxp⟩ : ∃ xp, xp = expOf (xs.drop p) := ⟨_, rfl⟩
      rw [← hxp] at hxl ⊢
      have Hxp := hid hxp
      clear hxp
      go_wp2_with fail
      by_cases h3 : n < p + 1 + 2 + 1
      · refine (next_short R2.out h3 (by omega) (by omega) hmax).mono ?_
        rintro e w3 ⟨rfl, R3, hg3⟩
        have Z3 := hid (Z2.out.grown hg3.out (by omega))
        have f0 := Z3.out.frozen 0
        have z0 := Z3.out.c0
        have f1 := Z3.out.frozen 1
        have z1 := Z3.out.c1
        have f2 := Z3.out.frozen 2
        have z2 := Z3.out.c2
        go_wp2
        go_step3
        refine ⟨rfl, ?_⟩
        show Code.wp _ _ _ _ _
        go_wp2
        refine ret_dyad rfl rfl rfl rfl (Z3.out.store (t := false) (u := .slice none 0 0) (y := 0)) ?_
        exact TRes.bad (dE_short (.inl (by rw [HL.out]; omega))) (by omega) (below_put3 (below_of_grown (gthen G2.out hg3.out) (by omega)) (by omega))
      · refine (next_any (z := 1) R2.out (HBY.out _ G2.out) HB.out (by omega) (by omega)).mono ?_
        rintro e w3 ⟨rfl, R3, hg3⟩
        have Z3 := hid (Z2.out.grown hg3.out (by omega))
        have G3 := hid (gthen G2.out hg3.out)
        clear hg3
        rw [cnt_eq (by omega)]
        have hcl : cntOf (xs.drop p) < 256 := getD_lt (fun x hx => HX.out.lt x (List.mem_of_mem_drop hx)) 3
        have HF : Hid (∀ j, limOf (xs.drop p) j < 4294967296) := hid (lim_lt HX.out.lt)
        have HN := hid (fun k (h : k < cntOf (xs.drop p)) => limOf_succ (xs := xs) (p := p) (k := k) h)
        obtain ⟨cn, hcn⟩ : ∃ cn, cn = cntOf (xs.drop p) := ⟨_, rfl⟩
        rw [← hcn] at hcl HN ⊢
        have Hcn := hid hcn
        obtain ⟨lf, hlf⟩ : ∃ lf, lf = limOf (xs.drop p) := ⟨_, rfl⟩
        rw [← hlf] at HF HN
        have Hlf := hid hlf
        have Hout : Hid (∀ j, cn ≤ j → lf j = 0) := hid (fun j hj => by rw [hlf]; exact lof_out (by rw [← hcn]; exact hj))
        have GS := G3.out.size
        clear hcn hlf
        go_wp2_with fail
        go_loopw [7, 8, 9, 32] (fun lv sl ov i wr => ∃ k V : Nat, k ≤ cn ∧ lv = .int .u64 (V : Int) ∧ ov = .bool true ∧ i = .int .u64 k ∧ Hid (Lgr wr (w.heap.size + 1) lf k sl) ∧ Hid (Dbox wr w.heap.size false (.slice none 0 0) 0) ∧ Hid (Rbox wr 141 g A n c ((p + 4 + 4 * k : Nat) : Int)) ∧ Hid (w.grownBy wr (some g)) ∧ Hid (w.heap.size + 1 ≤ wr.heap.size) ∧ Hid (p + 4 + 4 * k ≤ n)) (fun _ _ _ i _ => cn - (intOf i).toNat)
        case atStart => exact ⟨0, 0, by omega, rfl, rfl, rfl, Lgr.nil _ _ _, Z3, R3, G3, hid (by have := lt_of_heap Z3.out; omega), hid (by omega)⟩
        case round =>
          obtain ⟨k, V, hk, rfl, rfl, rfl, hL, hZ, hR, hG, hsz, hpn⟩ := hrel
          by_cases hcon : k < cn
          · go_wp2_with fail
            by_cases h4 : n < p + 4 + 4 * k + 4
            · refine (next_short hR.out h4 hpn.out (by omega) hmax).mono ?_
              rintro e w4 ⟨rfl, R4, hg4⟩
              have Z4 := hid (hZ.out.grown hg4.out (by omega))
              have f0 := Z4.out.frozen 0
              have z0 := Z4.out.c0
              have f1 := Z4.out.frozen 1
              have z1 := Z4.out.c1
              have f2 := Z4.out.frozen 2
              have z2 := Z4.out.c2
              have HE : Hid ((40 : Int) = dE (xs.drop p)) := hid (dE_short (.inr (by rw [HL.out, ← Hcn.out]; omega)))
              go_wp2
              go_step3
              refine ⟨rfl, ?_⟩
              show Code.wp _ _ _ _ _
              go_wp2
              refine ret_dyad rfl rfl rfl rfl (Z4.out.store (t := false) (u := .slice none 0 0) (y := 0)) ?_
              exact TRes.bad HE.out (by omega) (below_put3 (below_of_grown (gthen hG.out hg4.out) (by omega)) (by omega))
            · refine (next_any (z := 4) hR.out (HBY.out _ hG.out) HB.out (by omega) (by omega)).mono ?_
              rintro e w4 ⟨rfl, R4, hg4⟩
              have Z4 := hid (hZ.out.grown hg4.out (by omega))
              have G4 := hid (gthen hG.out hg4.out)
              have L4 := hid (hL.out.grown hg4.out (by omega))
              have sz4 := hg4.out.size
              have hsz5 := hsz.out
              clear hg4
              rw [HN.out k hcon]
              have hU := HF.out k
              obtain ⟨U, hUk⟩ : ∃ U, U = lf k := ⟨_, rfl⟩
              rw [← hUk] at hU ⊢
              have HU := hid hUk
              clear hUk
              go_wp2_with (at_builtin; refine app_limb rfl (.tmp 41) (.tmp 44) 22 rfl 75 (.int .u32 0) 4 Tryz.underlying22 info_u32 rfl (by decide) rfl rfl L4.out (by omega) rfl (by omega) ?_; intro v5 w5 hown5 hb5)
              go_roundw
              case rel =>
                refine ⟨k + 1, U, by omega, rfl, rfl, by go_num, hid ?_, hid (Z4.out.below hb5.out (by omega)), hid (by have h := R4.out.below hb5.out (by omega); exact h), hid (gbelow G4.out hb5.out (by omega)), hid (by have := hb5.out.size; omega), hid (by omega)⟩
                unfold Lgr
                rw [List.range_succ, List.map_append]
                have h := hown5.out
                rw [HU.out] at h
                exact h
              case measure => simp [intOf]; omega
          · obtain rfl : k = cn := by omega
            obtain ⟨A5, c5, rfl, M5⟩ := mk_of_row hL.out (by omega) HF.out Hout.out
            have HM5 := hid M5
            have Hsz := hid (show g < wr.heap.size by have := hsz.out; omega)
            have CF := hid (formed_any (x := (xp : Int)) HM5.out.rd hsl)
            clear M5 hL
            go_wp2_with fail
            refine CF.out.mono ?_
            rintro e w6 ⟨hb6, h6⟩
            have Z6 := hid (hZ.out.below hb6.out hZ.out.lt)
            have M6 := hid (HM5.out.below hb6.out (Nat.le_refl _))
            have R6 := hid (hR.out.below hb6.out Hsz.out)
            have G6 := hid (gbelow hG.out hb6.out (by have := hsz.out; omega))
            have f0 := Z6.out.frozen 0
            have f1 := Z6.out.frozen 1
            have f2 := Z6.out.frozen 2
            have z0 := Z6.out.c0
            have z1 := Z6.out.c1
            have z2 := Z6.out.c2
            clear CF hb6 hZ HM5 hR hG Hsz hsz
            have HLen : Hid (¬ ((xs.drop p).length < 4 ∨ (xs.drop p).length < 4 + 4 * cntOf (xs.drop p))) := hid (by rw [HL.out, ← Hcn.out]; have := hpn.out; omega)
            rcases h6 with ⟨hs6, hm6, rfl⟩ | ⟨hm6, rfl⟩
            · have HE : Hid ((0 : Int) = dE (xs.drop p)) := hid (by unfold dE; rw [if_neg HLen.out, if_pos (by rw [← Hsg.out, ← Hcn.out, ← Hlf.out, ← Hxp.out]; exact ⟨hs6, hm6⟩)])
              clear hs6 hm6
              obtain ⟨sb, hsb⟩ : ∃ sb, sb = decide (sg = 1) := ⟨_, rfl⟩
              rw [← hsb]
              have Hsb := hid hsb
              clear hsb
              go_wp2
              refine ret_dyad rfl rfl rfl rfl (Z6.out.store (t := sb) (u := .slice A5 k c5) (y := (xp : Int))) ?_
              refine ⟨sb, A5, k, c5, _, 0, lf, rfl, HE, hid ((M6.out.put3 (by omega)).mono (by omega)), hid (fun _ => ⟨by rw [Hsb.out, Hsg.out], Hcn.out, Hlf.out, by rw [Hxp.out]⟩), fun h => absurd rfl h, fun _ => ?_, below_put3 (below_of_grown G6.out (by omega)) (by omega)⟩
              rw [← Hcn.out, ← Nat.add_assoc]
              exact ((R6.out.far (k := w.heap.size) (by omega) 0 _).far (k := w.heap.size) (by omega) 1 _).far (k := w.heap.size) (by omega) 2 _
            · have HE : Hid ((41 : Int) = dE (xs.drop p)) := hid (by unfold dE; rw [if_neg HLen.out, if_neg (by rw [← Hsg.out, ← Hcn.out, ← Hlf.out, ← Hxp.out]; exact hm6)])
              clear hm6
              go_wp2
              refine ret_dyad rfl rfl rfl rfl (Z6.out.store (t := false) (u := .slice none 0 0) (y := 0)) ?_
              exact TRes.bad HE.out (by omega) (below_put3 (below_of_grown G6.out (by omega)) (by omega))
open Go.RowKit
def dEr (n : Nat) (xs : List Nat) (p : Int) : Int := if 0 ≤ p ∧ p ≤ n then dE (xs.drop p.toNat) else 8
def DTRes (w : World) (n : Nat) (xs : List Nat) (p : Int) (e : Ending) (w' : World) : Prop := ∃ A' n' c', ∃ p' : Int, ∃ s D k d, ∃ x er : Int, ∃ f : Nat → Nat, e = .returned (.tuple #[.agg #[.slice A' n' c', .int .i64 p'], .agg #[.bool s, .slice D k d, .int .i64 x], .int .i64 er]) ∧
  Hid (er = dEr n xs p) ∧ Hid (By w' w.heap.size A' n' c' (if er = 0 then xs else [])) ∧ Hid (p' = if er = 0 then p + (4 + 4 * (cntOf (xs.drop p.toNat) : Int)) else 0) ∧ Hid (Mk w' 75 w.heap.size D k d f) ∧
  Hid (er = 0 → s = decide (sgOf (xs.drop p.toNat) = 1) ∧ k = cntOf (xs.drop p.toNat) ∧ f = limOf (xs.drop p.toNat) ∧ x = (expOf (xs.drop p.toNat) : Int)) ∧ Hid (er ≠ 0 → s = false ∧ D = none ∧ k = 0 ∧ d = 0 ∧ f = (fun _ => 0) ∧ x = 0) ∧ Hid (Below w.heap.size w w')
open Go.RowKit
end Go.Proofs.YtbankbehfjogpaaGreat
