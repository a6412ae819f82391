/- Package field: PutDyad. -/
import Derived.Test.YtmaggpigodkhhaaJpn
namespace Go.Proofs.Ytmaggpigodkhhaa
open Go.RowKit

theorem dchk_ok {s : Bool} {n : Nat} {f : Nat → Nat} {x : Int} (h : DMay s n f x) : dchk s n f x = 0 := if_pos h
theorem dchk_bad {s : Bool} {n : Nat} {f : Nat → Nat} {x : Int} (h : ¬ DMay s n f x) : dchk s n f x = 8 := if_neg h

set_option maxHeartbeats 1600000 in
theorem PutDyad_bad {w : World} {n c m d : Nat} {A D : Option Addr} {f : Nat → Nat} {s : Bool} {x : Int} (hr : Rd w w.heap.size D m d f) (hm : ¬ DMay s m f x) :
    Calls Try.prog 9 #[.slice A n c, .agg #[.bool s, .slice D m d, .int .i64 x]] w fun e w' => e = .returned (.tuple #[.slice none 0 0, .int .i64 8]) ∧ Hid (Below w.heap.size w w') := by
  have B0 := hid ((Below.refl w.heap.size w).alloc (Nat.le_refl _) (.cells #[.bool s, .slice D m d, .int .i64 x] 26))
  have P0 : Hid (Dbox _ w.heap.size s (.slice D m d) x) := heap_alloc_new w (.cells #[.bool s, .slice D m d, .int .i64 x] 26)
  have C := dcheck_any ((hr.below B0.out).mono B0.out.size) s x
  rw [dchk_bad hm] at C
  have HC := hid C
  have b0 := P0.out.c0
  have b1 := P0.out.c1
  have b2 := P0.out.c2
  clear C hr hm
  go_enter Try.func9, Try.ntmps9
  go_wp2_with fail
  refine HC.out.mono ?_
  rintro e w1 ⟨rfl, hb⟩
  have B1 := hid (B0.out.trans (hb.mono B0.out.size))
  go_wp2
  go_ret2
  exact ⟨rfl, B1⟩

set_option maxHeartbeats 3200000 in
theorem PutDyad_many {w : World} {n c m d : Nat} {A D : Option Addr} {f : Nat → Nat} {s : Bool} {x : Int} (hr : Rd w w.heap.size D m d f) (hm : DMay s m f x) (hn : 3900 < n + (4 + 4 * m)) (hx : n ≤ 140737488355328) :
    Calls Try.prog 9 #[.slice A n c, .agg #[.bool s, .slice D m d, .int .i64 x]] w fun e w' => e = .returned (.tuple #[.slice none 0 0, .int .i64 4]) ∧ Hid (Below w.heap.size w w') := by
  have B0 := hid ((Below.refl w.heap.size w).alloc (Nat.le_refl _) (.cells #[.bool s, .slice D m d, .int .i64 x] 26))
  have P0 : Hid (Dbox _ w.heap.size s (.slice D m d) x) := heap_alloc_new w (.cells #[.bool s, .slice D m d, .int .i64 x] 26)
  have C := dcheck_any ((hr.below B0.out).mono B0.out.size) s x
  rw [dchk_ok hm] at C
  have HC := hid C
  have b0 := P0.out.c0
  have b1 := P0.out.c1
  have b2 := P0.out.c2
  have hm40 := hm.1.1
  have hw1 : IntKind.i64.wrap (4 * (m : Int)) = 4 * (m : Int) := IntWalk.i64_in _ (by omega)
  have hw2 : IntKind.i64.wrap (4 + 4 * (m : Int)) = 4 + 4 * (m : Int) := IntWalk.i64_in _ (by omega)
  have hcap := hr.cap
  have CW := fun w => hid (widened_many (w := w) (c := c) (A := A) hn (by omega) hx)
  rw [show ((4 + 4 * m : Nat) : Int) = 4 + 4 * (m : Int) by omega] at CW
  clear C hr hm
  go_enter Try.func9, Try.ntmps9
  go_wp2_with fail
  refine HC.out.mono ?_
  rintro e w1 ⟨rfl, hb⟩
  have B1 := hid (B0.out.trans (hb.mono B0.out.size))
  have P1 := hid (P0.out.below hb P0.out.lt)
  have e0 := P1.out.c0
  have e1 := P1.out.c1
  have e2 := P1.out.c2
  clear b0 b1 b2
  go_wp2_with fail
  refine (CW _).out.mono ?_
  rintro e w2 ⟨rfl, rfl⟩
  go_wp2
  go_ret2
  exact ⟨rfl, B1⟩

set_option maxHeartbeats 6400000 in
theorem PutDyad_fits {w : World} {n c m d X : Nat} {A D : Option Addr} {f : Nat → Nat} {s : Bool} {xs : List Nat} (h : By w w.heap.size A n c xs) (hr : Rd w w.heap.size D m d f) (hm : DMay s m f (X : Int)) (hn : n + (4 + 4 * m) ≤ 3900) :
    Calls Try.prog 9 #[.slice A n c, .agg #[.bool s, .slice D m d, .int .i64 (X : Int)]] w fun e w' => ∃ v, e = .returned (.tuple #[v, .int .i64 0]) ∧ Hid (Ow w' w.heap.size v (xs ++ dtx s m f X)) ∧ Hid (Below w.heap.size w w') := by
  have B0 := hid ((Below.refl w.heap.size w).alloc (Nat.le_refl _) (.cells #[.bool s, .slice D m d, .int .i64 (X : Int)] 26))
  have P0 : Hid (Dbox _ w.heap.size s (.slice D m d) (X : Int)) := heap_alloc_new w (.cells #[.bool s, .slice D m d, .int .i64 (X : Int)] 26)
  have C := dcheck_any ((hr.below B0.out).mono B0.out.size) s X
  rw [dchk_ok hm] at C
  have HC := hid C
  have b0 := P0.out.c0
  have b1 := P0.out.c1
  have b2 := P0.out.c2
  have hm40 := hm.1.1
  have hX := hm.2.2.1
  have hw1 : IntKind.i64.wrap (4 * (m : Int)) = 4 * (m : Int) := IntWalk.i64_in _ (by omega)
  have hw2 : IntKind.i64.wrap (4 + 4 * (m : Int)) = 4 + 4 * (m : Int) := IntWalk.i64_in _ (by omega)
  have hcap := hr.cap
  have hlen := h.len
  have CW := fun (w' : World) (hb : Below w.heap.size w w') => hid (widened_fits ((h.below hb).mono hb.size) hn)
  rw [show ((4 + 4 * m : Nat) : Int) = 4 + 4 * (m : Int) by omega] at CW
  have HR := hid hr
  clear C hr hm h
  go_enter Try.func9, Try.ntmps9
  go_wp2_with fail
  refine HC.out.mono ?_
  rintro e w1 ⟨rfl, hb⟩
  have B1 := hid (B0.out.trans (hb.mono B0.out.size))
  have P1 := hid (P0.out.below hb P0.out.lt)
  have e0 := P1.out.c0
  have e1 := P1.out.c1
  have e2 := P1.out.c2
  clear b0 b1 b2 P0 B0 HC
  go_wp2_with fail
  refine (CW _ B1.out).out.mono ?_
  rintro e w2 ⟨v2, rfl, hO2, hb2⟩
  have K2 := hid hb2.out
  have P2 := hid (P1.out.below hb2.out P1.out.lt)
  have b0 := P2.out.c0
  have b1 := P2.out.c1
  have b2 := P2.out.c2
  have hlt := P1.out.lt
  clear e0 e1 e2 CW hb2
  go_wp2_with fail
  refine (signOf_any s D m d X _).mono ?_
  rintro e w3 ⟨rfl, hb3⟩
  have K3 := hid (K2.out.trans (hb3.out.mono K2.out.size))
  have P3 := hid (P1.out.below K3.out hlt)
  have O3 := hid (hO2.out.below hb3.out (Nat.le_refl _))
  have e0 := P3.out.c0
  have e1 := P3.out.c1
  have e2 := P3.out.c2
  obtain ⟨g, hg⟩ : ∃ g : Nat, g = if s then 1 else 0 := ⟨_, rfl⟩
  have hgl : g ≤ 1 := by rw [hg]; split <;> omega
  rw [show (if s then (1 : Int) else 0) = (g : Int) by rw [hg]; split <;> rfl]
  have Hg := hid hg
  clear b0 b1 b2 P2 K2 hO2 hb3 hg
  go_wp2_with fail
  refine (putDigits_any (z := 1) O3.out K3.out.size (by omega) (by omega) (by omega)).mono ?_
  rintro e w4 ⟨v4, rfl, hO4, hb4⟩
  have K4 := hid (K3.out.trans hb4.out)
  have P4 := hid (P1.out.below K4.out hlt)
  have b0 := P4.out.c0
  have b1 := P4.out.c1
  have b2 := P4.out.c2
  clear e0 e1 e2 P3 K3 O3 hb4
  go_wp2_with fail
  refine (putDigits_any (z := 2) hO4.out K4.out.size (by simp [be_length]; omega) (by omega) (by omega)).mono ?_
  rintro e w5 ⟨v5, rfl, hO5, hb5⟩
  have K5 := hid (K4.out.trans hb5.out)
  have P5 := hid (P1.out.below K5.out hlt)
  have e0 := P5.out.c0
  have e1 := P5.out.c1
  have e2 := P5.out.c2
  clear b0 b1 b2 P4 K4 hO4 hb5
  go_wp2_with fail
  refine (putDigits_any (z := 1) hO5.out K5.out.size (by simp [be_length]; omega) (by omega) (by omega)).mono ?_
  rintro e w6 ⟨v6, rfl, hO6, hb6⟩
  have K6 := hid (K5.out.trans hb6.out)
  have P6 := hid (P1.out.below K6.out hlt)
  have b0 := P6.out.c0
  have b1 := P6.out.c1
  have b2 := P6.out.c2
  clear e0 e1 e2 P5 K5 hO5 hb6
  go_wp2_with fail
  refine (putLimbs_any hO6.out K6.out.size (by simp [be_length]; omega) ((HR.out.below (B1.out.trans (K6.out.mono B1.out.size))).mono B1.out.size) (by omega)).mono ?_
  rintro e w7 ⟨v7, rfl, hO7, hb7⟩
  go_wp2
  go_ret2
  refine ⟨v7, rfl, hid ?_, hid (B1.out.trans ((K6.out.trans hb7.out).mono B1.out.size))⟩
  have h7 := hO7.out.mono B1.out.size
  rw [Hg.out] at h7
  simpa only [dtx, List.append_assoc] using h7

end Go.Proofs.Ytmaggpigodkhhaa
