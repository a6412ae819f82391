/- The document's Check, Of and Cmp of dyads; the program's Twin. -/
import Derived.Test.YtjppogmhibmebaaEplus
import Derived.Test.YtjppogmhibmebaaRof
import Derived.Test.YtjppogmhibmebaaDcmpa
namespace Go.Proofs.Ytjppogmhibmebaa
open Go.RowKit

set_option maxHeartbeats 1600000 in
theorem echeck_any {A : Option Addr} {n c : Nat} {f : Nat → Nat} {w : World} (h : Rd w w.heap.size A n c f) (s : Bool) (x : Int) :
    Calls Try.prog 10 #[.agg #[.bool s, .slice A n c, .int .i64 x]] w fun e w' => e = .returned (.int .i64 (dchk s n f x)) ∧ Hid (Below w.heap.size w w') := by
  have B0 := hid ((Below.refl w.heap.size w).alloc (Nat.le_refl _) (.cells #[.bool s, .slice A n c, .int .i64 x] 24))
  have CM := emay_any ((h.below B0.out).mono B0.out.size) s x
  by_cases hm : DMay s n f x
  · rw [bool_of_dec hm] at CM
    rw [show dchk s n f x = 0 from if_pos hm]
    have CM := hid CM
    clear h hm
    go_enter Try.func10, Try.ntmps10
    go_wp2_with fail
    refine CM.out.mono ?_
    rintro e w1 ⟨rfl, J⟩
    go_wp2
    go_ret
    exact ⟨rfl, B0.out.trans (J.out.mono B0.out.size)⟩
  · rw [bool_of_not hm] at CM
    rw [show dchk s n f x = 8 from if_neg hm]
    have CM := hid CM
    clear h hm
    go_enter Try.func10, Try.ntmps10
    go_wp2_with fail
    refine CM.out.mono ?_
    rintro e w1 ⟨rfl, J⟩
    go_wp2
    go_ret
    exact ⟨rfl, B0.out.trans (J.out.mono B0.out.size)⟩

set_option maxHeartbeats 3200000 in
theorem eof_any (n : Int) (hn : -9223372036854775808 ≤ n ∧ n ≤ 9223372036854775807) (w : World) :
    Calls Try.prog 13 #[.int .i64 n] w fun e w' => ∃ d, e = .returned d ∧ Hid (Dv w' (n * (tp 4000 : Int)) d) ∧ Hid (Below w.heap.size w w') := by
  have B0 := hid ((Below.refl w.heap.size w).alloc (Nat.le_refl _) (.cells #[.bool false, .slice none 0 0, .int .i64 0] 24))
  have D0 : Hid (Dbox _ w.heap.size false (.slice none 0 0) 0) := heap_alloc_new w (.cells #[.bool false, .slice none 0 0, .int .i64 0] 24)
  have key : ∀ (s : Bool) (m : Nat) (w1 : World) (A1 : Option Addr) (k1 c1 : Nat) (h1 : Nat → Nat), num s m = n → (m = 0 → s = false) → m ≤ 9223372036854775808 → Rd w1 w1.heap.size A1 k1 c1 h1 → (0 < k1 → h1 (k1 - 1) ≠ 0) → vl h1 k1 = m → Dv w1 (n * (tp 4000 : Int)) (.agg #[.bool s, .slice A1 k1 c1, .int .i64 0]) := by
    intro s m w1 A1 k1 c1 h1 hnm hs hm hr hl hv
    have hlt : m < pw 40 := by
      have a := pw_mono (j := 3) (k := 40) (by omega)
      have b : pw 3 = 79228162514264337593543950336 := by unfold pw; rfl
      omega
    refine ⟨s, _, 0, m, rfl, ⟨A1, k1, c1, h1, rfl, hr, ⟨(lm_40 hr.lt hl hv).2 hlt, hl⟩, hv⟩, ⟨fun h0 => ⟨hs h0, rfl⟩, fun h => absurd h (by omega)⟩, by omega, ?_⟩
    unfold dv
    rw [num_mul, hnm]
  have Key := hid key
  clear key
  by_cases h0 : n < 0
  · obtain ⟨m, hm, hm2, hm3⟩ : ∃ m : Nat, n = -(m : Int) ∧ m ≤ 9223372036854775808 ∧ 1 ≤ m := ⟨(-n).toNat, by omega, by omega, by omega⟩
    have C1 := hid (rOf_any m (by omega) (w.alloc (.cells #[.bool false, .slice none 0 0, .int .i64 0] 24)))
    have hw1 : IntKind.i64.wrap (n + 1) = n + 1 := IntWalk.i64_in _ (by omega)
    have hneg : wrap64 (-(n + 1)) = -(n + 1) := by unfold wrap64; omega
    have hw2 : IntKind.u64.wrap (-(n + 1)) = (m : Int) - 1 := by rw [IntKind.wrap_u64]; omega
    have hw3 : IntKind.u64.wrap ((m : Int) - 1 + 1) = (m : Int) := by rw [IntKind.wrap_u64]; omega
    have Hm := hid hm
    clear hm
    go_enter Try.func13, Try.ntmps13
    go_wp2_with fail
    refine C1.out.mono ?_
    rintro e w1 ⟨v, rfl, hb, A1, k1, c1, h1, rfl, hr, hl, hv⟩
    have Hb := hid hb
    have Hr := hid hr
    have Hl := hid hl
    have Hv := hid hv
    clear hb hr hl hv C1
    have P1 := hid (D0.out.below Hb.out D0.out.lt)
    have g0 := P1.out.frozen 0
    have g1 := P1.out.frozen 1
    have g2 := P1.out.frozen 2
    have b0 := P1.out.c0
    have b1 := P1.out.c1
    have b2 := P1.out.c2
    have B1 := hid (B0.out.trans (Hb.out.mono B0.out.size))
    go_wp2
    refine ret_one rfl rfl rfl (P1.out.store (t := true) (u := .slice A1 k1 c1) (y := 0)) ?_
    exact ⟨_, rfl, Key.out true m _ A1 k1 c1 h1 Hm.out.symm (fun h => by omega) hm2 (Hr.out.stay P1.out) Hl.out Hv.out, below_put3 B1.out (Nat.le_refl _)⟩
  · obtain ⟨m, rfl⟩ := Int.eq_ofNat_of_zero_le (show 0 ≤ n by omega)
    have C1 := hid (rOf_any m (by omega) (w.alloc (.cells #[.bool false, .slice none 0 0, .int .i64 0] 24)))
    have hw2 : IntKind.u64.wrap (m : Int) = (m : Int) := by rw [IntKind.wrap_u64]; omega
    go_enter Try.func13, Try.ntmps13
    go_wp2_with fail
    refine C1.out.mono ?_
    rintro e w1 ⟨v, rfl, hb, A1, k1, c1, h1, rfl, hr, hl, hv⟩
    have Hb := hid hb
    have Hr := hid hr
    have Hl := hid hl
    have Hv := hid hv
    clear hb hr hl hv C1
    have P1 := hid (D0.out.below Hb.out D0.out.lt)
    have g0 := P1.out.frozen 0
    have g1 := P1.out.frozen 1
    have g2 := P1.out.frozen 2
    have b0 := P1.out.c0
    have b1 := P1.out.c1
    have b2 := P1.out.c2
    have B1 := hid (B0.out.trans (Hb.out.mono B0.out.size))
    go_wp2
    refine ret_one rfl rfl rfl (P1.out.store (t := false) (u := .slice A1 k1 c1) (y := 0)) ?_
    exact ⟨_, rfl, Key.out false m _ A1 k1 c1 h1 rfl (fun _ => rfl) (by omega) (Hr.out.stay P1.out) Hl.out Hv.out, below_put3 B1.out (Nat.le_refl _)⟩

set_option maxHeartbeats 1600000 in
theorem clone_nil (w : World) : Calls Try.prog 25 #[.slice none 0 0] w fun e w' => e = .returned (.slice none 0 0) ∧ w = w' := by
  have hnil : ∀ w, (binOp .eql 22 (.slice none 0 0) (.slice none 0 0)).run Try.prog w = .ok (.bool true) w := fun w => Lib.run_eql_slice_nil w 22 48 none 0 0 0 0 Try.underlying22
  go_enter Try.func25, Try.ntmps25
  go_wp2
  go_ret
  exact ⟨rfl, rfl⟩
set_option maxHeartbeats 1600000 in
theorem clone_some {p : Addr} {n c : Nat} {f : Nat → Nat} {w : World} (h : Rd w w.heap.size (some p) n c f) (hn : n ≤ 42) :
    Calls Try.prog 25 #[.slice (some p) n c] w fun e w' => ∃ A' c', e = .returned (.slice A' n c') ∧ Hid (Mk w' 48 w.heap.size A' n c' f) ∧ Hid (Below w.heap.size w w') := by
  have Hcells := hid (cells_of_rd h)
  have H := hid h
  have hm := h.max
  have hnil : ∀ w, (binOp .eql 22 (.slice (some p) n c) (.slice none 0 0)).run Try.prog w = .ok (.bool false) w := fun w => Lib.run_eql_slice_nil w 22 48 (some p) n c 0 0 Try.underlying22
  clear h
  go_enter Try.func25, Try.ntmps25
  go_wp2_with (at_builtin; refine wpList_append_copy rfl (.tmp 5) (.tmp 6) 22 rfl 48 (.int .u32 0) 4 Try.underlying22 info_u32 rfl (by decide) rfl rfl (by simp) (fun h => by cases h) Hcells.out (by simp; intros; subst_vars; rfl) (by omega) ?_; intro v1 w1 hown1 hbel1)
  go_ret
  obtain ⟨A1, c1, rfl, hr1⟩ := mk_of_row hown1.out hm H.out.lt H.out.out
  exact ⟨_, _, rfl, hr1, hbel1⟩
theorem clone_any {A : Option Addr} {n c : Nat} {f : Nat → Nat} {w : World} (h : Rd w w.heap.size A n c f) (hnil : A = none → n = 0 ∧ c = 0) (hn : n ≤ 42) :
    Calls Try.prog 25 #[.slice A n c] w fun e w' => ∃ A' c', e = .returned (.slice A' n c') ∧ Hid (Mk w' 48 w.heap.size A' n c' f) ∧ Hid (Below w.heap.size w w') := by
  cases A with
  | none =>
    obtain ⟨rfl, rfl⟩ := hnil rfl
    refine (clone_nil w).mono ?_
    rintro e w' ⟨rfl, rfl⟩
    exact ⟨_, _, rfl, ⟨Nat.le_refl _, by omega, h.lt, h.out, .inl ⟨rfl, rfl, rfl⟩⟩, Below.refl _ _⟩
  | some p => exact clone_some h hn

set_option maxHeartbeats 1600000 in
theorem dtwin_any {A : Option Addr} {n c : Nat} {f : Nat → Nat} {w : World} (h : Rd w w.heap.size A n c f) (hnil : A = none → n = 0 ∧ c = 0) (hn : n ≤ 42) (s : Bool) (x : Int) :
    Calls Try.prog 8 #[.agg #[.bool s, .slice A n c, .int .i64 x]] w fun e w' => ∃ A' c', e = .returned (.agg #[.bool s, .slice A' n c', .int .i64 x]) ∧ Hid (Mk w' 48 w.heap.size A' n c' f) ∧ Hid (Below w.heap.size w w') := by
  have B0 := hid (((Below.refl w.heap.size w).alloc (Nat.le_refl _) (.cells #[.bool s, .slice A n c, .int .i64 x] 24)).alloc (by simp) (.cells #[.bool false, .slice none 0 0, .int .i64 0] 24))
  have P1 : Hid (Dbox _ (w.heap.size + 1) false (.slice none 0 0) 0) := heap_alloc2_new w (.cells #[.bool s, .slice A n c, .int .i64 x] 24) (.cells #[.bool false, .slice none 0 0, .int .i64 0] 24)
  have P0 : Hid (Dbox _ w.heap.size s (.slice A n c) x) := (Below.heap_alloc _ (.cells #[.bool false, .slice none 0 0, .int .i64 0] 24) _ (by simp)).trans (heap_alloc_new w (.cells #[.bool s, .slice A n c, .int .i64 x] 24))
  obtain ⟨W, hW⟩ : ∃ W, W = (w.alloc (.cells #[.bool s, .slice A n c, .int .i64 x] 24)).alloc (.cells #[.bool false, .slice none 0 0, .int .i64 0] 24) := ⟨_, rfl⟩
  have HS : Hid (w.heap.size + 2 = W.heap.size) := by rw [hW]; simp [Hid]
  have HW := hid hW
  rw [← hW] at B0 P1 P0
  have CC := hid (clone_any ((h.below B0.out).mono B0.out.size) hnil hn)
  clear h hnil hW
  have a0 := P0.out.c0
  have a1 := P0.out.c1
  have a2 := P0.out.c2
  go_enter Try.func8, Try.ntmps8
  go_upto_region 1 with fail
  rw [← HW.out]
  go_wp2_with fail
  refine CC.out.mono ?_
  rintro e w1 ⟨A1, c1, rfl, hr1, hbel1⟩
  have P0 := hid (P0.out.below hbel1.out P0.out.lt)
  have P1 := hid (P1.out.below hbel1.out P1.out.lt)
  have B1 := hid (B0.out.trans (hbel1.out.mono B0.out.size))
  have M1 := hid ((hr1.out.far (g := w.heap.size) (by have := HS.out; omega) 1 (.slice A1 n c1)))
  have b1 := P0.out.frozen 1
  have b2 := P0.out.c1
  have P0 := hid (P0.out.set1 (.slice A1 n c1))
  have P1 := hid (P1.out.far (k := w.heap.size) (by omega) 1 (.slice A1 n c1))
  have B1 := hid (B1.out.setCell (p := ⟨w.heap.size, 1, none⟩) (Nat.le_refl _) (.slice A1 n c1))
  have g0 := P1.out.frozen 0
  have g1 := P1.out.frozen 1
  have g2 := P1.out.frozen 2
  have e0 := P1.out.c0
  have e1 := P1.out.c1
  have e2 := P1.out.c2
  have d0 := P0.out.c0
  have d1 := P0.out.c1
  have d2 := P0.out.c2
  clear a0 a1 a2 CC hbel1
  go_wp2
  refine ret_one rfl rfl rfl (P1.out.store (t := s) (u := .slice A1 n c1) (y := x)) ?_
  exact ⟨_, _, rfl, (M1.out.put3 (by have := HS.out; omega)).mono (by have := HS.out; omega), below_put3 B1.out (by omega)⟩
/-- What a comparison tells when both may be. -/
theorem sbox_of {X w' : World} (hb : Below (X.alloc (.cells #[.bool false, .slice none 0 0] 43)).heap.size (X.alloc (.cells #[.bool false, .slice none 0 0] 43)) w') : ∃ g, g = X.heap.size ∧ Sbox w' g false (.slice none 0 0) :=
  ⟨_, rfl, Sbox.below (heap_alloc_new X _) hb (by simp)⟩
theorem Sg.alloc {w : World} {L : Nat} {M : Int} {v : Value} (h : Sg w L M v) (o : Obj) : Sg (w.alloc o) L M v := h.below ((Below.refl _ _).alloc (Nat.le_refl _) o)
theorem Sg.below2 {w w' : World} {L : Nat} {M : Int} {v : Value} {o : Obj} (h : Sg w L M v) (hb : Below (w.alloc o).heap.size (w.alloc o) w') : Sg w' L M v := (h.alloc o).below hb


set_option maxHeartbeats 3200000 in
theorem ecmp_bad {w : World} {A D : Option Addr} {n c k d : Nat} {f h : Nat → Nat} {s t : Bool} {x y : Int} (ha : Rd w w.heap.size A n c f) (hb : Rd w w.heap.size D k d h) (hbad : ¬ (DMay s n f x ∧ DMay t k h y)) :
    Calls Try.prog 7 #[.agg #[.bool s, .slice A n c, .int .i64 x], .agg #[.bool t, .slice D k d, .int .i64 y]] w fun e w' => e = .returned (.tuple #[.int .i64 0, .int .i64 8]) ∧ Hid (Below w.heap.size w w') := by
  have B0 := hid (((Below.refl w.heap.size w).alloc (Nat.le_refl _) (.cells #[.bool s, .slice A n c, .int .i64 x] 24)).alloc (by simp) (.cells #[.bool t, .slice D k d, .int .i64 y] 24))
  have P0 : Hid (Dbox _ w.heap.size s (.slice A n c) x) := (Below.heap_alloc _ (.cells #[.bool t, .slice D k d, .int .i64 y] 24) _ (by simp)).trans (heap_alloc_new w (.cells #[.bool s, .slice A n c, .int .i64 x] 24))
  have P1 : Hid (Dbox _ (w.heap.size + 1) t (.slice D k d) y) := heap_alloc2_new w (.cells #[.bool s, .slice A n c, .int .i64 x] 24) (.cells #[.bool t, .slice D k d, .int .i64 y] 24)
  obtain ⟨W0, hW⟩ : ∃ W0, W0 = (w.alloc (.cells #[.bool s, .slice A n c, .int .i64 x] 24)).alloc (.cells #[.bool t, .slice D k d, .int .i64 y] 24) := ⟨_, rfl⟩
  have HW := hid hW
  rw [← hW] at B0 P0 P1
  clear hW
  have CA := emay_any ((ha.below B0.out).mono B0.out.size) s x
  have a0 := P0.out.c0
  have a1 := P0.out.c1
  have a2 := P0.out.c2
  have b0 := P1.out.c0
  have b1 := P1.out.c1
  have b2 := P1.out.c2
  by_cases hm : DMay s n f x
  · have hm2 : ¬ DMay t k h y := fun h2 => hbad ⟨hm, h2⟩
    rw [bool_of_dec hm] at CA
    have CA := hid CA
    have HBB := hid ((hb.below B0.out).mono B0.out.size)
    have Hm2 := hid hm2
    clear hm hm2 hbad ha hb
    go_enter Try.func7, Try.ntmps7
    go_upto_region 1 with fail
    rw [← HW.out]
    go_wp2_with fail
    refine CA.out.mono ?_
    clear HW
    rintro e w1 ⟨rfl, J⟩
    have CB := emay_any ((HBB.out.below J.out).mono J.out.size) t y
    rw [bool_of_not Hm2.out] at CB
    have CB := hid CB
    have P1 := hid (P1.out.below J.out P1.out.lt)
    have B0 := hid (B0.out.trans (J.out.mono B0.out.size))
    clear J a0 a1 a2 b0 b1 b2
    have b0 := P1.out.c0
    have b1 := P1.out.c1
    have b2 := P1.out.c2
    go_wp2_with fail
    refine CB.out.mono ?_
    rintro e w2 ⟨rfl, J⟩
    have B0 := hid (B0.out.trans (J.out.mono B0.out.size))
    clear J b0 b1 b2
    go_wp2
    go_ret2
    exact ⟨rfl, B0⟩
  · rw [bool_of_not hm] at CA
    have CA := hid CA
    clear hm hbad ha hb
    go_enter Try.func7, Try.ntmps7
    go_upto_region 1 with fail
    rw [← HW.out]
    go_wp2_with fail
    refine CA.out.mono ?_
    clear HW
    rintro e w1 ⟨rfl, J⟩
    have B0 := hid (B0.out.trans (J.out.mono B0.out.size))
    clear J a0 a1 a2 b0 b1 b2
    go_wp2
    go_ret2
    exact ⟨rfl, B0⟩

theorem cmp_sign {s : Bool} {V E : Nat} {M N : Int} (h : num s V * (tp (4000 - E) : Int) = M - N) : (V = 0 → cmpI M N = 0) ∧ (V ≠ 0 → s = true → cmpI M N = -1) ∧ (V ≠ 0 → s = false → cmpI M N = 1) := by
  have hp := tp_pos (4000 - E)
  rw [← num_mul] at h
  refine ⟨fun h0 => ?_, fun h0 hs => ?_, fun h0 hs => ?_⟩
  · subst h0
    rw [Nat.zero_mul, num_zero] at h
    exact cmpI_eq (by omega)
  · subst hs
    have := Nat.mul_pos (Nat.pos_of_ne_zero h0) hp
    generalize V * tp (4000 - E) = z at *
    have h1 : num true z = -(z : Int) := rfl
    exact cmpI_lt (by omega)
  · subst hs
    have := Nat.mul_pos (Nat.pos_of_ne_zero h0) hp
    generalize V * tp (4000 - E) = z at *
    have h1 : num false z = (z : Int) := rfl
    exact cmpI_gt (by omega)

set_option maxHeartbeats 12800000 in
theorem ecmp_ok {w : World} {A D : Option Addr} {n c k d : Nat} {f h : Nat → Nat} {s t : Bool} {X Y : Nat} (ha : Rd w w.heap.size A n c f) (hb : Rd w w.heap.size D k d h) (ma : DMay s n f (X : Int)) (mb : DMay t k h (Y : Int)) :
    Calls Try.prog 7 #[.agg #[.bool s, .slice A n c, .int .i64 (X : Int)], .agg #[.bool t, .slice D k d, .int .i64 (Y : Int)]] w fun e w' => e = .returned (.tuple #[.int .i64 (cmpI (dv s (vl f n) X) (dv t (vl h k) Y)), .int .i64 0]) ∧ Hid (Below w.heap.size w w') := by
  have B0 := hid (((Below.refl w.heap.size w).alloc (Nat.le_refl _) (.cells #[.bool s, .slice A n c, .int .i64 (X : Int)] 24)).alloc (by simp) (.cells #[.bool t, .slice D k d, .int .i64 (Y : Int)] 24))
  have P0 : Hid (Dbox _ w.heap.size s (.slice A n c) (X : Int)) := (Below.heap_alloc _ (.cells #[.bool t, .slice D k d, .int .i64 (Y : Int)] 24) _ (by simp)).trans (heap_alloc_new w (.cells #[.bool s, .slice A n c, .int .i64 (X : Int)] 24))
  have P1 : Hid (Dbox _ (w.heap.size + 1) t (.slice D k d) (Y : Int)) := heap_alloc2_new w (.cells #[.bool s, .slice A n c, .int .i64 (X : Int)] 24) (.cells #[.bool t, .slice D k d, .int .i64 (Y : Int)] 24)
  obtain ⟨W0, hW⟩ : ∃ W0, W0 = (w.alloc (.cells #[.bool s, .slice A n c, .int .i64 (X : Int)] 24)).alloc (.cells #[.bool t, .slice D k d, .int .i64 (Y : Int)] 24) := ⟨_, rfl⟩
  have HW := hid hW
  rw [← hW] at B0 P0 P1
  clear hW
  have CA := emay_any ((ha.below B0.out).mono B0.out.size) s (X : Int)
  rw [bool_of_dec ma] at CA
  have CA := hid CA
  have HA0 := hid ((ha.below B0.out).mono B0.out.size)
  have HB0 := hid ((hb.below B0.out).mono B0.out.size)
  have Hma := hid ma
  have Hmb := hid mb
  obtain ⟨E, hE⟩ : ∃ E : Nat, E = max X Y := ⟨_, rfl⟩
  have hmax : max (X : Int) (Y : Int) = (E : Int) := by omega
  obtain ⟨j1, hj1⟩ : ∃ j, E = X + j := ⟨E - X, by omega⟩
  obtain ⟨j2, hj2⟩ : ∃ j, E = Y + j := ⟨E - Y, by omega⟩
  have hX4 : X ≤ 1024 := by have := ma.2.2.1; omega
  have hY4 : Y ≤ 1024 := by have := mb.2.2.1; omega
  have hE4 : E ≤ 1024 := by omega
  have hj14 : j1 ≤ 1280 := by omega
  have hj24 : j2 ≤ 1280 := by omega
  have hmn : DMay (if k = 0 then t else !t) k h (Y : Int) := by
    by_cases hk : k = 0
    · rw [if_pos hk]; exact mb
    · rw [if_neg hk]; exact ⟨mb.1, mb.2.1, mb.2.2.1, fun h => absurd h hk, mb.2.2.2.2⟩
  have hkm := hb.max
  have hsc : (num s (vl f n * tw j1) + num (if k = 0 then t else !t) (vl h k * tw j2)) * (tp (4000 - E) : Int) = dv s (vl f n) X - dv t (vl h k) Y := by
    have h2 : dv (if k = 0 then t else !t) (vl h k) Y = - dv t (vl h k) Y := by
      by_cases hk : k = 0
      · subst hk
        simp [vl, dv, num_zero]
      · rw [if_neg hk]
        exact num_neg t _
    have h3 := sum_scaled (s := s) (t := if k = 0 then t else !t) (V := vl f n) (U := vl h k) (by omega : X ≤ E) (by omega : Y ≤ E) (by omega : E ≤ 4000)
    rw [show E - X = j1 by omega, show E - Y = j2 by omega, h2] at h3
    have h4 : (num s (vl f n * tw j1) + num (if k = 0 then t else !t) (vl h k * tw j2)) * (tp (4000 - E) : Int) = dv s (vl f n) X + - dv t (vl h k) Y := h3.symm
    omega
  have CN := fun (w' : World) => eminus_any t D k d (Y : Int) w' hkm
  obtain ⟨tn, htn⟩ : ∃ tn, tn = (if k = 0 then t else !t) := ⟨_, rfl⟩
  rw [← htn] at hsc hmn CN
  obtain ⟨M, hM⟩ : ∃ M, M = dv s (vl f n) X := ⟨_, rfl⟩
  obtain ⟨N, hN⟩ : ∃ N, N = dv t (vl h k) Y := ⟨_, rfl⟩
  rw [← hM, ← hN] at hsc ⊢
  have CN := hid CN
  have Hsc := hid hsc
  have Hj1 := hid hj1
  have Hj2 := hid hj2
  have Hmn := hid hmn
  clear hE hj1 hj2 hsc hmn htn hM hN ma mb ha hb
  have a0 := P0.out.c0
  have a1 := P0.out.c1
  have a2 := P0.out.c2
  go_enter Try.func7, Try.ntmps7
  go_upto_region 1 with fail
  rw [← HW.out]
  go_wp2_with fail
  refine CA.out.mono ?_
  clear HW
  rintro e w1 ⟨rfl, J⟩
  have CB := emay_any ((HB0.out.below J.out).mono J.out.size) t (Y : Int)
  rw [bool_of_dec Hmb.out] at CB
  have CB := hid CB
  have HA0 := hid ((HA0.out.below J.out).mono J.out.size)
  have HB0 := hid ((HB0.out.below J.out).mono J.out.size)
  have P0 := hid (P0.out.below J.out P0.out.lt)
  have P1 := hid (P1.out.below J.out P1.out.lt)
  have B0 := hid (B0.out.trans (J.out.mono B0.out.size))
  clear J a0 a1 a2 CA
  have b0 := P1.out.c0
  have b1 := P1.out.c1
  have b2 := P1.out.c2
  go_wp2_with fail
  refine CB.out.mono ?_
  rintro e W ⟨rfl, J⟩
  have HA0 := hid ((HA0.out.below J.out).mono J.out.size)
  have HB0 := hid ((HB0.out.below J.out).mono J.out.size)
  have P0 := hid (P0.out.below J.out P0.out.lt)
  have P1 := hid (P1.out.below J.out P1.out.lt)
  have B0 := hid (B0.out.trans (J.out.mono B0.out.size))
  clear J b0 b1 b2 CB
  have a0 := P0.out.c0
  have a1 := P0.out.c1
  have a2 := P0.out.c2
  have b0 := P1.out.c0
  have b1 := P1.out.c1
  have b2 := P1.out.c2
  go_upto_region 4 with fail
  clear a0 a1 a2 b0 b1 b2
  have CF : Hid (∀ w', Below W.heap.size W w' → w'.cell? ⟨w.heap.size, 0, none⟩ = some (.bool s) ∧ w'.cell? ⟨w.heap.size, 1, none⟩ = some (.slice A n c) ∧ w'.cell? ⟨w.heap.size, 2, none⟩ = some (.int .i64 (X : Int)) ∧ w'.cell? ⟨w.heap.size + 1, 0, none⟩ = some (.bool t) ∧ w'.cell? ⟨w.heap.size + 1, 1, none⟩ = some (.slice D k d) ∧ w'.cell? ⟨w.heap.size + 1, 2, none⟩ = some (.int .i64 (Y : Int))) :=
    fun w' hb => ⟨(P0.out.below hb P0.out.lt).c0, (P0.out.below hb P0.out.lt).c1, (P0.out.below hb P0.out.lt).c2, (P1.out.below hb P1.out.lt).c0, (P1.out.below hb P1.out.lt).c1, (P1.out.below hb P1.out.lt).c2⟩
  have CN2 := hid (fun (w' : World) (_hb : Below W.heap.size W w') => CN.out w')
  have CIa := hid (fun (w' : World) (hb : Below W.heap.size W w') => ein_any ((HA0.out.below hb).mono hb.size) Hma.out.1 Hj1.out hj14 s)
  have CIb := hid (fun (w' : World) (hb : Below W.heap.size W w') => ein_any ((HB0.out.below hb).mono hb.size) Hmn.out.1 Hj2.out hj24 tn)
  clear P0 P1
  have HBz := hid ((Below.refl W.heap.size W).drew)
  go_region_held3 (fun w' => w'.cell? ⟨w.heap.size, 0, none⟩ = some (.bool s) ∧ w'.cell? ⟨w.heap.size, 1, none⟩ = some (.slice A n c) ∧ w'.cell? ⟨w.heap.size, 2, none⟩ = some (.int .i64 (X : Int)) ∧ w'.cell? ⟨w.heap.size + 1, 0, none⟩ = some (.bool t) ∧ w'.cell? ⟨w.heap.size + 1, 1, none⟩ = some (.slice D k d) ∧ w'.cell? ⟨w.heap.size + 1, 2, none⟩ = some (.int .i64 (Y : Int)))
    (first | exact CF.out _ HBz.out | exact CF.out _ (HBz.out.alloc HBz.out.size _) | exact CF.out _ (below_put2 HBz.out Hgl.out))
    (first
    | (go_at_call_of 22 (Value.agg #[Value.bool s, Value.slice A n c, Value.int IntKind.i64 (X : Int)])
       first
         | refine (CIa.out _ HBz.out).mono ?_
         | refine (CIa.out _ (HBz.out.alloc HBz.out.size _)).mono ?_
       rintro e wx ⟨va, rfl, SA, Ba⟩
       first
         | (obtain ⟨gx, hgx, Px0⟩ := sbox_of Ba.out
            have Px := hid Px0
            have Hgl := hid (show W.heap.size ≤ gx by rw [hgx]; exact HBz.out.size)
            first
              | rw [← hgx]
              | (rw [show W.drew.heap.size = W.heap.size from rfl] at hgx
                 rw [← hgx])
            clear hgx Px0)
         | (have Px := hid (Px.out.below Ba.out Px.out.lt))
         | skip
       have HBz := hid (by first | exact HBz.out.trans (Ba.out.mono HBz.out.size) | exact (HBz.out.alloc HBz.out.size _).trans (Ba.out.mono (HBz.out.alloc HBz.out.size _).size)))
    | (go_at_call 23
       first
         | refine (CN2.out _ HBz.out).mono ?_
         | refine (CN2.out _ (HBz.out.alloc HBz.out.size _)).mono ?_
       rintro e wx ⟨rfl, Ba⟩
       first
         | (obtain ⟨gx, hgx, Px0⟩ := sbox_of Ba.out
            have Px := hid Px0
            have Hgl := hid (show W.heap.size ≤ gx by rw [hgx]; exact HBz.out.size)
            first
              | rw [← hgx]
              | (rw [show W.drew.heap.size = W.heap.size from rfl] at hgx
                 rw [← hgx])
            clear hgx Px0)
         | (have Px := hid (Px.out.below Ba.out Px.out.lt))
         | skip
       have HBz := hid (by first | exact HBz.out.trans (Ba.out.mono HBz.out.size) | exact (HBz.out.alloc HBz.out.size _).trans (Ba.out.mono (HBz.out.alloc HBz.out.size _).size))
       try (replace SA := hid (by first | exact SA.out.below Ba.out | exact SA.out.below2 Ba.out)))
    | (go_at_call_of 22 (Value.agg #[Value.bool tn, Value.slice D k d, Value.int IntKind.i64 (Y : Int)])
       first
         | refine (CIb.out _ HBz.out).mono ?_
         | refine (CIb.out _ (HBz.out.alloc HBz.out.size _)).mono ?_
       rintro e wx ⟨vb, rfl, SB, Ba⟩
       first
         | (obtain ⟨gx, hgx, Px0⟩ := sbox_of Ba.out
            have Px := hid Px0
            have Hgl := hid (show W.heap.size ≤ gx by rw [hgx]; exact HBz.out.size)
            first
              | rw [← hgx]
              | (rw [show W.drew.heap.size = W.heap.size from rfl] at hgx
                 rw [← hgx])
            clear hgx Px0)
         | (have Px := hid (Px.out.below Ba.out Px.out.lt))
         | skip
       have HBz := hid (by first | exact HBz.out.trans (Ba.out.mono HBz.out.size) | exact (HBz.out.alloc HBz.out.size _).trans (Ba.out.mono (HBz.out.alloc HBz.out.size _).size))
       try (replace SA := hid (by first | exact SA.out.below Ba.out | exact SA.out.below2 Ba.out)))
    | (go_at_call 21
       first
         | refine (eplus_any SA.out SB.out (by omega)).mono ?_
         | refine (eplus_any (SA.out.alloc _) (SB.out.alloc _) (by omega)).mono ?_
       rintro e wx ⟨vp, rfl, SP, Ba⟩
       first
         | (obtain ⟨gx, hgx, Px0⟩ := sbox_of Ba.out
            have Px := hid Px0
            have Hgl := hid (show W.heap.size ≤ gx by rw [hgx]; exact HBz.out.size)
            first
              | rw [← hgx]
              | (rw [show W.drew.heap.size = W.heap.size from rfl] at hgx
                 rw [← hgx])
            clear hgx Px0)
         | (have Px := hid (Px.out.below Ba.out Px.out.lt))
         | skip
       have HBz := hid (by first | exact HBz.out.trans (Ba.out.mono HBz.out.size) | exact (HBz.out.alloc HBz.out.size _).trans (Ba.out.mono (HBz.out.alloc HBz.out.size _).size))
       obtain ⟨sp, Ap, np, cp, Np, rfl, HBp, HLp, HNp⟩ := SP.out
       have HBp := hid HBp
       have HNp := hid HNp
       have HLp := hid HLp
       first
         | (have z0 := Px.out.c0
            have z1 := Px.out.c1
            have y0 := Px.out.frozen 0
            have y1 := Px.out.frozen 1)
         | skip))
  all_goals
    clear CIa CIb CN2 CF SA SB
    first
      | (clear z0 z1 y0 y1
         obtain ⟨WW, hWW⟩ : ∃ X, X = put2 wx gx sp (.slice Ap np cp) := ⟨_, rfl⟩
         have PX : Hid (Sbox WW gx sp (.slice Ap np cp)) := by rw [hWW]; exact Px.out.store
         have DD : Hid (Bt WW wx.heap.size Np (.slice Ap np cp)) := by rw [hWW]; exact HBp.out.stay Px.out
         have BW : Hid (Below W.heap.size W WW) := by rw [hWW]; exact below_put2 HBz.out Hgl.out
         unfold put2 at hWW
         rw [← hWW])
      | (obtain ⟨WW, hWW⟩ : ∃ X, X = wx.alloc (.cells #[.bool sp, .slice Ap np cp] 43) := ⟨_, rfl⟩
         have PX : Hid (Sbox WW wx.heap.size sp (.slice Ap np cp)) := by rw [hWW]; exact heap_alloc_new _ _
         have DD : Hid (Bt WW wx.heap.size Np (.slice Ap np cp)) := by rw [hWW]; exact HBp.out.below ((Below.refl _ _).alloc (Nat.le_refl _) _)
         have BW : Hid (Below W.heap.size W WW) := by rw [hWW]; exact HBz.out.alloc HBz.out.size _
         rw [← hWW])
    clear hWW
    have p0 := PX.out.c0
    have p1 := PX.out.c1
    have B1 := hid (B0.out.trans (BW.out.mono B0.out.size))
    have hcs := cmp_sign (s := sp) (V := Np) (E := E) (M := M) (N := N) (by rw [HNp.out]; exact Hsc.out)
    have Hcs := hid hcs
    obtain ⟨A9, n9, c9, hv9, hr9, hl9⟩ := DD.out
    injection hv9 with e1 e2 e3
    subst e1 e2 e3
    have CC := hid (rcut_at hr9)
    clear hcs hr9 hl9
    go_wp2_with fail
    refine CC.out.mono ?_
    rintro e w' ⟨m, rfl, rfl, Hb⟩
    obtain ⟨d1, d2, d3, d4⟩ := Hb.dims
    rcases Nat.eq_zero_or_pos m with hm | hm
    · subst hm
      have Hr := hid (Hcs.out.1 (d3 rfl))
      clear d3 d4 Hb CC
      go_wp2
      go_ret2
      exact ⟨by rw [Hr.out]; rfl, B1⟩
    · have hm0 : ((m : Int) == 0) = false := by simp; omega
      have hV := d4 hm
      cases sp with
      | true =>
        have Hr := hid (Hcs.out.2.1 hV rfl)
        clear d3 d4 Hb CC hV
        go_wp2
        go_ret2
        exact ⟨by rw [Hr.out]; rfl, B1⟩
      | false =>
        have Hr := hid (Hcs.out.2.2 hV rfl)
        clear d3 d4 Hb CC hV
        go_wp2
        go_ret2
        exact ⟨by rw [Hr.out]; rfl, B1⟩

theorem ecmp_any {w : World} {p q : Prop} {M N : Int} {v u : Value} (h1 : DArg w p M v) (h2 : DArg w q N u) : Calls Try.prog 7 #[v, u] w (CRes w (p ∧ q) M N) := by
  obtain ⟨s, A, n, c, f, x, rfl, hr, hp, hM⟩ := h1
  obtain ⟨t, D, k, d, h, y, rfl, hs, hq, hN⟩ := h2
  by_cases hpq : p ∧ q
  · obtain ⟨X, rfl, rfl⟩ := hM hpq.1
    obtain ⟨Y, rfl, rfl⟩ := hN hpq.2
    refine (ecmp_ok hr hs (hp.1 hpq.1) (hq.1 hpq.2)).mono ?_
    rintro e w' ⟨rfl, HB⟩
    exact ⟨_, _, rfl, ⟨fun _ => ⟨rfl, rfl⟩, fun hn => absurd hpq hn⟩, HB⟩
  · refine (ecmp_bad hr hs (fun h => hpq ⟨hp.2 h.1, hq.2 h.2⟩)).mono ?_
    rintro e w' ⟨rfl, HB⟩
    exact ⟨_, _, rfl, ⟨fun h => absurd h hpq, fun _ => ⟨rfl, rfl⟩⟩, HB⟩

end Go.Proofs.Ytjppogmhibmebaa
