/- Masses: what is too great; the law's half, alive. -/
import Derived.Test.YtijcnabhpneaiaaDoorMseed
namespace Go.Proofs.YtijcnabhpneaiaaDoor
open Go.RowKit Go.Shelf

/-- A mass that is more than statements go through. -/
def MGr (D : Nat → Dy) : Prop := ∃ k, k < 4 ∧ (42 < (D k).n ∨ 1100 < (D k).x)

set_option maxHeartbeats 1600000 in
theorem mgreat_any {w : World} {D : Nat → Dy} (hn : ∀ k, k < 4 → (D k).n ≤ 140737488355328) :
    Calls Tryd.prog 25 #[.agg (mcells D)] w fun e w' => ∃ r : Bool, e = .returned (.bool r) ∧ Hid (r = true ↔ MGr D) ∧ Hid (Below w.heap.size w w') := by
  obtain ⟨W, hW⟩ : ∃ W, W = w.alloc (.cells (mcells D) 37) := ⟨_, rfl⟩
  have HW := hid hW
  have K := hid (show Below w.heap.size w W from hW ▸ (Below.refl _ w).alloc (Nat.le_refl _) _)
  have P := hid (show Mbox W w.heap.size D from hW ▸ heap_alloc_new w _)
  have Hn := hid hn
  clear hW hn
  by_cases h0 : 42 < (D 0).n ∨ 1100 < (D 0).x
  · replace h0 := hid h0
    go_enter Tryd.func25, Tryd.ntmps25
    go_upto_region 1 with fail
    rw [← HW.out]
    have a0 := P.out.at_ 0 _ rfl
    have a1 := P.out.at_ 1 _ rfl
    have a2 := P.out.at_ 2 _ rfl
    go_wp2_with fail
    refine (dgreat_any _ _ _ _ _ _ (Hn.out 0 (by omega))).mono ?_
    rintro e w0 ⟨rfl, hb⟩
    rw [bool_of_dec h0.out]
    clear a0 a1 a2
    replace K := hid (K.out.trans (hb.out.mono K.out.size))
    replace P := hid (P.out.below hb.out P.out.lt)
    clear hb
    go_wp2
    go_ret
    exact ⟨true, rfl, ⟨fun _ => ⟨0, by omega, h0.out⟩, fun _ => rfl⟩, K.out⟩
  · replace h0 := hid h0
    by_cases h1 : 42 < (D 1).n ∨ 1100 < (D 1).x
    · replace h1 := hid h1
      go_enter Tryd.func25, Tryd.ntmps25
      go_upto_region 1 with fail
      rw [← HW.out]
      have a0 := P.out.at_ 0 _ rfl
      have a1 := P.out.at_ 1 _ rfl
      have a2 := P.out.at_ 2 _ rfl
      go_wp2_with fail
      refine (dgreat_any _ _ _ _ _ _ (Hn.out 0 (by omega))).mono ?_
      rintro e w0 ⟨rfl, hb⟩
      rw [bool_of_not h0.out]
      clear a0 a1 a2
      replace K := hid (K.out.trans (hb.out.mono K.out.size))
      replace P := hid (P.out.below hb.out P.out.lt)
      clear hb
      have a0 := P.out.at_ 3 _ rfl
      have a1 := P.out.at_ 4 _ rfl
      have a2 := P.out.at_ 5 _ rfl
      go_wp2_with fail
      refine (dgreat_any _ _ _ _ _ _ (Hn.out 1 (by omega))).mono ?_
      rintro e w1 ⟨rfl, hb⟩
      rw [bool_of_dec h1.out]
      clear a0 a1 a2
      replace K := hid (K.out.trans (hb.out.mono K.out.size))
      replace P := hid (P.out.below hb.out P.out.lt)
      clear hb
      go_wp2
      go_ret
      exact ⟨true, rfl, ⟨fun _ => ⟨1, by omega, h1.out⟩, fun _ => rfl⟩, K.out⟩
    · replace h1 := hid h1
      by_cases h2 : 42 < (D 2).n ∨ 1100 < (D 2).x
      · replace h2 := hid h2
        go_enter Tryd.func25, Tryd.ntmps25
        go_upto_region 1 with fail
        rw [← HW.out]
        have a0 := P.out.at_ 0 _ rfl
        have a1 := P.out.at_ 1 _ rfl
        have a2 := P.out.at_ 2 _ rfl
        go_wp2_with fail
        refine (dgreat_any _ _ _ _ _ _ (Hn.out 0 (by omega))).mono ?_
        rintro e w0 ⟨rfl, hb⟩
        rw [bool_of_not h0.out]
        clear a0 a1 a2
        replace K := hid (K.out.trans (hb.out.mono K.out.size))
        replace P := hid (P.out.below hb.out P.out.lt)
        clear hb
        have a0 := P.out.at_ 3 _ rfl
        have a1 := P.out.at_ 4 _ rfl
        have a2 := P.out.at_ 5 _ rfl
        go_wp2_with fail
        refine (dgreat_any _ _ _ _ _ _ (Hn.out 1 (by omega))).mono ?_
        rintro e w1 ⟨rfl, hb⟩
        rw [bool_of_not h1.out]
        clear a0 a1 a2
        replace K := hid (K.out.trans (hb.out.mono K.out.size))
        replace P := hid (P.out.below hb.out P.out.lt)
        clear hb
        have a0 := P.out.at_ 6 _ rfl
        have a1 := P.out.at_ 7 _ rfl
        have a2 := P.out.at_ 8 _ rfl
        go_wp2_with fail
        refine (dgreat_any _ _ _ _ _ _ (Hn.out 2 (by omega))).mono ?_
        rintro e w2 ⟨rfl, hb⟩
        rw [bool_of_dec h2.out]
        clear a0 a1 a2
        replace K := hid (K.out.trans (hb.out.mono K.out.size))
        replace P := hid (P.out.below hb.out P.out.lt)
        clear hb
        go_wp2
        go_ret
        exact ⟨true, rfl, ⟨fun _ => ⟨2, by omega, h2.out⟩, fun _ => rfl⟩, K.out⟩
      · replace h2 := hid h2
        by_cases h3 : 42 < (D 3).n ∨ 1100 < (D 3).x
        · replace h3 := hid h3
          go_enter Tryd.func25, Tryd.ntmps25
          go_upto_region 1 with fail
          rw [← HW.out]
          have a0 := P.out.at_ 0 _ rfl
          have a1 := P.out.at_ 1 _ rfl
          have a2 := P.out.at_ 2 _ rfl
          go_wp2_with fail
          refine (dgreat_any _ _ _ _ _ _ (Hn.out 0 (by omega))).mono ?_
          rintro e w0 ⟨rfl, hb⟩
          rw [bool_of_not h0.out]
          clear a0 a1 a2
          replace K := hid (K.out.trans (hb.out.mono K.out.size))
          replace P := hid (P.out.below hb.out P.out.lt)
          clear hb
          have a0 := P.out.at_ 3 _ rfl
          have a1 := P.out.at_ 4 _ rfl
          have a2 := P.out.at_ 5 _ rfl
          go_wp2_with fail
          refine (dgreat_any _ _ _ _ _ _ (Hn.out 1 (by omega))).mono ?_
          rintro e w1 ⟨rfl, hb⟩
          rw [bool_of_not h1.out]
          clear a0 a1 a2
          replace K := hid (K.out.trans (hb.out.mono K.out.size))
          replace P := hid (P.out.below hb.out P.out.lt)
          clear hb
          have a0 := P.out.at_ 6 _ rfl
          have a1 := P.out.at_ 7 _ rfl
          have a2 := P.out.at_ 8 _ rfl
          go_wp2_with fail
          refine (dgreat_any _ _ _ _ _ _ (Hn.out 2 (by omega))).mono ?_
          rintro e w2 ⟨rfl, hb⟩
          rw [bool_of_not h2.out]
          clear a0 a1 a2
          replace K := hid (K.out.trans (hb.out.mono K.out.size))
          replace P := hid (P.out.below hb.out P.out.lt)
          clear hb
          have a0 := P.out.at_ 9 _ rfl
          have a1 := P.out.at_ 10 _ rfl
          have a2 := P.out.at_ 11 _ rfl
          go_wp2_with fail
          refine (dgreat_any _ _ _ _ _ _ (Hn.out 3 (by omega))).mono ?_
          rintro e w3 ⟨rfl, hb⟩
          rw [bool_of_dec h3.out]
          clear a0 a1 a2
          replace K := hid (K.out.trans (hb.out.mono K.out.size))
          replace P := hid (P.out.below hb.out P.out.lt)
          clear hb
          go_wp2
          go_ret
          exact ⟨true, rfl, ⟨fun _ => ⟨3, by omega, h3.out⟩, fun _ => rfl⟩, K.out⟩
        · replace h3 := hid h3
          go_enter Tryd.func25, Tryd.ntmps25
          go_upto_region 1 with fail
          rw [← HW.out]
          have a0 := P.out.at_ 0 _ rfl
          have a1 := P.out.at_ 1 _ rfl
          have a2 := P.out.at_ 2 _ rfl
          go_wp2_with fail
          refine (dgreat_any _ _ _ _ _ _ (Hn.out 0 (by omega))).mono ?_
          rintro e w0 ⟨rfl, hb⟩
          rw [bool_of_not h0.out]
          clear a0 a1 a2
          replace K := hid (K.out.trans (hb.out.mono K.out.size))
          replace P := hid (P.out.below hb.out P.out.lt)
          clear hb
          have a0 := P.out.at_ 3 _ rfl
          have a1 := P.out.at_ 4 _ rfl
          have a2 := P.out.at_ 5 _ rfl
          go_wp2_with fail
          refine (dgreat_any _ _ _ _ _ _ (Hn.out 1 (by omega))).mono ?_
          rintro e w1 ⟨rfl, hb⟩
          rw [bool_of_not h1.out]
          clear a0 a1 a2
          replace K := hid (K.out.trans (hb.out.mono K.out.size))
          replace P := hid (P.out.below hb.out P.out.lt)
          clear hb
          have a0 := P.out.at_ 6 _ rfl
          have a1 := P.out.at_ 7 _ rfl
          have a2 := P.out.at_ 8 _ rfl
          go_wp2_with fail
          refine (dgreat_any _ _ _ _ _ _ (Hn.out 2 (by omega))).mono ?_
          rintro e w2 ⟨rfl, hb⟩
          rw [bool_of_not h2.out]
          clear a0 a1 a2
          replace K := hid (K.out.trans (hb.out.mono K.out.size))
          replace P := hid (P.out.below hb.out P.out.lt)
          clear hb
          have a0 := P.out.at_ 9 _ rfl
          have a1 := P.out.at_ 10 _ rfl
          have a2 := P.out.at_ 11 _ rfl
          go_wp2_with fail
          refine (dgreat_any _ _ _ _ _ _ (Hn.out 3 (by omega))).mono ?_
          rintro e w3 ⟨rfl, hb⟩
          rw [bool_of_not h3.out]
          clear a0 a1 a2
          replace K := hid (K.out.trans (hb.out.mono K.out.size))
          replace P := hid (P.out.below hb.out P.out.lt)
          clear hb
          go_wp2
          go_ret
          exact ⟨false, rfl, ⟨(fun h => by cases h), fun ⟨k, hk, hg⟩ => absurd hg (all_of4 (P := fun k => ¬ (42 < (D k).n ∨ 1100 < (D k).x)) h0.out h1.out h2.out h3.out k hk)⟩, K.out⟩

theorem dhalf_own {w : World} {q : Prop} {M H : Int} {v : Value} (h : DArg w q M v) (hq : q) (hT : Tab w) (hH : 2 * H = M) (ho : Okay H) : Calls Tryd.prog 79 #[v] w fun e w' => ∃ d : Dy, e = .returned (.tuple #[dyv d, .int .i64 0]) ∧ Hid (Owd w.heap.size w' H d) ∧ Hid (Below w.heap.size w w') := by
  refine (dhalf_any h hT).mono ?_
  rintro e w' ⟨H', hH', v, er, rfl, HE, HD, HB⟩
  obtain rfl : H' = H := by have := hH' hq; omega
  obtain rfl : er = 0 := (HE.out.1 hq).uniq (.inl ⟨ho, rfl⟩)
  have hd := HD.out
  rw [resD_ok rfl] at hd
  obtain ⟨d, rfl, hO⟩ := hd.own
  exact ⟨d, rfl, hO, HB⟩

set_option maxHeartbeats 1600000 in
theorem mhalf_one {w : World} {T H : Int} (hT : (tp 4000 : Int) = T) (hH : 2 * H = T) (ho : Okay H) (hTb : Tab w) :
    Calls Tryd.prog 55 #[.int .i64 1] w (DOne w H) := by
  have HT := hid hT
  have HH := hid hH
  have HO := hid ho
  have HTb := hid hTb
  clear hT hH ho hTb
  obtain ⟨W, hW⟩ : ∃ W, W = w.alloc (.cells #[.bool false, .slice none 0 0, .int .i64 0] 24) := ⟨_, rfl⟩
  have HW := hid hW
  have K := hid (show Below w.heap.size w W from hW ▸ (Below.refl _ w).alloc (Nat.le_refl _) _)
  have P := hid (show Dbox W w.heap.size false (.slice none 0 0) 0 from hW ▸ heap_alloc_new w _)
  replace HTb := hid (HTb.out.below K.out HTb.out.lt)
  clear hW
  go_enter Tryd.func55, Tryd.ntmps55
  go_upto_region 1 with fail
  rw [← HW.out]
  go_wp2_with fail
  refine (of_own 1 HT.out (by omega) _).mono ?_
  rintro e w1 ⟨a, rfl, Ha, hb⟩
  replace K := hid (K.out.trans (hb.out.mono K.out.size))
  replace P := hid (P.out.below hb.out P.out.lt)
  replace HTb := hid (HTb.out.below hb.out HTb.out.lt)
  obtain ⟨sa, Aa, na, ca, xa, fa⟩ := a
  clear hb
  have S1 := hid P.out.lt
  go_wp2_with fail
  refine (dhalf_own Ha.out.read.arg trivial HTb.out (by have := HH.out; omega) HO.out).mono ?_
  rintro e w2 ⟨d, rfl, Hd, hb⟩
  replace K := hid (K.out.trans (hb.out.mono K.out.size))
  replace P := hid (P.out.below hb.out P.out.lt)
  replace HTb := hid (HTb.out.below hb.out HTb.out.lt)
  replace Ha := hid (Ha.out.below hb.out)
  obtain ⟨sd, Ad, nd, cd, xd, fd⟩ := d
  have hbx := hid ((Below.refl w2.heap.size w2).alloc (Nat.le_refl _) (.cells #[.bool sd, .slice Ad nd cd, .int .i64 xd] 24))
  have P3 := hid (P.out.below hbx.out P.out.lt)
  have K3 := hid (K.out.trans (hbx.out.mono K.out.size))
  have Hd3 := hid (Hd.out.below hbx.out)
  have g0 := P3.out.frozen 0
  have g1 := P3.out.frozen 1
  have g2 := P3.out.frozen 2
  have b0 := P3.out.c0
  have b1 := P3.out.c1
  have b2 := P3.out.c2
  clear hb hbx
  go_wp2
  refine ret_dy (d := ⟨sd, Ad, nd, cd, xd, fd⟩) rfl rfl rfl (P3.out.store (t := sd) (u := .slice Ad nd cd) (y := xd)) ?_
  refine ⟨_, rfl, ?_, below_put3 K3.out (Nat.le_refl _)⟩
  exact ⟨(((Hd3.out.lim.far_ (g := w.heap.size) S1.out 0 (.bool sd)).far_ (g := w.heap.size) S1.out 1 (.slice Ad nd cd)).far_ (g := w.heap.size) S1.out 2 (.int .i64 xd)).mono (Nat.le_of_lt S1.out), Hd3.out.may, Hd3.out.val⟩

theorem okay_T {T : Int} (hT : (tp 4000 : Int) = T) (n : Int) (hn : -9223372036854775808 ≤ n ∧ n ≤ 9223372036854775807) : Okay (n * T) := by
  subst hT
  obtain ⟨s, V, hV, hs, hb⟩ : ∃ s V, num s V = n ∧ (V = 0 → s = false) ∧ V < pw 40 := by
    have hp : 18446744073709551616 ≤ pw 40 := Nat.le_trans (show 18446744073709551616 ≤ pw 2 by decide) (pw_mono (j := 2) (k := 40) (by omega))
    by_cases h0 : n < 0
    · exact ⟨true, (-n).toNat, by simp [num]; omega, fun h => by omega, by omega⟩
    · exact ⟨false, n.toNat, by simp [num]; omega, fun _ => rfl, by omega⟩
  refine ⟨s, V, 0, ⟨fun h => ⟨hs h, rfl⟩, fun h => absurd h (by omega)⟩, hb, by omega, ?_⟩
  unfold dv
  rw [num_mul, hV]
theorem half_T {T : Int} (hT : (tp 4000 : Int) = T) : ∃ H : Int, 2 * H = T ∧ Okay H := by
  refine ⟨dv false 1 1, ?_, okay_small (by omega) (by omega) (fun _ => rfl) (by omega)⟩
  rw [← hT]
  have e := half_scaled (s := false) (V := 1) (X := 0) (by omega)
  simp only [dv, num, Nat.zero_add, Nat.sub_zero, Nat.one_mul, Bool.false_eq_true, if_false] at e ⊢
  exact e

set_option maxRecDepth 100000 in
set_option maxHeartbeats 6400000 in
theorem malive_walk {w : World} {T H : Int} (hT : (tp 4000 : Int) = T) (hH : 2 * H = T) (ho : Okay H) (hTb : Tab w) :
    Calls Tryd.prog 22 #[] w fun e w' => e = .returned (.bool true) ∧ Hid (Below w.heap.size w w') := by
  have HT := hid hT
  have HH := hid hH
  have HO := hid ho
  have HTb := hid hTb
  have K := hid (Below.refl w.heap.size w)
  clear hT hH ho hTb
  go_enter Tryd.func22, Tryd.ntmps22
  go_wp2_with fail
  refine (mseed_first (x := 6) HT.out (by omega) _).mono ?_
  rintro e w1 ⟨D, rfl, HD, hb⟩
  replace K := hid (K.out.trans (hb.out.mono K.out.size))
  replace HTb := hid (HTb.out.below hb.out HTb.out.lt)
  clear hb
  have F_a := hid (fresh_mass w1)
  go_upto_region 2 with (first
    | (with_reducible refine wp_mstore rfl (.tmp 1) (.tmp 8) rfl w1.heap.size D0 D rfl rfl F_a.out ?_)
    | fail)
  obtain ⟨W1, hW1⟩ : ∃ W, W = mstore (w1.alloc (.cells #[.bool false, .slice none 0 0, .int .i64 0, .bool false, .slice none 0 0, .int .i64 0, .bool false, .slice none 0 0, .int .i64 0, .bool false, .slice none 0 0, .int .i64 0] 37)) w1.heap.size D := ⟨_, rfl⟩
  rw [← hW1]
  have P1 : Hid (Mbox W1 w1.heap.size D) := hid (hW1 ▸ (new_mass w1 D).1)
  have hn : Hid (Below w1.heap.size w1 W1) := hid (hW1 ▸ (new_mass w1 D).2)
  clear hW1 F_a
  replace K := hid (K.out.trans (hn.out.mono K.out.size))
  replace HTb := hid (HTb.out.below hn.out HTb.out.lt)
  replace HD := hid (HD.out.below hn.out)
  clear hn
  go_wp2_with (first
    | (with_reducible refine wp_mload rfl (.tmp 1) rfl w1.heap.size D rfl P1.out ?_)
    | fail)
  refine (msplit_any HD.out.mar HTb.out).mono ?_
  rintro e w2 ⟨h0, h1, hh, D1, D2, er, rfl, HE, HS, hb⟩
  replace K := hid (K.out.trans (hb.out.mono K.out.size))
  replace HTb := hid (HTb.out.below hb.out HTb.out.lt)
  replace HD := hid (HD.out.below hb.out)
  replace P1 := hid (P1.out.below hb.out P1.out.lt)
  have hv := hh (fun _ _ => trivial)
  obtain rfl : h0 = 3 * T := by have : 2 * h0 = 6 * T := hv.1; omega
  obtain rfl : h1 = H := by have : 2 * h1 = T := hv.2; have := HH.out; omega
  obtain rfl : er = 0 := by
    rcases HE.out.1 (fun _ _ => trivial) with ⟨_, h⟩ | ⟨h, _⟩
    · exact h
    · exact absurd ⟨okay_T HT.out 3 (by omega), HO.out⟩ h
  obtain ⟨B2, hB2, HK', HS', -⟩ := HS.out
  rw [resM_ok rfl] at HK' HS'
  have HKm := hid HK'
  have HSm := hid HS'
  clear hv hh HE HS HK' HS' hb hB2
  have fr0 := hid (fresh_mass w2)
  have fr1 : Hid (Mbox ((w2.alloc (.cells #[.bool false, .slice none 0 0, .int .i64 0, .bool false, .slice none 0 0, .int .i64 0, .bool false, .slice none 0 0, .int .i64 0, .bool false, .slice none 0 0, .int .i64 0] 37)).alloc (.cells #[.bool false, .slice none 0 0, .int .i64 0, .bool false, .slice none 0 0, .int .i64 0, .bool false, .slice none 0 0, .int .i64 0, .bool false, .slice none 0 0, .int .i64 0] 37)) w2.heap.size D0) := hid (fr0.out.alloc _)
  have fr2 : Hid (Mbox (mstore ((w2.alloc (.cells #[.bool false, .slice none 0 0, .int .i64 0, .bool false, .slice none 0 0, .int .i64 0, .bool false, .slice none 0 0, .int .i64 0, .bool false, .slice none 0 0, .int .i64 0] 37)).alloc (.cells #[.bool false, .slice none 0 0, .int .i64 0, .bool false, .slice none 0 0, .int .i64 0, .bool false, .slice none 0 0, .int .i64 0, .bool false, .slice none 0 0, .int .i64 0] 37)) w2.heap.size D1) (w2.heap.size + 1) D0) := hid (Mbox.grown (show Mbox ((w2.alloc _).alloc _) (w2.heap.size + 1) D0 from new_at (by simp)) (grown_mstore _ _ D1) (by omega))
  go_upto_region 3 with (first
    | (with_reducible refine wp_mstore rfl (.tmp 3) (.tmp 13) rfl w2.heap.size D0 D1 rfl rfl fr1.out ?_)
    | (with_reducible refine wp_mstore rfl (.tmp 4) (.tmp 14) rfl (w2.heap.size + 1) D0 D2 rfl rfl fr2.out ?_)
    | (with_reducible refine wp_mload rfl (.tmp 1) rfl w1.heap.size D rfl P1.out ?_)
    | fail)
  obtain ⟨W2, hW2⟩ : ∃ W, W = mstore (mstore ((w2.alloc (.cells #[.bool false, .slice none 0 0, .int .i64 0, .bool false, .slice none 0 0, .int .i64 0, .bool false, .slice none 0 0, .int .i64 0, .bool false, .slice none 0 0, .int .i64 0] 37)).alloc (.cells #[.bool false, .slice none 0 0, .int .i64 0, .bool false, .slice none 0 0, .int .i64 0, .bool false, .slice none 0 0, .int .i64 0, .bool false, .slice none 0 0, .int .i64 0] 37)) w2.heap.size D1) (w2.heap.size + 1) D2 := ⟨_, rfl⟩
  rw [← hW2]
  have P3 : Hid (Mbox W2 w2.heap.size D1) := hid (hW2 ▸ (fr1.out.store D1).grown (grown_mstore _ _ D2) (by omega))
  have P4 : Hid (Mbox W2 (w2.heap.size + 1) D2) := hid (hW2 ▸ fr2.out.store D2)
  have hn : Hid (Below w2.heap.size w2 W2) := hid (hW2 ▸ below_row (below_row (((Below.refl _ w2).alloc (Nat.le_refl _) _).alloc (by simp) _) (grown_mstore _ _ D1) (by simp; omega) (Nat.le_refl _)) (grown_mstore _ _ D2) (Nat.le_trans (show w2.heap.size ≤ ((w2.alloc _).alloc _).heap.size by simp; omega) (grown_mstore _ _ D1).size) (by omega))
  clear hW2 fr0 fr1 fr2
  replace K := hid (K.out.trans (hn.out.mono K.out.size))
  replace HTb := hid (HTb.out.below hn.out HTb.out.lt)
  replace HD := hid (HD.out.below hn.out)
  replace P1 := hid (P1.out.below hn.out P1.out.lt)
  replace HKm := hid (HKm.out.below hn.out)
  replace HSm := hid (HSm.out.below hn.out)
  clear hn
  have CF : Hid (∀ X, Below W2.heap.size W2 X → (Mbox X w1.heap.size D ∧ Mbox X w2.heap.size D1 ∧ Mbox X (w2.heap.size + 1) D2)) := hid fun X hb => ⟨P1.out.below hb P1.out.lt, P3.out.below hb P3.out.lt, P4.out.below hb P4.out.lt⟩
  have BX : Hid (Below W2.heap.size W2 W2.drew) := hid (Below.refl W2.heap.size W2).drew
  replace HD := hid (HD.out.below BX.out)
  replace HKm := hid (HKm.out.below BX.out)
  replace HSm := hid (HSm.out.below BX.out)
  replace K := hid K.out.drew
  replace HTb := hid (HTb.out.below BX.out HTb.out.lt)
  clear P1 P3 P4
  refine wp_region_held_drew (S := fun X => Mbox X w1.heap.size D ∧ Mbox X w2.heap.size D1 ∧ Mbox X (w2.heap.size + 1) D2) (by kernel_rfl) (CF.out _ BX.out) (fun hHeld => ?_)
  refine wpAnyH_take (i := 0) (v := ?v1) rfl (by kernel_rfl) (by kernel_rfl) (by kernel_rfl) (fun _ _ _ h => h) (Or.inl ⟨by rfl, ?y1⟩) (by assumption) ?r1
  case y1 => (intro w0 hSw; (try dsimp only at hSw); (try simp only [List.getElem_toArray, List.getElem_cons_zero]); go_simp; try with_reducible rfl)
  (try simp only [Act.put, List.setIfInBounds_toArray, List.set_cons_zero, List.set_cons_succ, List.getElem_toArray, List.getElem_cons_zero])
  refine wpAnyH_take (i := 1) (v := ?v2) rfl (by kernel_rfl) (by kernel_rfl) (by kernel_rfl) (fun _ _ _ h => h) (Or.inl ⟨by rfl, ?y2⟩) (by assumption) ?r2
  case y2 => (intro w0 hSw; (try dsimp only at hSw); (try simp only [List.getElem_toArray, List.getElem_cons_succ, List.getElem_cons_zero]); go_simp; try with_reducible rfl)
  (try simp only [Act.put, List.setIfInBounds_toArray, List.set_cons_zero, List.set_cons_succ, List.getElem_toArray, List.getElem_cons_succ, List.getElem_cons_zero])
  refine wpAnyH_take (i := 2) (v := ?v3) rfl (by kernel_rfl) (by kernel_rfl) (by kernel_rfl) (fun _ _ _ h => h) (Or.inl ⟨by rfl, ?y3⟩) (by assumption) ?r3
  case y3 => (intro w0 hSw; (try dsimp only at hSw); (try simp only [List.getElem_toArray, List.getElem_cons_succ, List.getElem_cons_zero]); go_simp; try with_reducible rfl)
  (try simp only [Act.put, List.setIfInBounds_toArray, List.set_cons_zero, List.set_cons_succ, List.getElem_toArray, List.getElem_cons_succ, List.getElem_cons_zero])
  refine wpAnyH_take (i := 3) rfl (by kernel_rfl) (by kernel_rfl) (by kernel_rfl) (fun _ _ _ h => h) (yields_mload (by rfl) (.tmp 1) rfl w1.heap.size D rfl (fun X hX => hX.1)) hHeld ?_
  (try simp only [Act.put, List.setIfInBounds_toArray, List.set_cons_zero, List.set_cons_succ, List.getElem_toArray, List.getElem_cons_succ, List.getElem_cons_zero])
  refine wpAnyH_ready (rs := [4]) (by kernel_rfl) (by simp) ?_
  refine AllReadyH.cons rfl (fun K' hK => ?_) AllReadyH.nil
  (try simp only [Act.put, List.setIfInBounds_toArray, List.set_cons_zero, List.set_cons_succ, List.getElem_toArray, List.getElem_cons_succ, List.getElem_cons_zero])
  go_simp
  refine (of_own 6 HT.out (by omega) _).mono ?_
  rintro e y4 ⟨a, rfl, Ha, hb⟩
  replace K := hid (K.out.trans (hb.out.mono K.out.size))
  replace HTb := hid (HTb.out.below hb.out HTb.out.lt)
  replace HD := hid (HD.out.below hb.out)
  replace HKm := hid (HKm.out.below hb.out)
  replace HSm := hid (HSm.out.below hb.out)
  replace BX := hid (BX.out.trans (hb.out.mono BX.out.size))
  obtain ⟨sa, Aa, na, ca, xa, fa⟩ := a
  try dsimp only
  refine hK.out _ _ (CF.out _ BX.out) (fun hHeld => ?_)
  clear hK K' hb
  (try simp only [Act.put, List.setIfInBounds_toArray, List.set_cons_zero, List.set_cons_succ, List.getElem_toArray, List.getElem_cons_succ, List.getElem_cons_zero])
  refine wpAnyH_ready (rs := [5]) (by kernel_rfl) (by simp) ?_
  refine AllReadyH.cons rfl (fun K' hK => ?_) AllReadyH.nil
  (try simp only [Act.put, List.setIfInBounds_toArray, List.set_cons_zero, List.set_cons_succ, List.getElem_toArray, List.getElem_cons_succ, List.getElem_cons_zero])
  go_simp
  refine (of_own 1 HT.out (by omega) _).mono ?_
  rintro e y5 ⟨b, rfl, Hb, hb⟩
  replace K := hid (K.out.trans (hb.out.mono K.out.size))
  replace HTb := hid (HTb.out.below hb.out HTb.out.lt)
  replace HD := hid (HD.out.below hb.out)
  replace HKm := hid (HKm.out.below hb.out)
  replace HSm := hid (HSm.out.below hb.out)
  replace BX := hid (BX.out.trans (hb.out.mono BX.out.size))
  replace Ha := hid (Ha.out.below hb.out)
  obtain ⟨sb, Ab, nb, cb, xb, fb⟩ := b
  try dsimp only
  refine hK.out _ _ (CF.out _ BX.out) (fun hHeld => ?_)
  clear hK K' hb
  (try simp only [Act.put, List.setIfInBounds_toArray, List.set_cons_zero, List.set_cons_succ, List.getElem_toArray, List.getElem_cons_succ, List.getElem_cons_zero])
  refine wpAnyH_ready (rs := [6]) (by kernel_rfl) (by simp) ?_
  refine AllReadyH.cons rfl (fun K' hK => ?_) AllReadyH.nil
  (try simp only [Act.put, List.setIfInBounds_toArray, List.set_cons_zero, List.set_cons_succ, List.getElem_toArray, List.getElem_cons_succ, List.getElem_cons_zero])
  go_simp
  refine (of_own 1 HT.out (by omega) _).mono ?_
  rintro e y6 ⟨c, rfl, Hc, hb⟩
  replace K := hid (K.out.trans (hb.out.mono K.out.size))
  replace HTb := hid (HTb.out.below hb.out HTb.out.lt)
  replace HD := hid (HD.out.below hb.out)
  replace HKm := hid (HKm.out.below hb.out)
  replace HSm := hid (HSm.out.below hb.out)
  replace BX := hid (BX.out.trans (hb.out.mono BX.out.size))
  replace Ha := hid (Ha.out.below hb.out)
  replace Hb := hid (Hb.out.below hb.out)
  obtain ⟨sc, Ac, nc, cc, xc, fc⟩ := c
  try dsimp only
  refine hK.out _ _ (CF.out _ BX.out) (fun hHeld => ?_)
  clear hK K' hb
  (try simp only [Act.put, List.setIfInBounds_toArray, List.set_cons_zero, List.set_cons_succ, List.getElem_toArray, List.getElem_cons_succ, List.getElem_cons_zero])
  refine wpAnyH_ready (rs := [7]) (by kernel_rfl) (by simp) ?_
  refine AllReadyH.cons rfl (fun K' hK => ?_) AllReadyH.nil
  (try simp only [Act.put, List.setIfInBounds_toArray, List.set_cons_zero, List.set_cons_succ, List.getElem_toArray, List.getElem_cons_succ, List.getElem_cons_zero])
  go_simp
  refine (of_own 6 HT.out (by omega) _).mono ?_
  rintro e y7 ⟨d, rfl, Hd, hb⟩
  replace K := hid (K.out.trans (hb.out.mono K.out.size))
  replace HTb := hid (HTb.out.below hb.out HTb.out.lt)
  replace HD := hid (HD.out.below hb.out)
  replace HKm := hid (HKm.out.below hb.out)
  replace HSm := hid (HSm.out.below hb.out)
  replace BX := hid (BX.out.trans (hb.out.mono BX.out.size))
  replace Ha := hid (Ha.out.below hb.out)
  replace Hb := hid (Hb.out.below hb.out)
  replace Hc := hid (Hc.out.below hb.out)
  obtain ⟨sd, Ad, nd, cd, xd, fd⟩ := d
  try dsimp only
  refine hK.out _ _ (CF.out _ BX.out) (fun hHeld => ?_)
  clear hK K' hb
  (try simp only [Act.put, List.setIfInBounds_toArray, List.set_cons_zero, List.set_cons_succ, List.getElem_toArray, List.getElem_cons_succ, List.getElem_cons_zero])
  refine wpAnyH_take (i := 8) (v := ?v4) rfl (by kernel_rfl) (by kernel_rfl) (by kernel_rfl) (fun _ _ _ h => h) (Or.inl ⟨by rfl, ?y4⟩) (by assumption) ?r4
  case y4 => (intro w0 hSw; (try dsimp only at hSw); (try simp only [List.getElem_toArray, List.getElem_cons_succ, List.getElem_cons_zero]); go_simp; try with_reducible rfl)
  (try simp only [Act.put, List.setIfInBounds_toArray, List.set_cons_zero, List.set_cons_succ, List.getElem_toArray, List.getElem_cons_succ, List.getElem_cons_zero])
  refine wpAnyH_ready (rs := [9]) (by kernel_rfl) (by simp) ?_
  refine AllReadyH.cons rfl (fun K' hK => ?_) AllReadyH.nil
  (try simp only [Act.put, List.setIfInBounds_toArray, List.set_cons_zero, List.set_cons_succ, List.getElem_toArray, List.getElem_cons_succ, List.getElem_cons_zero])
  go_simp
  refine (msame_true HD.out.mar (mar4 Ha.out.read Hb.out.read Hc.out.read Hd.out.read) (fun _ _ => trivial) all_true (all_of4 rfl (Int.one_mul T).symm (Int.one_mul T).symm rfl)).mono ?_
  rintro e y9 ⟨rfl, hb⟩
  replace K := hid (K.out.trans (hb.out.mono K.out.size))
  replace HTb := hid (HTb.out.below hb.out HTb.out.lt)
  replace HD := hid (HD.out.below hb.out)
  replace HKm := hid (HKm.out.below hb.out)
  replace HSm := hid (HSm.out.below hb.out)
  replace BX := hid (BX.out.trans (hb.out.mono BX.out.size))
  replace Ha := hid (Ha.out.below hb.out)
  replace Hb := hid (Hb.out.below hb.out)
  replace Hc := hid (Hc.out.below hb.out)
  replace Hd := hid (Hd.out.below hb.out)
  try dsimp only
  refine hK.out _ _ (CF.out _ BX.out) (fun hHeld => ?_)
  clear hK K' hb
  (try simp only [Act.put, List.setIfInBounds_toArray, List.set_cons_zero, List.set_cons_succ, List.getElem_toArray, List.getElem_cons_succ, List.getElem_cons_zero])
  clear Ha Hb Hc Hd HD
  refine wpAnyH_take (i := 10) (v := ?v5) rfl (by kernel_rfl) (by kernel_rfl) (by kernel_rfl) (fun _ _ _ h => h) (Or.inl ⟨by rfl, ?y5⟩) (by assumption) ?r5
  case y5 => (intro w0 hSw; (try dsimp only at hSw); (try simp only [List.getElem_toArray, List.getElem_cons_succ, List.getElem_cons_zero]); go_simp; try with_reducible rfl)
  (try simp only [Act.put, List.setIfInBounds_toArray, List.set_cons_zero, List.set_cons_succ, List.getElem_toArray, List.getElem_cons_succ, List.getElem_cons_zero])
  refine wpAnyH_take (i := 11) (v := ?v6) rfl (by kernel_rfl) (by kernel_rfl) (by kernel_rfl) (fun _ _ _ h => h) (Or.inl ⟨by rfl, ?y6⟩) (by assumption) ?r6
  case y6 => (intro w0 hSw; (try dsimp only at hSw); (try simp only [List.getElem_toArray, List.getElem_cons_succ, List.getElem_cons_zero]); go_simp; try with_reducible rfl)
  (try simp only [Act.put, List.setIfInBounds_toArray, List.set_cons_zero, List.set_cons_succ, List.getElem_toArray, List.getElem_cons_succ, List.getElem_cons_zero])
  refine wpAnyH_take (i := 12) (v := ?v7) rfl (by kernel_rfl) (by kernel_rfl) (by kernel_rfl) (fun _ _ _ h => h) (Or.inl ⟨by rfl, ?y7⟩) (by assumption) ?r7
  case y7 => (intro w0 hSw; (try dsimp only at hSw); (try simp only [List.getElem_toArray, List.getElem_cons_succ, List.getElem_cons_zero]); go_simp; try with_reducible rfl)
  (try simp only [Act.put, List.setIfInBounds_toArray, List.set_cons_zero, List.set_cons_succ, List.getElem_toArray, List.getElem_cons_succ, List.getElem_cons_zero])
  refine wpAnyH_take (i := 13) (v := ?v8) rfl (by kernel_rfl) (by kernel_rfl) (by kernel_rfl) (fun _ _ _ h => h) (Or.inl ⟨by rfl, ?y8⟩) (by assumption) ?r8
  case y8 => (intro w0 hSw; (try dsimp only at hSw); (try simp only [List.getElem_toArray, List.getElem_cons_succ, List.getElem_cons_zero]); go_simp; try with_reducible rfl)
  (try simp only [Act.put, List.setIfInBounds_toArray, List.set_cons_zero, List.set_cons_succ, List.getElem_toArray, List.getElem_cons_succ, List.getElem_cons_zero])
  refine wpAnyH_take (i := 14) (v := ?v9) rfl (by kernel_rfl) (by kernel_rfl) (by kernel_rfl) (fun _ _ _ h => h) (Or.inl ⟨by rfl, ?y9⟩) (by assumption) ?r9
  case y9 => (intro w0 hSw; (try dsimp only at hSw); (try simp only [List.getElem_toArray, List.getElem_cons_succ, List.getElem_cons_zero]); go_simp; try with_reducible rfl)
  (try simp only [Act.put, List.setIfInBounds_toArray, List.set_cons_zero, List.set_cons_succ, List.getElem_toArray, List.getElem_cons_succ, List.getElem_cons_zero])
  refine wpAnyH_take (i := 15) (v := ?v10) rfl (by kernel_rfl) (by kernel_rfl) (by kernel_rfl) (fun _ _ _ h => h) (Or.inl ⟨by rfl, ?y10⟩) (by assumption) ?r10
  case y10 => (intro w0 hSw; (try dsimp only at hSw); (try simp only [List.getElem_toArray, List.getElem_cons_succ, List.getElem_cons_zero]); go_simp; try with_reducible rfl)
  (try simp only [Act.put, List.setIfInBounds_toArray, List.set_cons_zero, List.set_cons_succ, List.getElem_toArray, List.getElem_cons_succ, List.getElem_cons_zero])
  refine wpAnyH_take (i := 16) rfl (by kernel_rfl) (by kernel_rfl) (by kernel_rfl) (fun _ _ _ h => h) (yields_mload (by rfl) (.tmp 3) rfl w2.heap.size D1 rfl (fun X hX => hX.2.1)) hHeld ?_
  (try simp only [Act.put, List.setIfInBounds_toArray, List.set_cons_zero, List.set_cons_succ, List.getElem_toArray, List.getElem_cons_succ, List.getElem_cons_zero])
  refine wpAnyH_ready (rs := [17]) (by kernel_rfl) (by simp) ?_
  refine AllReadyH.cons rfl (fun K' hK => ?_) AllReadyH.nil
  (try simp only [Act.put, List.setIfInBounds_toArray, List.set_cons_zero, List.set_cons_succ, List.getElem_toArray, List.getElem_cons_succ, List.getElem_cons_zero])
  go_simp
  refine (of_own 3 HT.out (by omega) _).mono ?_
  rintro e y17 ⟨a, rfl, Ha, hb⟩
  replace K := hid (K.out.trans (hb.out.mono K.out.size))
  replace HTb := hid (HTb.out.below hb.out HTb.out.lt)
  replace HKm := hid (HKm.out.below hb.out)
  replace HSm := hid (HSm.out.below hb.out)
  replace BX := hid (BX.out.trans (hb.out.mono BX.out.size))
  obtain ⟨sa, Aa, na, ca, xa, fa⟩ := a
  try dsimp only
  refine hK.out _ _ (CF.out _ BX.out) (fun hHeld => ?_)
  clear hK K' hb
  (try simp only [Act.put, List.setIfInBounds_toArray, List.set_cons_zero, List.set_cons_succ, List.getElem_toArray, List.getElem_cons_succ, List.getElem_cons_zero])
  refine wpAnyH_ready (rs := [18]) (by kernel_rfl) (by simp) ?_
  refine AllReadyH.cons rfl (fun K' hK => ?_) AllReadyH.nil
  (try simp only [Act.put, List.setIfInBounds_toArray, List.set_cons_zero, List.set_cons_succ, List.getElem_toArray, List.getElem_cons_succ, List.getElem_cons_zero])
  go_simp
  refine (mhalf_one HT.out HH.out HO.out HTb.out).mono ?_
  rintro e y18 ⟨b, rfl, Hb, hb⟩
  replace K := hid (K.out.trans (hb.out.mono K.out.size))
  replace HTb := hid (HTb.out.below hb.out HTb.out.lt)
  replace HKm := hid (HKm.out.below hb.out)
  replace HSm := hid (HSm.out.below hb.out)
  replace BX := hid (BX.out.trans (hb.out.mono BX.out.size))
  replace Ha := hid (Ha.out.below hb.out)
  obtain ⟨sb, Ab, nb, cb, xb, fb⟩ := b
  try dsimp only
  refine hK.out _ _ (CF.out _ BX.out) (fun hHeld => ?_)
  clear hK K' hb
  (try simp only [Act.put, List.setIfInBounds_toArray, List.set_cons_zero, List.set_cons_succ, List.getElem_toArray, List.getElem_cons_succ, List.getElem_cons_zero])
  refine wpAnyH_ready (rs := [19]) (by kernel_rfl) (by simp) ?_
  refine AllReadyH.cons rfl (fun K' hK => ?_) AllReadyH.nil
  (try simp only [Act.put, List.setIfInBounds_toArray, List.set_cons_zero, List.set_cons_succ, List.getElem_toArray, List.getElem_cons_succ, List.getElem_cons_zero])
  go_simp
  refine (of_own 1 HT.out (by omega) _).mono ?_
  rintro e y19 ⟨c, rfl, Hc, hb⟩
  replace K := hid (K.out.trans (hb.out.mono K.out.size))
  replace HTb := hid (HTb.out.below hb.out HTb.out.lt)
  replace HKm := hid (HKm.out.below hb.out)
  replace HSm := hid (HSm.out.below hb.out)
  replace BX := hid (BX.out.trans (hb.out.mono BX.out.size))
  replace Ha := hid (Ha.out.below hb.out)
  replace Hb := hid (Hb.out.below hb.out)
  obtain ⟨sc, Ac, nc, cc, xc, fc⟩ := c
  try dsimp only
  refine hK.out _ _ (CF.out _ BX.out) (fun hHeld => ?_)
  clear hK K' hb
  (try simp only [Act.put, List.setIfInBounds_toArray, List.set_cons_zero, List.set_cons_succ, List.getElem_toArray, List.getElem_cons_succ, List.getElem_cons_zero])
  refine wpAnyH_ready (rs := [20]) (by kernel_rfl) (by simp) ?_
  refine AllReadyH.cons rfl (fun K' hK => ?_) AllReadyH.nil
  (try simp only [Act.put, List.setIfInBounds_toArray, List.set_cons_zero, List.set_cons_succ, List.getElem_toArray, List.getElem_cons_succ, List.getElem_cons_zero])
  go_simp
  refine (of_own 6 HT.out (by omega) _).mono ?_
  rintro e y20 ⟨d, rfl, Hd, hb⟩
  replace K := hid (K.out.trans (hb.out.mono K.out.size))
  replace HTb := hid (HTb.out.below hb.out HTb.out.lt)
  replace HKm := hid (HKm.out.below hb.out)
  replace HSm := hid (HSm.out.below hb.out)
  replace BX := hid (BX.out.trans (hb.out.mono BX.out.size))
  replace Ha := hid (Ha.out.below hb.out)
  replace Hb := hid (Hb.out.below hb.out)
  replace Hc := hid (Hc.out.below hb.out)
  obtain ⟨sd, Ad, nd, cd, xd, fd⟩ := d
  try dsimp only
  refine hK.out _ _ (CF.out _ BX.out) (fun hHeld => ?_)
  clear hK K' hb
  (try simp only [Act.put, List.setIfInBounds_toArray, List.set_cons_zero, List.set_cons_succ, List.getElem_toArray, List.getElem_cons_succ, List.getElem_cons_zero])
  refine wpAnyH_take (i := 21) (v := ?v11) rfl (by kernel_rfl) (by kernel_rfl) (by kernel_rfl) (fun _ _ _ h => h) (Or.inl ⟨by rfl, ?y11⟩) (by assumption) ?r11
  case y11 => (intro w0 hSw; (try dsimp only at hSw); (try simp only [List.getElem_toArray, List.getElem_cons_succ, List.getElem_cons_zero]); go_simp; try with_reducible rfl)
  (try simp only [Act.put, List.setIfInBounds_toArray, List.set_cons_zero, List.set_cons_succ, List.getElem_toArray, List.getElem_cons_succ, List.getElem_cons_zero])
  refine wpAnyH_ready (rs := [22]) (by kernel_rfl) (by simp) ?_
  refine AllReadyH.cons rfl (fun K' hK => ?_) AllReadyH.nil
  (try simp only [Act.put, List.setIfInBounds_toArray, List.set_cons_zero, List.set_cons_succ, List.getElem_toArray, List.getElem_cons_succ, List.getElem_cons_zero])
  go_simp
  refine (msame_true HKm.out.mar (mar4 Ha.out.read Hb.out.read Hc.out.read Hd.out.read) (fun _ _ => trivial) all_true (all_of4 rfl rfl (Int.one_mul T).symm rfl)).mono ?_
  rintro e y22 ⟨rfl, hb⟩
  replace K := hid (K.out.trans (hb.out.mono K.out.size))
  replace HTb := hid (HTb.out.below hb.out HTb.out.lt)
  replace HKm := hid (HKm.out.below hb.out)
  replace HSm := hid (HSm.out.below hb.out)
  replace BX := hid (BX.out.trans (hb.out.mono BX.out.size))
  replace Ha := hid (Ha.out.below hb.out)
  replace Hb := hid (Hb.out.below hb.out)
  replace Hc := hid (Hc.out.below hb.out)
  replace Hd := hid (Hd.out.below hb.out)
  try dsimp only
  refine hK.out _ _ (CF.out _ BX.out) (fun hHeld => ?_)
  clear hK K' hb
  (try simp only [Act.put, List.setIfInBounds_toArray, List.set_cons_zero, List.set_cons_succ, List.getElem_toArray, List.getElem_cons_succ, List.getElem_cons_zero])
  clear Ha Hb Hc Hd HKm
  refine wpAnyH_take (i := 23) (v := ?v12) rfl (by kernel_rfl) (by kernel_rfl) (by kernel_rfl) (fun _ _ _ h => h) (Or.inl ⟨by rfl, ?y12⟩) (by assumption) ?r12
  case y12 => (intro w0 hSw; (try dsimp only at hSw); (try simp only [List.getElem_toArray, List.getElem_cons_succ, List.getElem_cons_zero]); go_simp; try with_reducible rfl)
  (try simp only [Act.put, List.setIfInBounds_toArray, List.set_cons_zero, List.set_cons_succ, List.getElem_toArray, List.getElem_cons_succ, List.getElem_cons_zero])
  refine wpAnyH_take (i := 24) (v := ?v13) rfl (by kernel_rfl) (by kernel_rfl) (by kernel_rfl) (fun _ _ _ h => h) (Or.inl ⟨by rfl, ?y13⟩) (by assumption) ?r13
  case y13 => (intro w0 hSw; (try dsimp only at hSw); (try simp only [List.getElem_toArray, List.getElem_cons_succ, List.getElem_cons_zero]); go_simp; try with_reducible rfl)
  (try simp only [Act.put, List.setIfInBounds_toArray, List.set_cons_zero, List.set_cons_succ, List.getElem_toArray, List.getElem_cons_succ, List.getElem_cons_zero])
  refine wpAnyH_take (i := 25) rfl (by kernel_rfl) (by kernel_rfl) (by kernel_rfl) (fun _ _ _ h => h) (yields_mload (by rfl) (.tmp 4) rfl (w2.heap.size + 1) D2 rfl (fun X hX => hX.2.2)) hHeld ?_
  (try simp only [Act.put, List.setIfInBounds_toArray, List.set_cons_zero, List.set_cons_succ, List.getElem_toArray, List.getElem_cons_succ, List.getElem_cons_zero])
  refine wpAnyH_ready (rs := [26]) (by kernel_rfl) (by simp) ?_
  refine AllReadyH.cons rfl (fun K' hK => ?_) AllReadyH.nil
  (try simp only [Act.put, List.setIfInBounds_toArray, List.set_cons_zero, List.set_cons_succ, List.getElem_toArray, List.getElem_cons_succ, List.getElem_cons_zero])
  go_simp
  refine (of_own 3 HT.out (by omega) _).mono ?_
  rintro e y26 ⟨a, rfl, Ha, hb⟩
  replace K := hid (K.out.trans (hb.out.mono K.out.size))
  replace HTb := hid (HTb.out.below hb.out HTb.out.lt)
  replace HSm := hid (HSm.out.below hb.out)
  replace BX := hid (BX.out.trans (hb.out.mono BX.out.size))
  obtain ⟨sa, Aa, na, ca, xa, fa⟩ := a
  try dsimp only
  refine hK.out _ _ (CF.out _ BX.out) (fun hHeld => ?_)
  clear hK K' hb
  (try simp only [Act.put, List.setIfInBounds_toArray, List.set_cons_zero, List.set_cons_succ, List.getElem_toArray, List.getElem_cons_succ, List.getElem_cons_zero])
  refine wpAnyH_ready (rs := [27]) (by kernel_rfl) (by simp) ?_
  refine AllReadyH.cons rfl (fun K' hK => ?_) AllReadyH.nil
  (try simp only [Act.put, List.setIfInBounds_toArray, List.set_cons_zero, List.set_cons_succ, List.getElem_toArray, List.getElem_cons_succ, List.getElem_cons_zero])
  go_simp
  refine (mhalf_one HT.out HH.out HO.out HTb.out).mono ?_
  rintro e y27 ⟨b, rfl, Hb, hb⟩
  replace K := hid (K.out.trans (hb.out.mono K.out.size))
  replace HTb := hid (HTb.out.below hb.out HTb.out.lt)
  replace HSm := hid (HSm.out.below hb.out)
  replace BX := hid (BX.out.trans (hb.out.mono BX.out.size))
  replace Ha := hid (Ha.out.below hb.out)
  obtain ⟨sb, Ab, nb, cb, xb, fb⟩ := b
  try dsimp only
  refine hK.out _ _ (CF.out _ BX.out) (fun hHeld => ?_)
  clear hK K' hb
  (try simp only [Act.put, List.setIfInBounds_toArray, List.set_cons_zero, List.set_cons_succ, List.getElem_toArray, List.getElem_cons_succ, List.getElem_cons_zero])
  refine wpAnyH_take (i := 28) (v := ?v14) rfl (by kernel_rfl) (by kernel_rfl) (by kernel_rfl) (fun _ _ _ h => h) (Or.inl ⟨by rfl, ?y14⟩) (by assumption) ?r14
  case y14 => (intro w0 hSw; (try dsimp only at hSw); (try simp only [List.getElem_toArray, List.getElem_cons_succ, List.getElem_cons_zero]); go_simp; try with_reducible rfl)
  (try simp only [Act.put, List.setIfInBounds_toArray, List.set_cons_zero, List.set_cons_succ, List.getElem_toArray, List.getElem_cons_succ, List.getElem_cons_zero])
  refine wpAnyH_ready (rs := [29]) (by kernel_rfl) (by simp) ?_
  refine AllReadyH.cons rfl (fun K' hK => ?_) AllReadyH.nil
  (try simp only [Act.put, List.setIfInBounds_toArray, List.set_cons_zero, List.set_cons_succ, List.getElem_toArray, List.getElem_cons_succ, List.getElem_cons_zero])
  go_simp
  refine (msame_true HSm.out.mar (mar4 Ha.out.read Hb.out.read (Dyr.zero _) (Dyr.zero _)) (fun _ _ => trivial) all_true (all_of4 rfl rfl rfl rfl)).mono ?_
  rintro e y29 ⟨rfl, hb⟩
  replace K := hid (K.out.trans (hb.out.mono K.out.size))
  replace HTb := hid (HTb.out.below hb.out HTb.out.lt)
  replace HSm := hid (HSm.out.below hb.out)
  replace BX := hid (BX.out.trans (hb.out.mono BX.out.size))
  replace Ha := hid (Ha.out.below hb.out)
  replace Hb := hid (Hb.out.below hb.out)
  try dsimp only
  refine hK.out _ _ (CF.out _ BX.out) (fun hHeld => ?_)
  clear hK K' hb
  (try simp only [Act.put, List.setIfInBounds_toArray, List.set_cons_zero, List.set_cons_succ, List.getElem_toArray, List.getElem_cons_succ, List.getElem_cons_zero])
  refine wpAnyH_take (i := 30) (v := ?v15) rfl (by kernel_rfl) (by kernel_rfl) (by kernel_rfl) (fun _ _ _ h => h) (Or.inl ⟨by rfl, ?y15⟩) (by assumption) ?r15
  case y15 => (intro w0 hSw; (try dsimp only at hSw); (try simp only [List.getElem_toArray, List.getElem_cons_succ, List.getElem_cons_zero]); go_simp; try with_reducible rfl)
  (try simp only [Act.put, List.setIfInBounds_toArray, List.set_cons_zero, List.set_cons_succ, List.getElem_toArray, List.getElem_cons_succ, List.getElem_cons_zero])
  refine wpAnyH_take (i := 31) (v := ?v16) rfl (by kernel_rfl) (by kernel_rfl) (by kernel_rfl) (fun _ _ _ h => h) (Or.inl ⟨by rfl, ?y16⟩) (by assumption) ?r16
  case y16 => (intro w0 hSw; (try dsimp only at hSw); (try simp only [List.getElem_toArray, List.getElem_cons_succ, List.getElem_cons_zero]); go_simp; try with_reducible rfl)
  (try simp only [Act.put, List.setIfInBounds_toArray, List.set_cons_zero, List.getElem_toArray, List.getElem_cons_succ, List.getElem_cons_zero])
  refine wpAnyH_done (by kernel_rfl) ?_ _
  go_wp2
  go_ret
  exact ⟨rfl, K.out⟩

theorem malive_any (w : World) (hTb : Tab w) : Calls Tryd.prog 22 #[] w fun e w' => e = .returned (.bool true) ∧ Hid (Below w.heap.size w w') := by
  obtain ⟨H, hH, ho⟩ := half_T (T := (tp 4000 : Int)) rfl
  exact malive_walk rfl hH ho hTb

end Go.Proofs.YtijcnabhpneaiaaDoor
