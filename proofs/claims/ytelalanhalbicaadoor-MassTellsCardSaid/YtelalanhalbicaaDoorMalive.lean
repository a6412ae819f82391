/- Masses: what is too great; the law's half, alive. -/
import Derived.Test.YtelalanhalbicaaDoorMseed
namespace Go.Proofs.YtelalanhalbicaaDoor
open Go.RowKit Go.Shelf

/-- A mass that is more than statements go through. -/
def MGr (D : Nat → Dy) : Prop := ∃ k, k < 4 ∧ (42 < (D k).n ∨ 1100 < (D k).x)

set_option maxHeartbeats 1600000 in
theorem mgreat_any {w : World} {D : Nat → Dy} (hn : ∀ k, k < 4 → (D k).n ≤ 140737488355328) :
    Calls Tryd.prog 5 #[.agg (mcells D)] w fun e w' => ∃ r : Bool, e = .returned (.bool r) ∧ Hid (r = true ↔ MGr D) ∧ Hid (Below w.heap.size w w') := by
  obtain ⟨W, hW⟩ : ∃ W, W = w.alloc (.cells (mcells D) 26) := ⟨_, rfl⟩
  have HW := hid hW
  have K := hid (show Below w.heap.size w W from hW ▸ (Below.refl _ w).alloc (Nat.le_refl _) _)
  have P := hid (show Mbox W w.heap.size D from hW ▸ heap_alloc_new w _)
  have Hn := hid hn
  clear hW hn
  by_cases h0 : 42 < (D 0).n ∨ 1100 < (D 0).x
  · replace h0 := hid h0
    go_enter Tryd.func5, Tryd.ntmps5
    go_upto_region 1 with fail
    rw [← HW.out]
    have a0 := P.out.at_ 0 _ rfl
    have a1 := P.out.at_ 1 _ rfl
    have a2 := P.out.at_ 2 _ rfl
    go_wp2_with fail
    refine (dgreat_any _ _ _ _ _ _ (Hn.out 0 (by omega))).mono ?_
    rintro e w0 ⟨rfl, hb⟩
    rw [bool_of_dec h0.out]
    clear a0 a1 a2
    replace K := hid (K.out.trans (hb.out.mono K.out.size))
    replace P := hid (P.out.below hb.out P.out.lt)
    clear hb
    go_wp2
    go_ret
    exact ⟨true, rfl, ⟨fun _ => ⟨0, by omega, h0.out⟩, fun _ => rfl⟩, K.out⟩
  · replace h0 := hid h0
    by_cases h1 : 42 < (D 1).n ∨ 1100 < (D 1).x
    · replace h1 := hid h1
      go_enter Tryd.func5, Tryd.ntmps5
      go_upto_region 1 with fail
      rw [← HW.out]
      have a0 := P.out.at_ 0 _ rfl
      have a1 := P.out.at_ 1 _ rfl
      have a2 := P.out.at_ 2 _ rfl
      go_wp2_with fail
      refine (dgreat_any _ _ _ _ _ _ (Hn.out 0 (by omega))).mono ?_
      rintro e w0 ⟨rfl, hb⟩
      rw [bool_of_not h0.out]
      clear a0 a1 a2
      replace K := hid (K.out.trans (hb.out.mono K.out.size))
      replace P := hid (P.out.below hb.out P.out.lt)
      clear hb
      have a0 := P.out.at_ 3 _ rfl
      have a1 := P.out.at_ 4 _ rfl
      have a2 := P.out.at_ 5 _ rfl
      go_wp2_with fail
      refine (dgreat_any _ _ _ _ _ _ (Hn.out 1 (by omega))).mono ?_
      rintro e w1 ⟨rfl, hb⟩
      rw [bool_of_dec h1.out]
      clear a0 a1 a2
      replace K := hid (K.out.trans (hb.out.mono K.out.size))
      replace P := hid (P.out.below hb.out P.out.lt)
      clear hb
      go_wp2
      go_ret
      exact ⟨true, rfl, ⟨fun _ => ⟨1, by omega, h1.out⟩, fun _ => rfl⟩, K.out⟩
    · replace h1 := hid h1
      by_cases h2 : 42 < (D 2).n ∨ 1100 < (D 2).x
      · replace h2 := hid h2
        go_enter Tryd.func5, Tryd.ntmps5
        go_upto_region 1 with fail
        rw [← HW.out]
        have a0 := P.out.at_ 0 _ rfl
        have a1 := P.out.at_ 1 _ rfl
        have a2 := P.out.at_ 2 _ rfl
        go_wp2_with fail
        refine (dgreat_any _ _ _ _ _ _ (Hn.out 0 (by omega))).mono ?_
        rintro e w0 ⟨rfl, hb⟩
        rw [bool_of_not h0.out]
        clear a0 a1 a2
        replace K := hid (K.out.trans (hb.out.mono K.out.size))
        replace P := hid (P.out.below hb.out P.out.lt)
        clear hb
        have a0 := P.out.at_ 3 _ rfl
        have a1 := P.out.at_ 4 _ rfl
        have a2 := P.out.at_ 5 _ rfl
        go_wp2_with fail
        refine (dgreat_any _ _ _ _ _ _ (Hn.out 1 (by omega))).mono ?_
        rintro e w1 ⟨rfl, hb⟩
        rw [bool_of_not h1.out]
        clear a0 a1 a2
        replace K := hid (K.out.trans (hb.out.mono K.out.size))
        replace P := hid (P.out.below hb.out P.out.lt)
        clear hb
        have a0 := P.out.at_ 6 _ rfl
        have a1 := P.out.at_ 7 _ rfl
        have a2 := P.out.at_ 8 _ rfl
        go_wp2_with fail
        refine (dgreat_any _ _ _ _ _ _ (Hn.out 2 (by omega))).mono ?_
        rintro e w2 ⟨rfl, hb⟩
        rw [bool_of_dec h2.out]
        clear a0 a1 a2
        replace K := hid (K.out.trans (hb.out.mono K.out.size))
        replace P := hid (P.out.below hb.out P.out.lt)
        clear hb
        go_wp2
        go_ret
        exact ⟨true, rfl, ⟨fun _ => ⟨2, by omega, h2.out⟩, fun _ => rfl⟩, K.out⟩
      · replace h2 := hid h2
        by_cases h3 : 42 < (D 3).n ∨ 1100 < (D 3).x
        · replace h3 := hid h3
          go_enter Tryd.func5, Tryd.ntmps5
          go_upto_region 1 with fail
          rw [← HW.out]
          have a0 := P.out.at_ 0 _ rfl
          have a1 := P.out.at_ 1 _ rfl
          have a2 := P.out.at_ 2 _ rfl
          go_wp2_with fail
          refine (dgreat_any _ _ _ _ _ _ (Hn.out 0 (by omega))).mono ?_
          rintro e w0 ⟨rfl, hb⟩
          rw [bool_of_not h0.out]
          clear a0 a1 a2
          replace K := hid (K.out.trans (hb.out.mono K.out.size))
          replace P := hid (P.out.below hb.out P.out.lt)
          clear hb
          have a0 := P.out.at_ 3 _ rfl
          have a1 := P.out.at_ 4 _ rfl
          have a2 := P.out.at_ 5 _ rfl
          go_wp2_with fail
          refine (dgreat_any _ _ _ _ _ _ (Hn.out 1 (by omega))).mono ?_
          rintro e w1 ⟨rfl, hb⟩
          rw [bool_of_not h1.out]
          clear a0 a1 a2
          replace K := hid (K.out.trans (hb.out.mono K.out.size))
          replace P := hid (P.out.below hb.out P.out.lt)
          clear hb
          have a0 := P.out.at_ 6 _ rfl
          have a1 := P.out.at_ 7 _ rfl
          have a2 := P.out.at_ 8 _ rfl
          go_wp2_with fail
          refine (dgreat_any _ _ _ _ _ _ (Hn.out 2 (by omega))).mono ?_
          rintro e w2 ⟨rfl, hb⟩
          rw [bool_of_not h2.out]
          clear a0 a1 a2
          replace K := hid (K.out.trans (hb.out.mono K.out.size))
          replace P := hid (P.out.below hb.out P.out.lt)
          clear hb
          have a0 := P.out.at_ 9 _ rfl
          have a1 := P.out.at_ 10 _ rfl
          have a2 := P.out.at_ 11 _ rfl
          go_wp2_with fail
          refine (dgreat_any _ _ _ _ _ _ (Hn.out 3 (by omega))).mono ?_
          rintro e w3 ⟨rfl, hb⟩
          rw [bool_of_dec h3.out]
          clear a0 a1 a2
          replace K := hid (K.out.trans (hb.out.mono K.out.size))
          replace P := hid (P.out.below hb.out P.out.lt)
          clear hb
          go_wp2
          go_ret
          exact ⟨true, rfl, ⟨fun _ => ⟨3, by omega, h3.out⟩, fun _ => rfl⟩, K.out⟩
        · replace h3 := hid h3
          go_enter Tryd.func5, Tryd.ntmps5
          go_upto_region 1 with fail
          rw [← HW.out]
          have a0 := P.out.at_ 0 _ rfl
          have a1 := P.out.at_ 1 _ rfl
          have a2 := P.out.at_ 2 _ rfl
          go_wp2_with fail
          refine (dgreat_any _ _ _ _ _ _ (Hn.out 0 (by omega))).mono ?_
          rintro e w0 ⟨rfl, hb⟩
          rw [bool_of_not h0.out]
          clear a0 a1 a2
          replace K := hid (K.out.trans (hb.out.mono K.out.size))
          replace P := hid (P.out.below hb.out P.out.lt)
          clear hb
          have a0 := P.out.at_ 3 _ rfl
          have a1 := P.out.at_ 4 _ rfl
          have a2 := P.out.at_ 5 _ rfl
          go_wp2_with fail
          refine (dgreat_any _ _ _ _ _ _ (Hn.out 1 (by omega))).mono ?_
          rintro e w1 ⟨rfl, hb⟩
          rw [bool_of_not h1.out]
          clear a0 a1 a2
          replace K := hid (K.out.trans (hb.out.mono K.out.size))
          replace P := hid (P.out.below hb.out P.out.lt)
          clear hb
          have a0 := P.out.at_ 6 _ rfl
          have a1 := P.out.at_ 7 _ rfl
          have a2 := P.out.at_ 8 _ rfl
          go_wp2_with fail
          refine (dgreat_any _ _ _ _ _ _ (Hn.out 2 (by omega))).mono ?_
          rintro e w2 ⟨rfl, hb⟩
          rw [bool_of_not h2.out]
          clear a0 a1 a2
          replace K := hid (K.out.trans (hb.out.mono K.out.size))
          replace P := hid (P.out.below hb.out P.out.lt)
          clear hb
          have a0 := P.out.at_ 9 _ rfl
          have a1 := P.out.at_ 10 _ rfl
          have a2 := P.out.at_ 11 _ rfl
          go_wp2_with fail
          refine (dgreat_any _ _ _ _ _ _ (Hn.out 3 (by omega))).mono ?_
          rintro e w3 ⟨rfl, hb⟩
          rw [bool_of_not h3.out]
          clear a0 a1 a2
          replace K := hid (K.out.trans (hb.out.mono K.out.size))
          replace P := hid (P.out.below hb.out P.out.lt)
          clear hb
          go_wp2
          go_ret
          exact ⟨false, rfl, ⟨(fun h => by cases h), fun ⟨k, hk, hg⟩ => absurd hg (all_of4 (P := fun k => ¬ (42 < (D k).n ∨ 1100 < (D k).x)) h0.out h1.out h2.out h3.out k hk)⟩, K.out⟩

theorem dhalf_own {w : World} {q : Prop} {M H : Int} {v : Value} (h : DArg w q M v) (hq : q) (hT : Tab w) (hH : 2 * H = M) (ho : Okay H) : Calls Tryd.prog 51 #[v] w fun e w' => ∃ d : Dy, e = .returned (.tuple #[dyv d, .int .i64 0]) ∧ Hid (Owd w.heap.size w' H d) ∧ Hid (Below w.heap.size w w') := by
  refine (dhalf_any h hT).mono ?_
  rintro e w' ⟨H', hH', v, er, rfl, HE, HD, HB⟩
  obtain rfl : H' = H := by have := hH' hq; omega
  obtain rfl : er = 0 := (HE.out.1 hq).uniq (.inl ⟨ho, rfl⟩)
  have hd := HD.out
  rw [resD_ok rfl] at hd
  obtain ⟨d, rfl, hO⟩ := hd.own
  exact ⟨d, rfl, hO, HB⟩

theorem okay_T {T : Int} (hT : (tp 4000 : Int) = T) (n : Int) (hn : -9223372036854775808 ≤ n ∧ n ≤ 9223372036854775807) : Okay (n * T) := by
  subst hT
  obtain ⟨s, V, hV, hs, hb⟩ : ∃ s V, num s V = n ∧ (V = 0 → s = false) ∧ V < pw 40 := by
    have hp : 18446744073709551616 ≤ pw 40 := Nat.le_trans (show 18446744073709551616 ≤ pw 2 by decide) (pw_mono (j := 2) (k := 40) (by omega))
    by_cases h0 : n < 0
    · exact ⟨true, (-n).toNat, by simp [num]; omega, fun h => by omega, by omega⟩
    · exact ⟨false, n.toNat, by simp [num]; omega, fun _ => rfl, by omega⟩
  refine ⟨s, V, 0, ⟨fun h => ⟨hs h, rfl⟩, fun h => absurd h (by omega)⟩, hb, by omega, ?_⟩
  unfold dv
  rw [num_mul, hV]
theorem half_T {T : Int} (hT : (tp 4000 : Int) = T) : ∃ H : Int, 2 * H = T ∧ Okay H := by
  refine ⟨dv false 1 1, ?_, okay_small (by omega) (by omega) (fun _ => rfl) (by omega)⟩
  rw [← hT]
  have e := half_scaled (s := false) (V := 1) (X := 0) (by omega)
  simp only [dv, num, Nat.zero_add, Nat.sub_zero, Nat.one_mul, Bool.false_eq_true, if_false] at e ⊢
  exact e

end Go.Proofs.YtelalanhalbicaaDoor
