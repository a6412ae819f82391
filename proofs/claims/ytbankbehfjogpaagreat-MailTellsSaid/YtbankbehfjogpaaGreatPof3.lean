/- The document's Of, kind 3. -/
import Derived.Test.YtbankbehfjogpaaGreatVar
namespace Go.Proofs.YtbankbehfjogpaaGreat
open Go.RowKit Go.Shelf Go.Lib
set_option maxRecDepth 100000
set_option maxHeartbeats 25600000 in
theorem pof_k3 {w : World} {A : Option Addr} {n c : Nat} {xs : List Nat} (h : By w w.heap.size A n c xs) (hx : xs.length ≤ 5000) :
    Calls Tryz.prog 31 #[.int .u8 3, .slice A n c] w (OfRes w 3 xs) := by
  have HY := hid h
  have HX := hid hx
  have hn5 := h.len
  replace hn5 := hid hn5
  clear h hx
  go_enter Tryz.func31, Tryz.ntmps31
  obtain ⟨W0, hW0⟩ : ∃ W, W = (w.alloc (.cells (mdc (Mz 0)) 31)).alloc (.cells (mdc (Mz 0)) 31) := ⟨_, rfl⟩
  have P4 := hid (show Pbox W0 w.heap.size (Mz 0) from hW0 ▸ pheap0 w _ _)
  have P6 := hid (show Pbox W0 (w.heap.size + 1) (Mz 0) from hW0 ▸ pheap1 w _ _)
  have B0 := hid (show Below w.heap.size w W0 from hW0 ▸ ((Below.refl _ w).alloc (Nat.le_refl _) _).alloc (by simp) _)
  have S0 := hid (show W0.heap.size = w.heap.size + 1 + 1 by rw [hW0]; simp)
  replace hW0 := hid hW0
  go_upto_region 2 with (first
    | (refine wp_row_k rfl 31 (.tmp 6) (.tmp 14) (by with_reducible rfl) (w.heap.size + 1) 31 (mdc (Mz 0)) (mdc (⟨3, 0, 0, 0, 0, 0, D0, false, none, 0, 0, false, 0, 0, none, 0, 0⟩ : Md)) (by rfl) (by rfl) (show Pbox ((w.alloc (.cells (mdc (Mz 0)) 31)).alloc (.cells (mdc (Mz 0)) 31)) (w.heap.size + 1) (Mz 0) from pheap1 w _ _) rfl (by kernel_rfl) (mdc_one _) ?_; intro X0 Q6 h6; replace h6 := (show Wq (w.heap.size + 1) W0 X0 from hW0.out ▸ h6))
    | fail)
  replace P4 := hid (h6.pbox P4.out (by omega))
  replace B0 := hid (h6.bel B0.out (by omega))
  replace S0 := hid (h6.size.symm.trans S0.out)
  replace P6 := hid (show Pbox X0 (w.heap.size + 1) (⟨3, 0, 0, 0, 0, 0, D0, false, none, 0, 0, false, 0, 0, none, 0, 0⟩ : Md) from Q6)
  clear Q6 h6 hW0
  obtain ⟨X1, hX1⟩ : ∃ X, X = X0.alloc (.cells (rdc A n c (some 0)) 106) := ⟨_, rfl⟩
  have R7 := hid (show Rdb X1 (w.heap.size + 1 + 1) A n c (some 0) from hX1 ▸ S0.out ▸ heap_alloc_new X0 _)
  have KX := hid (show Below X0.heap.size X0 X1 from hX1 ▸ (Below.refl _ X0).alloc (Nat.le_refl _) _)
  replace P4 := hid (P4.out.below KX.out P4.out.lt)
  replace P6 := hid (P6.out.below KX.out P6.out.lt)
  replace B0 := hid (B0.out.trans (KX.out.mono B0.out.size))
  have S1 := hid (show w.heap.size + 1 + 1 < X1.heap.size from lt_of_heap R7.out)
  replace hX1 := hid hX1
  clear KX
  have hs0 := S0.out
  go_upto_region 3 with fail
  change Code.wp _ _ _ _ (X0.alloc (.cells (rdc A n c (some 0)) 106))
  try rw [hs0]
  rw [← hX1.out]
  clear hX1 hs0 S0
  have E := hid (show Ev w X1 A n c (some 0) (⟨3, 0, 0, 0, 0, 0, D0, false, none, 0, 0, false, 0, 0, none, 0, 0⟩ : Md) from ⟨P4.out, P6.out, R7.out, B0.out, S1.out⟩)
  clear P4 P6 R7 B0 S1
  have K0 := hid (show Rok xs (some 0) from fun q hq => by injection hq with hq; omega)
  obtain ⟨v1, s1, e1⟩ : ∃ v s, rnD xs (some 0) 1 = (v, s) := ⟨_, _, rfl⟩
  have CN := hid (ernumT (z := 1) ((HY.out.below E.out.b0).mono E.out.b0.size) K0.out (by omega) HX.out)
  obtain ⟨r1, r2, K1, VL1⟩ := rnD_all (fun x hx => HY.out.lt x hx) K0.out (by omega) e1
  rw [r1, r2] at CN
  clear r1 r2
  replace K1 := hid K1
  replace VL1 := hid VL1
  replace e1 := hid e1
  replace K0 := K1
  clear K1
  go_wp2_with (first | (refine wp_rload rfl (.tmp 7) (by with_reducible rfl) (w.heap.size + 1 + 1) _ (by rfl) E.out.r7 ?_) | fail)
  refine CN.out.mono ?_
  rintro e X2 ⟨rfl, hb⟩
  replace E := hid (E.out.on hb.out)
  clear hb CN
  go_upto_region 4 with (first
    | (refine wp_rst_k rfl (.tmp 7) (.tmp 21) (by with_reducible rfl) s1 (by rfl) (by rfl) E.out.r7 ?_; intro Y1 Q7 h7; replace E := hid (E.out.rd h7 Q7); clear Q7 h7)
    | (refine wp_fst_k rfl 3 (.tmp 23) (.tmp 22) (by with_reducible rfl) 1 (.int .i64 (v1 : Int)) (⟨3, (v1 : Int), 0, 0, 0, 0, D0, false, none, 0, 0, false, 0, 0, none, 0, 0⟩ : Md) (by rfl) (by rfl) rfl (by kernel_rfl) E.out.p6 (by decide) rfl ?_; intro Z1 Q6 h6; replace E := hid (E.out.ml h6 Q6); clear Q6 h6)
    | fail)
  obtain ⟨v2, s2, e2⟩ : ∃ v s, rnD xs s1 1 = (v, s) := ⟨_, _, rfl⟩
  have CN := hid (ernumT (z := 1) ((HY.out.below E.out.b0).mono E.out.b0.size) K0.out (by omega) HX.out)
  obtain ⟨r1, r2, K2, VL2⟩ := rnD_all (fun x hx => HY.out.lt x hx) K0.out (by omega) e2
  rw [r1, r2] at CN
  clear r1 r2
  replace K2 := hid K2
  replace VL2 := hid VL2
  replace e2 := hid e2
  replace K0 := K2
  clear K2
  go_wp2_with (first | (refine wp_rload rfl (.tmp 7) (by with_reducible rfl) (w.heap.size + 1 + 1) _ (by rfl) E.out.r7 ?_) | fail)
  refine CN.out.mono ?_
  rintro e X3 ⟨rfl, hb⟩
  replace E := hid (E.out.on hb.out)
  clear hb CN
  go_upto_region 5 with (first
    | (refine wp_rst_k rfl (.tmp 7) (.tmp 27) (by with_reducible rfl) s2 (by rfl) (by rfl) E.out.r7 ?_; intro Y2 Q7 h7; replace E := hid (E.out.rd h7 Q7); clear Q7 h7)
    | (refine wp_fst_k rfl 3 (.tmp 29) (.tmp 28) (by with_reducible rfl) 2 (.int .i64 (v2 : Int)) (⟨3, (v1 : Int), (v2 : Int), 0, 0, 0, D0, false, none, 0, 0, false, 0, 0, none, 0, 0⟩ : Md) (by rfl) (by rfl) rfl (by kernel_rfl) E.out.p6 (by decide) rfl ?_; intro Z2 Q6 h6; replace E := hid (E.out.ml h6 Q6); clear Q6 h6)
    | fail)
  obtain ⟨v3, s3, e3⟩ : ∃ v s, rnD xs s2 2 = (v, s) := ⟨_, _, rfl⟩
  have CN := hid (ernumT (z := 2) ((HY.out.below E.out.b0).mono E.out.b0.size) K0.out (by omega) HX.out)
  obtain ⟨r1, r2, K3, VL3⟩ := rnD_all (fun x hx => HY.out.lt x hx) K0.out (by omega) e3
  rw [r1, r2] at CN
  clear r1 r2
  replace K3 := hid K3
  replace VL3 := hid VL3
  replace e3 := hid e3
  replace K0 := K3
  clear K3
  go_wp2_with (first | (refine wp_rload rfl (.tmp 7) (by with_reducible rfl) (w.heap.size + 1 + 1) _ (by rfl) E.out.r7 ?_) | fail)
  refine CN.out.mono ?_
  rintro e X4 ⟨rfl, hb⟩
  replace E := hid (E.out.on hb.out)
  clear hb CN
  go_upto_region 6 with (first
    | (refine wp_rst_k rfl (.tmp 7) (.tmp 33) (by with_reducible rfl) s3 (by rfl) (by rfl) E.out.r7 ?_; intro Y3 Q7 h7; replace E := hid (E.out.rd h7 Q7); clear Q7 h7)
    | (refine wp_fst_k rfl 3 (.tmp 35) (.tmp 34) (by with_reducible rfl) 3 (.int .i64 (v3 : Int)) (⟨3, (v1 : Int), (v2 : Int), (v3 : Int), 0, 0, D0, false, none, 0, 0, false, 0, 0, none, 0, 0⟩ : Md) (by rfl) (by rfl) rfl (by kernel_rfl) E.out.p6 (by decide) rfl ?_; intro Z3 Q6 h6; replace E := hid (E.out.ml h6 Q6); clear Q6 h6)
    | fail)
  obtain ⟨v4, s4, e4⟩ : ∃ v s, rnD xs s3 3 = (v, s) := ⟨_, _, rfl⟩
  have CN := hid (ernumT (z := 3) ((HY.out.below E.out.b0).mono E.out.b0.size) K0.out (by omega) HX.out)
  obtain ⟨r1, r2, K4, VL4⟩ := rnD_all (fun x hx => HY.out.lt x hx) K0.out (by omega) e4
  rw [r1, r2] at CN
  clear r1 r2
  replace K4 := hid K4
  replace VL4 := hid VL4
  replace e4 := hid e4
  replace K0 := K4
  clear K4
  go_wp2_with (first | (refine wp_rload rfl (.tmp 7) (by with_reducible rfl) (w.heap.size + 1 + 1) _ (by rfl) E.out.r7 ?_) | fail)
  refine CN.out.mono ?_
  rintro e X5 ⟨rfl, hb⟩
  replace E := hid (E.out.on hb.out)
  clear hb CN
  go_upto_region 7 with (first
    | (refine wp_rst_k rfl (.tmp 7) (.tmp 39) (by with_reducible rfl) s4 (by rfl) (by rfl) E.out.r7 ?_; intro Y4 Q7 h7; replace E := hid (E.out.rd h7 Q7); clear Q7 h7)
    | (refine wp_fst_k rfl 3 (.tmp 41) (.tmp 40) (by with_reducible rfl) 4 (.int .i64 (v4 : Int)) (⟨3, (v1 : Int), (v2 : Int), (v3 : Int), (v4 : Int), 0, D0, false, none, 0, 0, false, 0, 0, none, 0, 0⟩ : Md) (by rfl) (by rfl) rfl (by kernel_rfl) E.out.p6 (by decide) rfl ?_; intro Z4 Q6 h6; replace E := hid (E.out.ml h6 Q6); clear Q6 h6)
    | fail)
  obtain ⟨v5, s5, e5⟩ : ∃ v s, rnD xs s4 3 = (v, s) := ⟨_, _, rfl⟩
  have CN := hid (ernumT (z := 3) ((HY.out.below E.out.b0).mono E.out.b0.size) K0.out (by omega) HX.out)
  obtain ⟨r1, r2, K5, VL5⟩ := rnD_all (fun x hx => HY.out.lt x hx) K0.out (by omega) e5
  rw [r1, r2] at CN
  clear r1 r2
  replace K5 := hid K5
  replace VL5 := hid VL5
  replace e5 := hid e5
  replace K0 := K5
  clear K5
  go_wp2_with (first | (refine wp_rload rfl (.tmp 7) (by with_reducible rfl) (w.heap.size + 1 + 1) _ (by rfl) E.out.r7 ?_) | fail)
  refine CN.out.mono ?_
  rintro e X6 ⟨rfl, hb⟩
  replace E := hid (E.out.on hb.out)
  clear hb CN
  go_upto_region 10 with (first
    | (refine wp_rst_k rfl (.tmp 7) (.tmp 51) (by with_reducible rfl) s5 (by rfl) (by rfl) E.out.r7 ?_; intro Y5 Q7 h7; replace E := hid (E.out.rd h7 Q7); clear Q7 h7)
    | (refine wp_fst_k rfl 3 (.tmp 53) (.tmp 52) (by with_reducible rfl) 5 (.int .i64 (v5 : Int)) (⟨3, (v1 : Int), (v2 : Int), (v3 : Int), (v4 : Int), (v5 : Int), D0, false, none, 0, 0, false, 0, 0, none, 0, 0⟩ : Md) (by rfl) (by rfl) rfl (by kernel_rfl) E.out.p6 (by decide) rfl ?_; intro Z5 Q6 h6; replace E := hid (E.out.ml h6 Q6); clear Q6 h6)
    | fail)
  obtain ⟨d6, s6, e6⟩ : ∃ v s, rdD xs s5 = (v, s) := ⟨_, _, rfl⟩
  have Sb := hid E.out.s1
  have CN := hid (edyadT ((HY.out.below E.out.b0).mono E.out.b0.size) K0.out HX.out)
  obtain ⟨r1, r2, K6⟩ := rdD_all (fun x hx => HY.out.lt x hx) K0.out e6
  rw [r1, r2] at CN
  clear r1 r2
  replace K6 := hid K6
  replace e6 := hid e6
  replace K0 := K6
  clear K6
  go_wp2_with (first | (refine wp_rload rfl (.tmp 7) (by with_reducible rfl) (w.heap.size + 1 + 1) _ (by rfl) E.out.r7 ?_) | fail)
  refine CN.out.mono ?_
  rintro e X7 ⟨D6, rfl, hD6, hb⟩
  replace E := hid (E.out.on hb.out)
  have DV6 := hid hD6.out.2
  have M6 := hid (hD6.out.1.mono (show w.heap.size + 1 + 1 + 1 ≤ _ from Sb.out))
  clear hb CN hD6 Sb
  go_upto_region 17 with (first
    | (refine wp_rst_k rfl (.tmp 7) (.tmp 77) (by with_reducible rfl) s6 (by rfl) (by rfl) E.out.r7 ?_; intro Y6 Q7 h7; replace E := hid (E.out.rd h7 Q7); replace M6 := hid (h7.lim M6.out (by omega)); clear Q7 h7)
    | (refine wp_dyad_k rfl (.tmp 80) (.tmp 78) (by with_reducible rfl) (w.heap.size + 1) 12 D6 (⟨3, (v1 : Int), (v2 : Int), (v3 : Int), (v4 : Int), (v5 : Int), D0, false, none, 0, 0, false, 0, 0, none, 0, 0⟩ : Md) (⟨3, (v1 : Int), (v2 : Int), (v3 : Int), (v4 : Int), (v5 : Int), (of4 d0 d0 D6 d0), false, none, 0, 0, false, 0, 0, none, 0, 0⟩ : Md) (by rfl) (by rfl) E.out.p6 (by decide) rfl ?_; intro Z6 Q6 h6; replace E := hid (E.out.ml h6 Q6); replace M6 := hid (h6.lim M6.out (by omega)); clear Q6 h6)
    | fail)
  obtain ⟨d7, s7, e7⟩ : ∃ v s, rdD xs s6 = (v, s) := ⟨_, _, rfl⟩
  have Sb := hid E.out.s1
  have CN := hid (edyadT ((HY.out.below E.out.b0).mono E.out.b0.size) K0.out HX.out)
  obtain ⟨r1, r2, K7⟩ := rdD_all (fun x hx => HY.out.lt x hx) K0.out e7
  rw [r1, r2] at CN
  clear r1 r2
  replace K7 := hid K7
  replace e7 := hid e7
  replace K0 := K7
  clear K7
  go_wp2_with (first | (refine wp_rload rfl (.tmp 7) (by with_reducible rfl) (w.heap.size + 1 + 1) _ (by rfl) E.out.r7 ?_) | fail)
  refine CN.out.mono ?_
  rintro e X8 ⟨D7, rfl, hD7, hb⟩
  replace E := hid (E.out.on hb.out)
  replace M6 := hid (M6.out.below hb.out (Nat.le_refl _))
  have DV7 := hid hD7.out.2
  have M7 := hid (hD7.out.1.mono (show w.heap.size + 1 + 1 + 1 ≤ _ from Sb.out))
  clear hb CN hD7 Sb
  go_upto_region 43 with (first
    | (refine wp_rst_k rfl (.tmp 7) (.tmp 84) (by with_reducible rfl) s7 (by rfl) (by rfl) E.out.r7 ?_; intro Y7 Q7 h7; replace E := hid (E.out.rd h7 Q7); replace M6 := hid (h7.lim M6.out (by omega)); replace M7 := hid (h7.lim M7.out (by omega)); clear Q7 h7)
    | (refine wp_dyad_k rfl (.tmp 87) (.tmp 85) (by with_reducible rfl) (w.heap.size + 1) 15 D7 (⟨3, (v1 : Int), (v2 : Int), (v3 : Int), (v4 : Int), (v5 : Int), (of4 d0 d0 D6 d0), false, none, 0, 0, false, 0, 0, none, 0, 0⟩ : Md) (⟨3, (v1 : Int), (v2 : Int), (v3 : Int), (v4 : Int), (v5 : Int), (of4 d0 d0 D6 D7), false, none, 0, 0, false, 0, 0, none, 0, 0⟩ : Md) (by rfl) (by rfl) E.out.p6 (by decide) rfl ?_; intro Z7 Q6 h6; replace E := hid (E.out.ml h6 Q6); replace M6 := hid (h6.lim M6.out (by omega)); replace M7 := hid (h6.lim M7.out (by omega)); clear Q6 h6)
    | fail)
  have HAL := hid (show alongP (Wdc xs) (some 0) (mz 3) = ((⟨3, (v1 : Int), (v2 : Int), (v3 : Int), (v4 : Int), (v5 : Int), d0z, d0z, d6, d7, false, [], false, 0, 0, []⟩ : Ml), s7) from by
    simp [alongP, kindP, hedP, headP, Wdc, mz, e1.out, e2.out, e3.out, e4.out, e5.out, e6.out, e7.out])
  have HMP : Hid (s7 ≠ none → ∃ l t, (∀ Y, Hi (w.heap.size + 1 + 1 + 1) Z7 Y → Prd Y Y.heap.size (⟨3, (v1 : Int), (v2 : Int), (v3 : Int), (v4 : Int), (v5 : Int), (of4 d0 d0 D6 D7), false, none, 0, 0, false, 0, 0, none, 0, 0⟩ : Md) l t) ∧ (∀ k, k < 4 → 0 ≤ (((⟨3, (v1 : Int), (v2 : Int), (v3 : Int), (v4 : Int), (v5 : Int), (of4 d0 d0 D6 D7), false, none, 0, 0, false, 0, 0, none, 0, 0⟩ : Md)).D k).x) ∧ mlOf (⟨3, (v1 : Int), (v2 : Int), (v3 : Int), (v4 : Int), (v5 : Int), (of4 d0 d0 D6 D7), false, none, 0, 0, false, 0, 0, none, 0, 0⟩ : Md) l t = (⟨3, (v1 : Int), (v2 : Int), (v3 : Int), (v4 : Int), (v5 : Int), d0z, d0z, d6, d7, false, [], false, 0, 0, []⟩ : Ml)) := hid (fun _ => ⟨[], fun _ => 0, fun Y hi => ⟨show (3 : Nat) < 256 by decide, mrd_of4 (Rd.nil _ _) (Rd.nil _ _) (M6.out.hi hi).rd (M7.out.hi hi).rd, Ds.nil' _ _, Rd.nil _ _⟩, x_of4 (Int.le_refl 0) (Int.le_refl 0) (ddy_dv DV6.out).2 (ddy_dv DV7.out).2, ml_ext rfl rfl rfl rfl rfl rfl rfl rfl (ddy_dv DV6.out).1 (ddy_dv DV7.out).1 rfl rfl rfl rfl rfl rfl⟩)
  obtain ⟨P4, P6, R7, B0, S1⟩ := E.out
  replace P4 := hid P4
  replace P6 := hid P6
  replace R7 := hid R7
  replace B0 := hid B0
  replace S1 := hid S1
  clear E
  have HBX := hid (show By Z7 Z7.heap.size A n c xs from (HY.out.below B0.out).mono B0.out.size)
  clear e1 e2 e3 e4 e5 e6 e7 HX hn5 DV6 M6 DV7 M7 VL1 VL2 VL3 VL4 VL5
  obtain ⟨M', hM'⟩ : ∃ M, M = (⟨3, (v1 : Int), (v2 : Int), (v3 : Int), (v4 : Int), (v5 : Int), d0z, d0z, d6, d7, false, [], false, 0, 0, []⟩ : Ml) := ⟨_, rfl⟩
  rw [← hM'] at HAL HMP
  obtain ⟨m, hm⟩ : ∃ m, m = (⟨3, (v1 : Int), (v2 : Int), (v3 : Int), (v4 : Int), (v5 : Int), (of4 d0 d0 D6 D7), false, none, 0, 0, false, 0, 0, none, 0, 0⟩ : Md) := ⟨_, rfl⟩
  rw [← hm] at HMP P6
  have HKM := hid (show m.kd = 3 by rw [hm])
  replace hm := hid hm
  clear hM'
  have BX : Hid (Below Z7.heap.size Z7 Z7.drew) := hid (Below.refl Z7.heap.size Z7).drew
  have CF : Hid (∀ Y, Below Z7.heap.size Z7 Y → Pbox Y (w.heap.size + 1) m ∧ Rdb Y (w.heap.size + 1 + 1) A n c s7 ∧ ∃ B, By Y B A n c xs) := hid fun Y hb => ⟨P6.out.below hb P6.out.lt, R7.out.below hb R7.out.lt, ⟨_, HBX.out.below hb⟩⟩
  cases s7 with
  | none =>
    refine wp_region_held_drew (S := fun X => Pbox X (w.heap.size + 1) m ∧ Rdb X (w.heap.size + 1 + 1) A n c none ∧ ∃ B, By X B A n c xs) (by kernel_rfl) (CF.out _ BX.out) (fun hHeld => ?_)
    refine tkH (i := 0) (.pointer (some ⟨w.heap.size + 1 + 1, 2, none⟩)) rfl (by kernel_rfl) (fun _ _ _ h => h) (by rfl) (fun _ _ => by go_simp) hHeld ?_
    (try simp only [Act.put, List.setIfInBounds_toArray, List.set_cons_zero, List.set_cons_succ, List.getElem_toArray, List.getElem_cons_zero])
    refine tkH (i := 1) (.bool false) rfl (by kernel_rfl) (fun _ _ _ h => h) (by rfl) (fun w0 hSw => by have hc2 : w0.cell? ⟨w.heap.size + 1 + 1, 2, none⟩ = some (.bool false) := (by rw [cell_of_row w0 _ 2 _ _ (0, 0) hSw.2.1]; rfl); go_simp) hHeld ?_
    (try simp only [Act.put, List.setIfInBounds_toArray, List.set_cons_zero, List.set_cons_succ, List.getElem_toArray, List.getElem_cons_succ, List.getElem_cons_zero])
    refine tkH (i := 2) (.bool true) rfl (by kernel_rfl) (fun _ _ _ h => h) (by rfl) (fun _ _ => by go_simp) hHeld ?_
    (try simp only [Act.put, List.setIfInBounds_toArray, List.set_cons_zero, List.set_cons_succ, List.getElem_toArray, List.getElem_cons_succ, List.getElem_cons_zero])
    refine tkH (i := 3) (.bool true) rfl (by kernel_rfl) (fun _ _ _ h => h) (by rfl) (fun _ _ => by go_simp) hHeld ?_
    (try simp only [Act.put, List.setIfInBounds_toArray, List.set_cons_zero, List.set_cons_succ, List.getElem_toArray, List.getElem_cons_succ, List.getElem_cons_zero])
    refine skH (i := 4) rfl (by kernel_rfl) (fun _ _ _ h => h) (by rfl) hHeld ?_
    (try simp only [Act.put, List.setIfInBounds_toArray, List.set_cons_zero, List.set_cons_succ, List.getElem_toArray, List.getElem_cons_succ, List.getElem_cons_zero])
    refine skH (i := 5) rfl (by kernel_rfl) (fun _ _ _ h => h) (by rfl) hHeld ?_
    (try simp only [Act.put, List.setIfInBounds_toArray, List.set_cons_zero, List.set_cons_succ, List.getElem_toArray, List.getElem_cons_succ, List.getElem_cons_zero])
    refine skH (i := 6) rfl (by kernel_rfl) (fun _ _ _ h => h) (by rfl) hHeld ?_
    (try simp only [Act.put, List.setIfInBounds_toArray, List.set_cons_zero, List.set_cons_succ, List.getElem_toArray, List.getElem_cons_succ, List.getElem_cons_zero])
    refine tkH (i := 7) (.bool true) rfl (by kernel_rfl) (fun _ _ _ h => h) (by rfl) (fun _ _ => by go_simp) hHeld ?_
    (try simp only [Act.put, List.setIfInBounds_toArray, List.set_cons_zero, List.set_cons_succ, List.getElem_toArray, List.getElem_cons_succ, List.getElem_cons_zero])
    refine tkH (i := 8) (.bool true) rfl (by kernel_rfl) (fun _ _ _ h => h) (by rfl) (fun _ _ => by go_simp) hHeld ?_
    (try simp only [Act.put, List.setIfInBounds_toArray, List.set_cons_zero, List.set_cons_succ, List.getElem_toArray, List.getElem_cons_succ, List.getElem_cons_zero])
    refine skH (i := 9) rfl (by kernel_rfl) (fun _ _ _ h => h) (by rfl) hHeld ?_
    (try simp only [Act.put, List.setIfInBounds_toArray, List.set_cons_zero, List.set_cons_succ, List.getElem_toArray, List.getElem_cons_succ, List.getElem_cons_zero])
    refine skH (i := 10) rfl (by kernel_rfl) (fun _ _ _ h => h) (by rfl) hHeld ?_
    (try simp only [Act.put, List.setIfInBounds_toArray, List.set_cons_zero, List.set_cons_succ, List.getElem_toArray, List.getElem_cons_succ, List.getElem_cons_zero])
    refine skH (i := 11) rfl (by kernel_rfl) (fun _ _ _ h => h) (by rfl) hHeld ?_
    (try simp only [Act.put, List.setIfInBounds_toArray, List.set_cons_zero, List.set_cons_succ, List.getElem_toArray, List.getElem_cons_succ, List.getElem_cons_zero])
    refine skH (i := 12) rfl (by kernel_rfl) (fun _ _ _ h => h) (by rfl) hHeld ?_
    (try simp only [Act.put, List.setIfInBounds_toArray, List.set_cons_zero, List.set_cons_succ, List.getElem_toArray, List.getElem_cons_succ, List.getElem_cons_zero])
    refine skH (i := 13) rfl (by kernel_rfl) (fun _ _ _ h => h) (by rfl) hHeld ?_
    (try simp only [Act.put, List.setIfInBounds_toArray, List.set_cons_zero, List.set_cons_succ, List.getElem_toArray, List.getElem_cons_succ, List.getElem_cons_zero])
    refine skH (i := 14) rfl (by kernel_rfl) (fun _ _ _ h => h) (by rfl) hHeld ?_
    (try simp only [Act.put, List.setIfInBounds_toArray, List.set_cons_zero, List.set_cons_succ, List.getElem_toArray, List.getElem_cons_succ, List.getElem_cons_zero])
    refine tkH (i := 15) (.bool true) rfl (by kernel_rfl) (fun _ _ _ h => h) (by rfl) (fun _ _ => by go_simp) hHeld ?_
    (try simp only [Act.put, List.setIfInBounds_toArray, List.set_cons_zero, List.set_cons_succ, List.getElem_toArray, List.getElem_cons_succ, List.getElem_cons_zero])
    refine wpAnyH_done (by kernel_rfl) ?_ _
    have BE := hid (B0.out.trans (BX.out.mono B0.out.size))
    have P4e := hid (P4.out.below BX.out P4.out.lt)
    clear CF P6 R7 HBX
    go_wp2_with (first | (refine wp_row_k rfl 31 (.tmp 4) (.tmp 203) (by with_reducible rfl) w.heap.size 31 (mdc (Mz 0)) (mdc (Mz 0)) (by rfl) (by rfl) P4e.out rfl (by kernel_rfl) (mdc_one _) ?_; intro Ze Q4 h4) | fail)
    refine ret_of rfl (by rfl) (by rfl) rfl (show Pbox Ze w.heap.size (Mz 0) from Q4) ⟨Mz 0, false, rfl, hid (fun h => by cases h), hid (fun _ => ⟨rfl, of_none HAL.out⟩), hid (h4.bel BE.out (Nat.le_refl _))⟩
  | some q =>
    obtain ⟨l, t, hPr, hx4, hml⟩ := HMP.out (by simp)
    replace hPr := hid hPr
    replace hx4 := hid hx4
    replace hml := hid hml
    have CM := hid (fun Y (hb : Below _ _ Y) => pmay_any (P := PMay m l t) (hPr.out Y (Hi.bel hb)) (hid Iff.rfl))
    by_cases hmay : PMay m l t
    · have CC := hid (fun Y (hb : Below _ _ Y) => pcont_any (hPr.out Y (Hi.bel hb)) hmay)
      replace hmay := hid hmay
      refine wp_region_held_drew (S := fun X => Pbox X (w.heap.size + 1) m ∧ Rdb X (w.heap.size + 1 + 1) A n c (some q) ∧ ∃ B, By X B A n c xs) (by kernel_rfl) (CF.out _ BX.out) (fun hHeld => ?_)
      refine tkH (i := 0) (.pointer (some ⟨w.heap.size + 1 + 1, 2, none⟩)) rfl (by kernel_rfl) (fun _ _ _ h => h) (by rfl) (fun _ _ => by go_simp) hHeld ?_
      (try simp only [Act.put, List.setIfInBounds_toArray, List.set_cons_zero, List.set_cons_succ, List.getElem_toArray, List.getElem_cons_zero])
      refine tkH (i := 1) (.bool true) rfl (by kernel_rfl) (fun _ _ _ h => h) (by rfl) (fun w0 hSw => by have hc2 : w0.cell? ⟨w.heap.size + 1 + 1, 2, none⟩ = some (.bool true) := (by rw [cell_of_row w0 _ 2 _ _ (0, 0) hSw.2.1]; rfl); go_simp) hHeld ?_
      (try simp only [Act.put, List.setIfInBounds_toArray, List.set_cons_zero, List.set_cons_succ, List.getElem_toArray, List.getElem_cons_succ, List.getElem_cons_zero])
      refine tkH (i := 2) (.bool false) rfl (by kernel_rfl) (fun _ _ _ h => h) (by rfl) (fun _ _ => by go_simp) hHeld ?_
      (try simp only [Act.put, List.setIfInBounds_toArray, List.set_cons_zero, List.set_cons_succ, List.getElem_toArray, List.getElem_cons_succ, List.getElem_cons_zero])
      refine tkH (i := 3) (.bool false) rfl (by kernel_rfl) (fun _ _ _ h => h) (by rfl) (fun _ _ => by go_simp) hHeld ?_
      (try simp only [Act.put, List.setIfInBounds_toArray, List.set_cons_zero, List.set_cons_succ, List.getElem_toArray, List.getElem_cons_succ, List.getElem_cons_zero])
      refine wpAnyH_take (i := 4) rfl (by kernel_rfl) (by kernel_rfl) (by kernel_rfl) (fun _ _ _ h => h) (yields_pl (by rfl) (.tmp 6) rfl (w.heap.size + 1) m rfl (fun X hX => hX.1)) hHeld ?_
      (try simp only [Act.put, List.setIfInBounds_toArray, List.set_cons_zero, List.set_cons_succ, List.getElem_toArray, List.getElem_cons_succ, List.getElem_cons_zero])
      refine wpAnyH_ready (rs := [5]) (by kernel_rfl) (by simp) ?_
      refine AllReadyH.cons rfl (fun K' hK => ?_) AllReadyH.nil
      (try simp only [Act.put, List.setIfInBounds_toArray, List.set_cons_zero, List.set_cons_succ, List.getElem_toArray, List.getElem_cons_succ, List.getElem_cons_zero])
      go_simp
      refine (CM.out _ BX.out).mono ?_
      rintro e y9 ⟨r, rfl, hr, hb⟩
      replace BX := hid (BX.out.trans (hb.out.mono BX.out.size))
      obtain rfl : r = true := hr.out.2 hmay.out
      clear hb hr
      try dsimp only
      refine hK.out _ _ (CF.out _ BX.out) (fun hHeld => ?_)
      clear hK K'
      (try simp only [Act.put, List.setIfInBounds_toArray, List.set_cons_zero, List.set_cons_succ, List.getElem_toArray, List.getElem_cons_succ, List.getElem_cons_zero])
      refine tkH (i := 6) (.bool false) rfl (by kernel_rfl) (fun _ _ _ h => h) (by rfl) (fun _ _ => by go_simp) hHeld ?_
      (try simp only [Act.put, List.setIfInBounds_toArray, List.set_cons_zero, List.set_cons_succ, List.getElem_toArray, List.getElem_cons_succ, List.getElem_cons_zero])
      refine tkH (i := 7) (.bool false) rfl (by kernel_rfl) (fun _ _ _ h => h) (by rfl) (fun _ _ => by go_simp) hHeld ?_
      (try simp only [Act.put, List.setIfInBounds_toArray, List.set_cons_zero, List.set_cons_succ, List.getElem_toArray, List.getElem_cons_succ, List.getElem_cons_zero])
      refine tkH (i := 8) (.bool false) rfl (by kernel_rfl) (fun _ _ _ h => h) (by rfl) (fun _ _ => by go_simp) hHeld ?_
      (try simp only [Act.put, List.setIfInBounds_toArray, List.set_cons_zero, List.set_cons_succ, List.getElem_toArray, List.getElem_cons_succ, List.getElem_cons_zero])
      refine wpAnyH_take (i := 9) rfl (by kernel_rfl) (by kernel_rfl) (by kernel_rfl) (fun _ _ _ h => h) (yields_pl (by rfl) (.tmp 6) rfl (w.heap.size + 1) m rfl (fun X hX => hX.1)) hHeld ?_
      (try simp only [Act.put, List.setIfInBounds_toArray, List.set_cons_zero, List.set_cons_succ, List.getElem_toArray, List.getElem_cons_succ, List.getElem_cons_zero])
      refine tkH (i := 12) (.slice A n c) rfl (by kernel_rfl) (fun _ _ _ h => h) (by rfl) (fun _ _ => by go_simp) hHeld ?_
      (try simp only [Act.put, List.setIfInBounds_toArray, List.set_cons_zero, List.set_cons_succ, List.getElem_toArray, List.getElem_cons_succ, List.getElem_cons_zero])
      refine tkH (i := 13) (.string (str xs)) rfl (by kernel_rfl) (fun _ _ _ h => h) (by rfl) (fun w0 hSw => by obtain ⟨B', hB'⟩ := hSw.2.2; have cv := conv_any hB'; go_simp) hHeld ?_
      (try simp only [Act.put, List.setIfInBounds_toArray, List.set_cons_zero, List.set_cons_succ, List.getElem_toArray, List.getElem_cons_succ, List.getElem_cons_zero])
      refine wpAnyH_ready (rs := [10]) (by kernel_rfl) (by simp) ?_
      refine AllReadyH.cons rfl (fun K' hK => ?_) AllReadyH.nil
      (try simp only [Act.put, List.setIfInBounds_toArray, List.set_cons_zero, List.set_cons_succ, List.getElem_toArray, List.getElem_cons_succ, List.getElem_cons_zero])
      go_simp
      refine (CC.out _ BX.out).mono ?_
      rintro e y10 ⟨v, rfl, hO, hb⟩
      replace BX := hid (BX.out.trans (hb.out.mono BX.out.size))
      obtain ⟨A', c', rfl, hY2⟩ := hO.out.shape
      have cv := conv_any hY2
      have hyl := hY2.lt
      clear hb hO
      try dsimp only
      refine hK.out _ _ (CF.out _ BX.out) (fun hHeld => ?_)
      clear hK K'
      (try simp only [Act.put, List.setIfInBounds_toArray, List.set_cons_zero, List.set_cons_succ, List.getElem_toArray, List.getElem_cons_succ, List.getElem_cons_zero])
      refine wpAnyH_ready (rs := [11]) (by kernel_rfl) (by simp) ?_
      refine AllReadyH.cons rfl (fun K' hK => ?_) AllReadyH.nil
      (try simp only [Act.put, List.setIfInBounds_toArray, List.set_cons_zero, List.set_cons_succ, List.getElem_toArray, List.getElem_cons_succ, List.getElem_cons_zero])
      go_simp
      refine hK.out _ _ (CF.out _ BX.out) (fun hHeld => ?_)
      clear hK K' cv
      (try simp only [Act.put, List.setIfInBounds_toArray, List.set_cons_zero, List.set_cons_succ, List.getElem_toArray, List.getElem_cons_succ, List.getElem_cons_zero])
      have hsb0 : ((str (cont (mlOf m l t))).toList == (str xs).toList) = decide (cont (mlOf m l t) = xs) := by rw [← str_beq hyl HY.out.lt]; exact (beq_toListBytes _ _).symm
      by_cases heq : cont (mlOf m l t) = xs
      · have hsb : ((str (cont (mlOf m l t))).toList == (str xs).toList) = true := by rw [hsb0]; exact decide_eq_true heq
        replace heq := hid heq
        clear hsb0 hyl
        refine tkH (i := 14) (.bool false) rfl (by kernel_rfl) (fun _ _ _ h => h) (by rfl) (fun _ _ => by go_simp) hHeld ?_
        (try simp only [Act.put, List.setIfInBounds_toArray, List.set_cons_zero, List.set_cons_succ, List.getElem_toArray, List.getElem_cons_succ, List.getElem_cons_zero])
        refine tkH (i := 15) (.bool false) rfl (by kernel_rfl) (fun _ _ _ h => h) (by rfl) (fun _ _ => by go_simp) hHeld ?_
        (try simp only [Act.put, List.setIfInBounds_toArray, List.set_cons_zero, List.set_cons_succ, List.getElem_toArray, List.getElem_cons_succ, List.getElem_cons_zero])
        refine wpAnyH_done (by kernel_rfl) ?_ _
        clear hsb
        have BE := hid (B0.out.trans (BX.out.mono B0.out.size))
        have P4e := hid (P4.out.below BX.out P4.out.lt)
        have P6e := hid (P6.out.below BX.out P6.out.lt)
        have hPe := hid (fun Z (hz : Wq w.heap.size y10 Z) Y (hy : Hi w.heap.size Z Y) => hPr.out Y (((Hi.bel BX.out).wq hz (by omega)).trans (hy.mono (by omega))))
        clear CF R7 HBX CM CC P4 P6 hPr hHeld
        go_wp2_with (first | (refine wp_gmail (by kernel_rfl) (.tmp 6) (by with_reducible rfl) (w.heap.size + 1) m (by rfl) P6e.out ?_) | (refine wp_row_k rfl 31 (.tmp 4) (.tmp 204) (by with_reducible rfl) w.heap.size 31 (mdc (Mz 0)) (mdc m) (by rfl) (by rfl) P4e.out rfl (by kernel_rfl) (mdc_one _) ?_; intro Ze Q4 h4) | fail)
        refine ret_of rfl (by rfl) (by rfl) rfl (show Pbox Ze w.heap.size m from Q4) ⟨m, true, rfl, hid (fun _ => ⟨l, t, hPe.out _ h4, hmay.out, HKM.out, heq.out⟩), hid (fun h => by cases h), hid (h4.bel BE.out (Nat.le_refl _))⟩
      · have hsb : ((str (cont (mlOf m l t))).toList == (str xs).toList) = false := by rw [hsb0]; exact decide_eq_false heq
        replace heq := hid heq
        clear hsb0 hyl
        refine tkH (i := 14) (.bool true) rfl (by kernel_rfl) (fun _ _ _ h => h) (by rfl) (fun _ _ => by go_simp) hHeld ?_
        (try simp only [Act.put, List.setIfInBounds_toArray, List.set_cons_zero, List.set_cons_succ, List.getElem_toArray, List.getElem_cons_succ, List.getElem_cons_zero])
        refine tkH (i := 15) (.bool true) rfl (by kernel_rfl) (fun _ _ _ h => h) (by rfl) (fun _ _ => by go_simp) hHeld ?_
        (try simp only [Act.put, List.setIfInBounds_toArray, List.set_cons_zero, List.set_cons_succ, List.getElem_toArray, List.getElem_cons_succ, List.getElem_cons_zero])
        refine wpAnyH_done (by kernel_rfl) ?_ _
        clear hsb hPr CM CC hHeld
        have BE := hid (B0.out.trans (BX.out.mono B0.out.size))
        have P4e := hid (P4.out.below BX.out P4.out.lt)
        clear CF P6 R7 HBX
        go_wp2_with (first | (refine wp_row_k rfl 31 (.tmp 4) (.tmp 203) (by with_reducible rfl) w.heap.size 31 (mdc (Mz 0)) (mdc (Mz 0)) (by rfl) (by rfl) P4e.out rfl (by kernel_rfl) (mdc_one _) ?_; intro Ze Q4 h4) | fail)
        refine ret_of rfl (by rfl) (by rfl) rfl (show Pbox Ze w.heap.size (Mz 0) from Q4) ⟨Mz 0, false, rfl, hid (fun h => by cases h), hid (fun _ => ⟨rfl, fun M hM hk hc => heq.out (by rw [hml.out, of_some HAL.out M hM hk hc]; exact hc)⟩), hid (h4.bel BE.out (Nat.le_refl _))⟩
    · have hmay := hid hmay
      refine wp_region_held_drew (S := fun X => Pbox X (w.heap.size + 1) m ∧ Rdb X (w.heap.size + 1 + 1) A n c (some q) ∧ ∃ B, By X B A n c xs) (by kernel_rfl) (CF.out _ BX.out) (fun hHeld => ?_)
      refine tkH (i := 0) (.pointer (some ⟨w.heap.size + 1 + 1, 2, none⟩)) rfl (by kernel_rfl) (fun _ _ _ h => h) (by rfl) (fun _ _ => by go_simp) hHeld ?_
      (try simp only [Act.put, List.setIfInBounds_toArray, List.set_cons_zero, List.set_cons_succ, List.getElem_toArray, List.getElem_cons_zero])
      refine tkH (i := 1) (.bool true) rfl (by kernel_rfl) (fun _ _ _ h => h) (by rfl) (fun w0 hSw => by have hc2 : w0.cell? ⟨w.heap.size + 1 + 1, 2, none⟩ = some (.bool true) := (by rw [cell_of_row w0 _ 2 _ _ (0, 0) hSw.2.1]; rfl); go_simp) hHeld ?_
      (try simp only [Act.put, List.setIfInBounds_toArray, List.set_cons_zero, List.set_cons_succ, List.getElem_toArray, List.getElem_cons_succ, List.getElem_cons_zero])
      refine tkH (i := 2) (.bool false) rfl (by kernel_rfl) (fun _ _ _ h => h) (by rfl) (fun _ _ => by go_simp) hHeld ?_
      (try simp only [Act.put, List.setIfInBounds_toArray, List.set_cons_zero, List.set_cons_succ, List.getElem_toArray, List.getElem_cons_succ, List.getElem_cons_zero])
      refine tkH (i := 3) (.bool false) rfl (by kernel_rfl) (fun _ _ _ h => h) (by rfl) (fun _ _ => by go_simp) hHeld ?_
      (try simp only [Act.put, List.setIfInBounds_toArray, List.set_cons_zero, List.set_cons_succ, List.getElem_toArray, List.getElem_cons_succ, List.getElem_cons_zero])
      refine wpAnyH_take (i := 4) rfl (by kernel_rfl) (by kernel_rfl) (by kernel_rfl) (fun _ _ _ h => h) (yields_pl (by rfl) (.tmp 6) rfl (w.heap.size + 1) m rfl (fun X hX => hX.1)) hHeld ?_
      (try simp only [Act.put, List.setIfInBounds_toArray, List.set_cons_zero, List.set_cons_succ, List.getElem_toArray, List.getElem_cons_succ, List.getElem_cons_zero])
      refine wpAnyH_ready (rs := [5]) (by kernel_rfl) (by simp) ?_
      refine AllReadyH.cons rfl (fun K' hK => ?_) AllReadyH.nil
      (try simp only [Act.put, List.setIfInBounds_toArray, List.set_cons_zero, List.set_cons_succ, List.getElem_toArray, List.getElem_cons_succ, List.getElem_cons_zero])
      go_simp
      refine (CM.out _ BX.out).mono ?_
      rintro e y9 ⟨r, rfl, hr, hb⟩
      replace BX := hid (BX.out.trans (hb.out.mono BX.out.size))
      obtain rfl : r = false := by cases r with | false => rfl | true => exact absurd (hr.out.1 rfl) hmay.out
      clear hb hr
      try dsimp only
      refine hK.out _ _ (CF.out _ BX.out) (fun hHeld => ?_)
      clear hK K'
      (try simp only [Act.put, List.setIfInBounds_toArray, List.set_cons_zero, List.set_cons_succ, List.getElem_toArray, List.getElem_cons_succ, List.getElem_cons_zero])
      refine tkH (i := 6) (.bool true) rfl (by kernel_rfl) (fun _ _ _ h => h) (by rfl) (fun _ _ => by go_simp) hHeld ?_
      (try simp only [Act.put, List.setIfInBounds_toArray, List.set_cons_zero, List.set_cons_succ, List.getElem_toArray, List.getElem_cons_succ, List.getElem_cons_zero])
      refine tkH (i := 7) (.bool true) rfl (by kernel_rfl) (fun _ _ _ h => h) (by rfl) (fun _ _ => by go_simp) hHeld ?_
      (try simp only [Act.put, List.setIfInBounds_toArray, List.set_cons_zero, List.set_cons_succ, List.getElem_toArray, List.getElem_cons_succ, List.getElem_cons_zero])
      refine tkH (i := 8) (.bool true) rfl (by kernel_rfl) (fun _ _ _ h => h) (by rfl) (fun _ _ => by go_simp) hHeld ?_
      (try simp only [Act.put, List.setIfInBounds_toArray, List.set_cons_zero, List.set_cons_succ, List.getElem_toArray, List.getElem_cons_succ, List.getElem_cons_zero])
      refine skH (i := 9) rfl (by kernel_rfl) (fun _ _ _ h => h) (by rfl) hHeld ?_
      (try simp only [Act.put, List.setIfInBounds_toArray, List.set_cons_zero, List.set_cons_succ, List.getElem_toArray, List.getElem_cons_succ, List.getElem_cons_zero])
      refine skH (i := 10) rfl (by kernel_rfl) (fun _ _ _ h => h) (by rfl) hHeld ?_
      (try simp only [Act.put, List.setIfInBounds_toArray, List.set_cons_zero, List.set_cons_succ, List.getElem_toArray, List.getElem_cons_succ, List.getElem_cons_zero])
      refine skH (i := 11) rfl (by kernel_rfl) (fun _ _ _ h => h) (by rfl) hHeld ?_
      (try simp only [Act.put, List.setIfInBounds_toArray, List.set_cons_zero, List.set_cons_succ, List.getElem_toArray, List.getElem_cons_succ, List.getElem_cons_zero])
      refine skH (i := 12) rfl (by kernel_rfl) (fun _ _ _ h => h) (by rfl) hHeld ?_
      (try simp only [Act.put, List.setIfInBounds_toArray, List.set_cons_zero, List.set_cons_succ, List.getElem_toArray, List.getElem_cons_succ, List.getElem_cons_zero])
      refine skH (i := 13) rfl (by kernel_rfl) (fun _ _ _ h => h) (by rfl) hHeld ?_
      (try simp only [Act.put, List.setIfInBounds_toArray, List.set_cons_zero, List.set_cons_succ, List.getElem_toArray, List.getElem_cons_succ, List.getElem_cons_zero])
      refine skH (i := 14) rfl (by kernel_rfl) (fun _ _ _ h => h) (by rfl) hHeld ?_
      (try simp only [Act.put, List.setIfInBounds_toArray, List.set_cons_zero, List.set_cons_succ, List.getElem_toArray, List.getElem_cons_succ, List.getElem_cons_zero])
      refine tkH (i := 15) (.bool true) rfl (by kernel_rfl) (fun _ _ _ h => h) (by rfl) (fun _ _ => by go_simp) hHeld ?_
      (try simp only [Act.put, List.setIfInBounds_toArray, List.set_cons_zero, List.set_cons_succ, List.getElem_toArray, List.getElem_cons_succ, List.getElem_cons_zero])
      refine wpAnyH_done (by kernel_rfl) ?_ _
      have hnm := hid (fun M hM hk hc => hmay.out ((may_iff (hPr.out _ (Hi.bel (Below.refl _ _))) hx4.out).2 (by rw [hml.out, of_some HAL.out M hM hk hc]; exact hM)))
      clear CM hPr hHeld
      have BE := hid (B0.out.trans (BX.out.mono B0.out.size))
      have P4e := hid (P4.out.below BX.out P4.out.lt)
      clear CF P6 R7 HBX
      go_wp2_with (first | (refine wp_row_k rfl 31 (.tmp 4) (.tmp 203) (by with_reducible rfl) w.heap.size 31 (mdc (Mz 0)) (mdc (Mz 0)) (by rfl) (by rfl) P4e.out rfl (by kernel_rfl) (mdc_one _) ?_; intro Ze Q4 h4) | fail)
      refine ret_of rfl (by rfl) (by rfl) rfl (show Pbox Ze w.heap.size (Mz 0) from Q4) ⟨Mz 0, false, rfl, hid (fun h => by cases h), hid (fun _ => ⟨rfl, hnm.out⟩), hid (h4.bel BE.out (Nat.le_refl _))⟩
end Go.Proofs.YtbankbehfjogpaaGreat
