/- The document's Of, of a kind that is none. -/
import Derived.Test.YtbankbehfjogpaaGreatVar
namespace Go.Proofs.YtbankbehfjogpaaGreat
open Go.RowKit Go.Shelf Go.Lib
set_option maxRecDepth 100000
set_option maxHeartbeats 25600000 in
theorem pof_kx {w : World} {A : Option Addr} {n c : Nat} {xs : List Nat} {K : Nat} (h : By w w.heap.size A n c xs) (hx : xs.length ≤ 5000) (hK : K < 256) (hk : K = 0 ∨ 6 < K) :
    Calls Tryz.prog 31 #[.int .u8 (K : Int), .slice A n c] w (OfRes w K xs) := by
  have HY := hid h
  have HX := hid hx
  have hn5 := h.len
  replace hn5 := hid hn5
  have kn := hid (show K ≠ 1 ∧ K ≠ 2 ∧ K ≠ 3 ∧ K ≠ 4 ∧ K ≠ 5 ∧ K ≠ 6 by omega)
  have kk1 : ((K : Int) == 1) = false := by simp; omega
  have kk2 : ((K : Int) == 2) = false := by simp; omega
  have kk3 : ((K : Int) == 3) = false := by simp; omega
  have kk4 : ((K : Int) == 4) = false := by simp; omega
  have kk5 : ((K : Int) == 5) = false := by simp; omega
  have kk6 : ((K : Int) == 6) = false := by simp; omega
  replace hK := hid hK
  clear hk
  clear h hx
  go_enter Tryz.func31, Tryz.ntmps31
  obtain ⟨W0, hW0⟩ : ∃ W, W = (w.alloc (.cells (mdc (Mz 0)) 31)).alloc (.cells (mdc (Mz 0)) 31) := ⟨_, rfl⟩
  have P4 := hid (show Pbox W0 w.heap.size (Mz 0) from hW0 ▸ pheap0 w _ _)
  have P6 := hid (show Pbox W0 (w.heap.size + 1) (Mz 0) from hW0 ▸ pheap1 w _ _)
  have B0 := hid (show Below w.heap.size w W0 from hW0 ▸ ((Below.refl _ w).alloc (Nat.le_refl _) _).alloc (by simp) _)
  have S0 := hid (show W0.heap.size = w.heap.size + 1 + 1 by rw [hW0]; simp)
  replace hW0 := hid hW0
  go_upto_region 2 with (first
    | (refine wp_row_k rfl 31 (.tmp 6) (.tmp 14) (by with_reducible rfl) (w.heap.size + 1) 31 (mdc (Mz 0)) (mdc (⟨K, 0, 0, 0, 0, 0, D0, false, none, 0, 0, false, 0, 0, none, 0, 0⟩ : Md)) (by rfl) (by rfl) (show Pbox ((w.alloc (.cells (mdc (Mz 0)) 31)).alloc (.cells (mdc (Mz 0)) 31)) (w.heap.size + 1) (Mz 0) from pheap1 w _ _) rfl (by kernel_rfl) (mdc_one _) ?_; intro X0 Q6 h6; replace h6 := (show Wq (w.heap.size + 1) W0 X0 from hW0.out ▸ h6))
    | fail)
  replace P4 := hid (h6.pbox P4.out (by omega))
  replace B0 := hid (h6.bel B0.out (by omega))
  replace S0 := hid (h6.size.symm.trans S0.out)
  replace P6 := hid (show Pbox X0 (w.heap.size + 1) (⟨K, 0, 0, 0, 0, 0, D0, false, none, 0, 0, false, 0, 0, none, 0, 0⟩ : Md) from Q6)
  clear Q6 h6 hW0
  obtain ⟨X1, hX1⟩ : ∃ X, X = X0.alloc (.cells (rdc A n c (some 0)) 106) := ⟨_, rfl⟩
  have R7 := hid (show Rdb X1 (w.heap.size + 1 + 1) A n c (some 0) from hX1 ▸ S0.out ▸ heap_alloc_new X0 _)
  have KX := hid (show Below X0.heap.size X0 X1 from hX1 ▸ (Below.refl _ X0).alloc (Nat.le_refl _) _)
  replace P4 := hid (P4.out.below KX.out P4.out.lt)
  replace P6 := hid (P6.out.below KX.out P6.out.lt)
  replace B0 := hid (B0.out.trans (KX.out.mono B0.out.size))
  have S1 := hid (show w.heap.size + 1 + 1 < X1.heap.size from lt_of_heap R7.out)
  replace hX1 := hid hX1
  clear KX
  have hs0 := S0.out
  go_upto_region 3 with fail
  change Code.wp _ _ _ _ (X0.alloc (.cells (rdc A n c (some 0)) 106))
  try rw [hs0]
  rw [← hX1.out]
  clear hX1 hs0 S0
  have E := hid (show Ev w X1 A n c (some 0) (⟨K, 0, 0, 0, 0, 0, D0, false, none, 0, 0, false, 0, 0, none, 0, 0⟩ : Md) from ⟨P4.out, P6.out, R7.out, B0.out, S1.out⟩)
  clear P4 P6 R7 B0 S1
  have K0 := hid (show Rok xs (some 0) from fun q hq => by injection hq with hq; omega)
  obtain ⟨v1, s1, e1⟩ : ∃ v s, rnD xs (some 0) 1 = (v, s) := ⟨_, _, rfl⟩
  have CN := hid (ernumT (z := 1) ((HY.out.below E.out.b0).mono E.out.b0.size) K0.out (by omega) HX.out)
  obtain ⟨r1, r2, K1, VL1⟩ := rnD_all (fun x hx => HY.out.lt x hx) K0.out (by omega) e1
  rw [r1, r2] at CN
  clear r1 r2
  replace K1 := hid K1
  replace VL1 := hid VL1
  replace e1 := hid e1
  replace K0 := K1
  clear K1
  go_wp2_with (first | (refine wp_rload rfl (.tmp 7) (by with_reducible rfl) (w.heap.size + 1 + 1) _ (by rfl) E.out.r7 ?_) | fail)
  refine CN.out.mono ?_
  rintro e X2 ⟨rfl, hb⟩
  replace E := hid (E.out.on hb.out)
  clear hb CN
  go_upto_region 4 with (first
    | (refine wp_rst_k rfl (.tmp 7) (.tmp 21) (by with_reducible rfl) s1 (by rfl) (by rfl) E.out.r7 ?_; intro Y1 Q7 h7; replace E := hid (E.out.rd h7 Q7); clear Q7 h7)
    | (refine wp_fst_k rfl 3 (.tmp 23) (.tmp 22) (by with_reducible rfl) 1 (.int .i64 (v1 : Int)) (⟨K, (v1 : Int), 0, 0, 0, 0, D0, false, none, 0, 0, false, 0, 0, none, 0, 0⟩ : Md) (by rfl) (by rfl) rfl (by kernel_rfl) E.out.p6 (by decide) rfl ?_; intro Z1 Q6 h6; replace E := hid (E.out.ml h6 Q6); clear Q6 h6)
    | fail)
  obtain ⟨v2, s2, e2⟩ : ∃ v s, rnD xs s1 1 = (v, s) := ⟨_, _, rfl⟩
  have CN := hid (ernumT (z := 1) ((HY.out.below E.out.b0).mono E.out.b0.size) K0.out (by omega) HX.out)
  obtain ⟨r1, r2, K2, VL2⟩ := rnD_all (fun x hx => HY.out.lt x hx) K0.out (by omega) e2
  rw [r1, r2] at CN
  clear r1 r2
  replace K2 := hid K2
  replace VL2 := hid VL2
  replace e2 := hid e2
  replace K0 := K2
  clear K2
  go_wp2_with (first | (refine wp_rload rfl (.tmp 7) (by with_reducible rfl) (w.heap.size + 1 + 1) _ (by rfl) E.out.r7 ?_) | fail)
  refine CN.out.mono ?_
  rintro e X3 ⟨rfl, hb⟩
  replace E := hid (E.out.on hb.out)
  clear hb CN
  go_upto_region 5 with (first
    | (refine wp_rst_k rfl (.tmp 7) (.tmp 27) (by with_reducible rfl) s2 (by rfl) (by rfl) E.out.r7 ?_; intro Y2 Q7 h7; replace E := hid (E.out.rd h7 Q7); clear Q7 h7)
    | (refine wp_fst_k rfl 3 (.tmp 29) (.tmp 28) (by with_reducible rfl) 2 (.int .i64 (v2 : Int)) (⟨K, (v1 : Int), (v2 : Int), 0, 0, 0, D0, false, none, 0, 0, false, 0, 0, none, 0, 0⟩ : Md) (by rfl) (by rfl) rfl (by kernel_rfl) E.out.p6 (by decide) rfl ?_; intro Z2 Q6 h6; replace E := hid (E.out.ml h6 Q6); clear Q6 h6)
    | fail)
  obtain ⟨v3, s3, e3⟩ : ∃ v s, rnD xs s2 2 = (v, s) := ⟨_, _, rfl⟩
  have CN := hid (ernumT (z := 2) ((HY.out.below E.out.b0).mono E.out.b0.size) K0.out (by omega) HX.out)
  obtain ⟨r1, r2, K3, VL3⟩ := rnD_all (fun x hx => HY.out.lt x hx) K0.out (by omega) e3
  rw [r1, r2] at CN
  clear r1 r2
  replace K3 := hid K3
  replace VL3 := hid VL3
  replace e3 := hid e3
  replace K0 := K3
  clear K3
  go_wp2_with (first | (refine wp_rload rfl (.tmp 7) (by with_reducible rfl) (w.heap.size + 1 + 1) _ (by rfl) E.out.r7 ?_) | fail)
  refine CN.out.mono ?_
  rintro e X4 ⟨rfl, hb⟩
  replace E := hid (E.out.on hb.out)
  clear hb CN
  go_upto_region 6 with (first
    | (refine wp_rst_k rfl (.tmp 7) (.tmp 33) (by with_reducible rfl) s3 (by rfl) (by rfl) E.out.r7 ?_; intro Y3 Q7 h7; replace E := hid (E.out.rd h7 Q7); clear Q7 h7)
    | (refine wp_fst_k rfl 3 (.tmp 35) (.tmp 34) (by with_reducible rfl) 3 (.int .i64 (v3 : Int)) (⟨K, (v1 : Int), (v2 : Int), (v3 : Int), 0, 0, D0, false, none, 0, 0, false, 0, 0, none, 0, 0⟩ : Md) (by rfl) (by rfl) rfl (by kernel_rfl) E.out.p6 (by decide) rfl ?_; intro Z3 Q6 h6; replace E := hid (E.out.ml h6 Q6); clear Q6 h6)
    | fail)
  obtain ⟨v4, s4, e4⟩ : ∃ v s, rnD xs s3 3 = (v, s) := ⟨_, _, rfl⟩
  have CN := hid (ernumT (z := 3) ((HY.out.below E.out.b0).mono E.out.b0.size) K0.out (by omega) HX.out)
  obtain ⟨r1, r2, K4, VL4⟩ := rnD_all (fun x hx => HY.out.lt x hx) K0.out (by omega) e4
  rw [r1, r2] at CN
  clear r1 r2
  replace K4 := hid K4
  replace VL4 := hid VL4
  replace e4 := hid e4
  replace K0 := K4
  clear K4
  go_wp2_with (first | (refine wp_rload rfl (.tmp 7) (by with_reducible rfl) (w.heap.size + 1 + 1) _ (by rfl) E.out.r7 ?_) | fail)
  refine CN.out.mono ?_
  rintro e X5 ⟨rfl, hb⟩
  replace E := hid (E.out.on hb.out)
  clear hb CN
  go_upto_region 43 with (first
    | (refine wp_rst_k rfl (.tmp 7) (.tmp 39) (by with_reducible rfl) s4 (by rfl) (by rfl) E.out.r7 ?_; intro Y4 Q7 h7; replace E := hid (E.out.rd h7 Q7); clear Q7 h7)
    | (refine wp_fst_k rfl 3 (.tmp 41) (.tmp 40) (by with_reducible rfl) 4 (.int .i64 (v4 : Int)) (⟨K, (v1 : Int), (v2 : Int), (v3 : Int), (v4 : Int), 0, D0, false, none, 0, 0, false, 0, 0, none, 0, 0⟩ : Md) (by rfl) (by rfl) rfl (by kernel_rfl) E.out.p6 (by decide) rfl ?_; intro Z4 Q6 h6; replace E := hid (E.out.ml h6 Q6); clear Q6 h6)
    | fail)
  have HAL := hid (show alongP (Wdc xs) (some 0) (mz K) = ((⟨K, (v1 : Int), (v2 : Int), (v3 : Int), (v4 : Int), 0, d0z, d0z, d0z, d0z, false, [], false, 0, 0, []⟩ : Ml), s4) from by
    simp [alongP, kindP, hedP, headP, Wdc, mz, e1.out, e2.out, e3.out, e4.out, kn.out.1, kn.out.2.1, kn.out.2.2.1, kn.out.2.2.2.1, kn.out.2.2.2.2.1, kn.out.2.2.2.2.2])
  have HMP : Hid (s4 ≠ none → ∃ l t, (∀ Y, Hi (w.heap.size + 1 + 1 + 1) Z4 Y → Prd Y Y.heap.size (⟨K, (v1 : Int), (v2 : Int), (v3 : Int), (v4 : Int), 0, D0, false, none, 0, 0, false, 0, 0, none, 0, 0⟩ : Md) l t) ∧ (∀ k, k < 4 → 0 ≤ (((⟨K, (v1 : Int), (v2 : Int), (v3 : Int), (v4 : Int), 0, D0, false, none, 0, 0, false, 0, 0, none, 0, 0⟩ : Md)).D k).x) ∧ mlOf (⟨K, (v1 : Int), (v2 : Int), (v3 : Int), (v4 : Int), 0, D0, false, none, 0, 0, false, 0, 0, none, 0, 0⟩ : Md) l t = (⟨K, (v1 : Int), (v2 : Int), (v3 : Int), (v4 : Int), 0, d0z, d0z, d0z, d0z, false, [], false, 0, 0, []⟩ : Ml)) := hid (fun _ => ⟨[], fun _ => 0, fun Y hi => ⟨hK.out, fun _ _ => Rd.nil _ _, Ds.nil' _ _, Rd.nil _ _⟩, fun _ _ => Int.le_refl 0, ml_ext rfl rfl rfl rfl rfl rfl rfl rfl rfl rfl rfl rfl rfl rfl rfl rfl⟩)
  obtain ⟨P4, P6, R7, B0, S1⟩ := E.out
  replace P4 := hid P4
  replace P6 := hid P6
  replace R7 := hid R7
  replace B0 := hid B0
  replace S1 := hid S1
  clear E
  have HBX := hid (show By Z4 Z4.heap.size A n c xs from (HY.out.below B0.out).mono B0.out.size)
  clear e1 e2 e3 e4 HX hn5  VL1 VL2 VL3 VL4
  obtain ⟨M', hM'⟩ : ∃ M, M = (⟨K, (v1 : Int), (v2 : Int), (v3 : Int), (v4 : Int), 0, d0z, d0z, d0z, d0z, false, [], false, 0, 0, []⟩ : Ml) := ⟨_, rfl⟩
  rw [← hM'] at HAL HMP
  obtain ⟨m, hm⟩ : ∃ m, m = (⟨K, (v1 : Int), (v2 : Int), (v3 : Int), (v4 : Int), 0, D0, false, none, 0, 0, false, 0, 0, none, 0, 0⟩ : Md) := ⟨_, rfl⟩
  rw [← hm] at HMP P6
  have HKM := hid (show m.kd = K by rw [hm])
  replace hm := hid hm
  clear hM'
  have BX : Hid (Below Z4.heap.size Z4 Z4.drew) := hid (Below.refl Z4.heap.size Z4).drew
  have CF : Hid (∀ Y, Below Z4.heap.size Z4 Y → Pbox Y (w.heap.size + 1) m ∧ Rdb Y (w.heap.size + 1 + 1) A n c s4 ∧ ∃ B, By Y B A n c xs) := hid fun Y hb => ⟨P6.out.below hb P6.out.lt, R7.out.below hb R7.out.lt, ⟨_, HBX.out.below hb⟩⟩
  cases s4 with
  | none =>
    refine wp_region_held_drew (S := fun X => Pbox X (w.heap.size + 1) m ∧ Rdb X (w.heap.size + 1 + 1) A n c none ∧ ∃ B, By X B A n c xs) (by kernel_rfl) (CF.out _ BX.out) (fun hHeld => ?_)
    refine tkH (i := 0) (.pointer (some ⟨w.heap.size + 1 + 1, 2, none⟩)) rfl (by kernel_rfl) (fun _ _ _ h => h) (by rfl) (fun _ _ => by go_simp) hHeld ?_
    (try simp only [Act.put, List.setIfInBounds_toArray, List.set_cons_zero, List.set_cons_succ, List.getElem_toArray, List.getElem_cons_zero])
    refine tkH (i := 1) (.bool false) rfl (by kernel_rfl) (fun _ _ _ h => h) (by rfl) (fun w0 hSw => by have hc2 : w0.cell? ⟨w.heap.size + 1 + 1, 2, none⟩ = some (.bool false) := (by rw [cell_of_row w0 _ 2 _ _ (0, 0) hSw.2.1]; rfl); go_simp) hHeld ?_
    (try simp only [Act.put, List.setIfInBounds_toArray, List.set_cons_zero, List.set_cons_succ, List.getElem_toArray, List.getElem_cons_succ, List.getElem_cons_zero])
    refine tkH (i := 2) (.bool true) rfl (by kernel_rfl) (fun _ _ _ h => h) (by rfl) (fun _ _ => by go_simp) hHeld ?_
    (try simp only [Act.put, List.setIfInBounds_toArray, List.set_cons_zero, List.set_cons_succ, List.getElem_toArray, List.getElem_cons_succ, List.getElem_cons_zero])
    refine tkH (i := 3) (.bool true) rfl (by kernel_rfl) (fun _ _ _ h => h) (by rfl) (fun _ _ => by go_simp) hHeld ?_
    (try simp only [Act.put, List.setIfInBounds_toArray, List.set_cons_zero, List.set_cons_succ, List.getElem_toArray, List.getElem_cons_succ, List.getElem_cons_zero])
    refine skH (i := 4) rfl (by kernel_rfl) (fun _ _ _ h => h) (by rfl) hHeld ?_
    (try simp only [Act.put, List.setIfInBounds_toArray, List.set_cons_zero, List.set_cons_succ, List.getElem_toArray, List.getElem_cons_succ, List.getElem_cons_zero])
    refine skH (i := 5) rfl (by kernel_rfl) (fun _ _ _ h => h) (by rfl) hHeld ?_
    (try simp only [Act.put, List.setIfInBounds_toArray, List.set_cons_zero, List.set_cons_succ, List.getElem_toArray, List.getElem_cons_succ, List.getElem_cons_zero])
    refine skH (i := 6) rfl (by kernel_rfl) (fun _ _ _ h => h) (by rfl) hHeld ?_
    (try simp only [Act.put, List.setIfInBounds_toArray, List.set_cons_zero, List.set_cons_succ, List.getElem_toArray, List.getElem_cons_succ, List.getElem_cons_zero])
    refine tkH (i := 7) (.bool true) rfl (by kernel_rfl) (fun _ _ _ h => h) (by rfl) (fun _ _ => by go_simp) hHeld ?_
    (try simp only [Act.put, List.setIfInBounds_toArray, List.set_cons_zero, List.set_cons_succ, List.getElem_toArray, List.getElem_cons_succ, List.getElem_cons_zero])
    refine tkH (i := 8) (.bool true) rfl (by kernel_rfl) (fun _ _ _ h => h) (by rfl) (fun _ _ => by go_simp) hHeld ?_
    (try simp only [Act.put, List.setIfInBounds_toArray, List.set_cons_zero, List.set_cons_succ, List.getElem_toArray, List.getElem_cons_succ, List.getElem_cons_zero])
    refine skH (i := 9) rfl (by kernel_rfl) (fun _ _ _ h => h) (by rfl) hHeld ?_
    (try simp only [Act.put, List.setIfInBounds_toArray, List.set_cons_zero, List.set_cons_succ, List.getElem_toArray, List.getElem_cons_succ, List.getElem_cons_zero])
    refine skH (i := 10) rfl (by kernel_rfl) (fun _ _ _ h => h) (by rfl) hHeld ?_
    (try simp only [Act.put, List.setIfInBounds_toArray, List.set_cons_zero, List.set_cons_succ, List.getElem_toArray, List.getElem_cons_succ, List.getElem_cons_zero])
    refine skH (i := 11) rfl (by kernel_rfl) (fun _ _ _ h => h) (by rfl) hHeld ?_
    (try simp only [Act.put, List.setIfInBounds_toArray, List.set_cons_zero, List.set_cons_succ, List.getElem_toArray, List.getElem_cons_succ, List.getElem_cons_zero])
    refine skH (i := 12) rfl (by kernel_rfl) (fun _ _ _ h => h) (by rfl) hHeld ?_
    (try simp only [Act.put, List.setIfInBounds_toArray, List.set_cons_zero, List.set_cons_succ, List.getElem_toArray, List.getElem_cons_succ, List.getElem_cons_zero])
    refine skH (i := 13) rfl (by kernel_rfl) (fun _ _ _ h => h) (by rfl) hHeld ?_
    (try simp only [Act.put, List.setIfInBounds_toArray, List.set_cons_zero, List.set_cons_succ, List.getElem_toArray, List.getElem_cons_succ, List.getElem_cons_zero])
    refine skH (i := 14) rfl (by kernel_rfl) (fun _ _ _ h => h) (by rfl) hHeld ?_
    (try simp only [Act.put, List.setIfInBounds_toArray, List.set_cons_zero, List.set_cons_succ, List.getElem_toArray, List.getElem_cons_succ, List.getElem_cons_zero])
    refine tkH (i := 15) (.bool true) rfl (by kernel_rfl) (fun _ _ _ h => h) (by rfl) (fun _ _ => by go_simp) hHeld ?_
    (try simp only [Act.put, List.setIfInBounds_toArray, List.set_cons_zero, List.set_cons_succ, List.getElem_toArray, List.getElem_cons_succ, List.getElem_cons_zero])
    refine wpAnyH_done (by kernel_rfl) ?_ _
    have BE := hid (B0.out.trans (BX.out.mono B0.out.size))
    have P4e := hid (P4.out.below BX.out P4.out.lt)
    clear CF P6 R7 HBX
    go_wp2_with (first | (refine wp_row_k rfl 31 (.tmp 4) (.tmp 203) (by with_reducible rfl) w.heap.size 31 (mdc (Mz 0)) (mdc (Mz 0)) (by rfl) (by rfl) P4e.out rfl (by kernel_rfl) (mdc_one _) ?_; intro Ze Q4 h4) | fail)
    refine ret_of rfl (by rfl) (by rfl) rfl (show Pbox Ze w.heap.size (Mz 0) from Q4) ⟨Mz 0, false, rfl, hid (fun h => by cases h), hid (fun _ => ⟨rfl, of_none HAL.out⟩), hid (h4.bel BE.out (Nat.le_refl _))⟩
  | some q =>
    obtain ⟨l, t, hPr, hx4, hml⟩ := HMP.out (by simp)
    replace hPr := hid hPr
    replace hx4 := hid hx4
    replace hml := hid hml
    have CM := hid (fun Y (hb : Below _ _ Y) => pmay_any (P := PMay m l t) (hPr.out Y (Hi.bel hb)) (hid Iff.rfl))
    have hmay : ¬ PMay m l t := fun hq => by have h1 := hq.1; rw [HKM.out] at h1; have := kn.out; omega
    · have hmay := hid hmay
      refine wp_region_held_drew (S := fun X => Pbox X (w.heap.size + 1) m ∧ Rdb X (w.heap.size + 1 + 1) A n c (some q) ∧ ∃ B, By X B A n c xs) (by kernel_rfl) (CF.out _ BX.out) (fun hHeld => ?_)
      refine tkH (i := 0) (.pointer (some ⟨w.heap.size + 1 + 1, 2, none⟩)) rfl (by kernel_rfl) (fun _ _ _ h => h) (by rfl) (fun _ _ => by go_simp) hHeld ?_
      (try simp only [Act.put, List.setIfInBounds_toArray, List.set_cons_zero, List.set_cons_succ, List.getElem_toArray, List.getElem_cons_zero])
      refine tkH (i := 1) (.bool true) rfl (by kernel_rfl) (fun _ _ _ h => h) (by rfl) (fun w0 hSw => by have hc2 : w0.cell? ⟨w.heap.size + 1 + 1, 2, none⟩ = some (.bool true) := (by rw [cell_of_row w0 _ 2 _ _ (0, 0) hSw.2.1]; rfl); go_simp) hHeld ?_
      (try simp only [Act.put, List.setIfInBounds_toArray, List.set_cons_zero, List.set_cons_succ, List.getElem_toArray, List.getElem_cons_succ, List.getElem_cons_zero])
      refine tkH (i := 2) (.bool false) rfl (by kernel_rfl) (fun _ _ _ h => h) (by rfl) (fun _ _ => by go_simp) hHeld ?_
      (try simp only [Act.put, List.setIfInBounds_toArray, List.set_cons_zero, List.set_cons_succ, List.getElem_toArray, List.getElem_cons_succ, List.getElem_cons_zero])
      refine tkH (i := 3) (.bool false) rfl (by kernel_rfl) (fun _ _ _ h => h) (by rfl) (fun _ _ => by go_simp) hHeld ?_
      (try simp only [Act.put, List.setIfInBounds_toArray, List.set_cons_zero, List.set_cons_succ, List.getElem_toArray, List.getElem_cons_succ, List.getElem_cons_zero])
      refine wpAnyH_take (i := 4) rfl (by kernel_rfl) (by kernel_rfl) (by kernel_rfl) (fun _ _ _ h => h) (yields_pl (by rfl) (.tmp 6) rfl (w.heap.size + 1) m rfl (fun X hX => hX.1)) hHeld ?_
      (try simp only [Act.put, List.setIfInBounds_toArray, List.set_cons_zero, List.set_cons_succ, List.getElem_toArray, List.getElem_cons_succ, List.getElem_cons_zero])
      refine wpAnyH_ready (rs := [5]) (by kernel_rfl) (by simp) ?_
      refine AllReadyH.cons rfl (fun K' hK => ?_) AllReadyH.nil
      (try simp only [Act.put, List.setIfInBounds_toArray, List.set_cons_zero, List.set_cons_succ, List.getElem_toArray, List.getElem_cons_succ, List.getElem_cons_zero])
      go_simp
      refine (CM.out _ BX.out).mono ?_
      rintro e y9 ⟨r, rfl, hr, hb⟩
      replace BX := hid (BX.out.trans (hb.out.mono BX.out.size))
      obtain rfl : r = false := by cases r with | false => rfl | true => exact absurd (hr.out.1 rfl) hmay.out
      clear hb hr
      try dsimp only
      refine hK.out _ _ (CF.out _ BX.out) (fun hHeld => ?_)
      clear hK K'
      (try simp only [Act.put, List.setIfInBounds_toArray, List.set_cons_zero, List.set_cons_succ, List.getElem_toArray, List.getElem_cons_succ, List.getElem_cons_zero])
      refine tkH (i := 6) (.bool true) rfl (by kernel_rfl) (fun _ _ _ h => h) (by rfl) (fun _ _ => by go_simp) hHeld ?_
      (try simp only [Act.put, List.setIfInBounds_toArray, List.set_cons_zero, List.set_cons_succ, List.getElem_toArray, List.getElem_cons_succ, List.getElem_cons_zero])
      refine tkH (i := 7) (.bool true) rfl (by kernel_rfl) (fun _ _ _ h => h) (by rfl) (fun _ _ => by go_simp) hHeld ?_
      (try simp only [Act.put, List.setIfInBounds_toArray, List.set_cons_zero, List.set_cons_succ, List.getElem_toArray, List.getElem_cons_succ, List.getElem_cons_zero])
      refine tkH (i := 8) (.bool true) rfl (by kernel_rfl) (fun _ _ _ h => h) (by rfl) (fun _ _ => by go_simp) hHeld ?_
      (try simp only [Act.put, List.setIfInBounds_toArray, List.set_cons_zero, List.set_cons_succ, List.getElem_toArray, List.getElem_cons_succ, List.getElem_cons_zero])
      refine skH (i := 9) rfl (by kernel_rfl) (fun _ _ _ h => h) (by rfl) hHeld ?_
      (try simp only [Act.put, List.setIfInBounds_toArray, List.set_cons_zero, List.set_cons_succ, List.getElem_toArray, List.getElem_cons_succ, List.getElem_cons_zero])
      refine skH (i := 10) rfl (by kernel_rfl) (fun _ _ _ h => h) (by rfl) hHeld ?_
      (try simp only [Act.put, List.setIfInBounds_toArray, List.set_cons_zero, List.set_cons_succ, List.getElem_toArray, List.getElem_cons_succ, List.getElem_cons_zero])
      refine skH (i := 11) rfl (by kernel_rfl) (fun _ _ _ h => h) (by rfl) hHeld ?_
      (try simp only [Act.put, List.setIfInBounds_toArray, List.set_cons_zero, List.set_cons_succ, List.getElem_toArray, List.getElem_cons_succ, List.getElem_cons_zero])
      refine skH (i := 12) rfl (by kernel_rfl) (fun _ _ _ h => h) (by rfl) hHeld ?_
      (try simp only [Act.put, List.setIfInBounds_toArray, List.set_cons_zero, List.set_cons_succ, List.getElem_toArray, List.getElem_cons_succ, List.getElem_cons_zero])
      refine skH (i := 13) rfl (by kernel_rfl) (fun _ _ _ h => h) (by rfl) hHeld ?_
      (try simp only [Act.put, List.setIfInBounds_toArray, List.set_cons_zero, List.set_cons_succ, List.getElem_toArray, List.getElem_cons_succ, List.getElem_cons_zero])
      refine skH (i := 14) rfl (by kernel_rfl) (fun _ _ _ h => h) (by rfl) hHeld ?_
      (try simp only [Act.put, List.setIfInBounds_toArray, List.set_cons_zero, List.set_cons_succ, List.getElem_toArray, List.getElem_cons_succ, List.getElem_cons_zero])
      refine tkH (i := 15) (.bool true) rfl (by kernel_rfl) (fun _ _ _ h => h) (by rfl) (fun _ _ => by go_simp) hHeld ?_
      (try simp only [Act.put, List.setIfInBounds_toArray, List.set_cons_zero, List.set_cons_succ, List.getElem_toArray, List.getElem_cons_succ, List.getElem_cons_zero])
      refine wpAnyH_done (by kernel_rfl) ?_ _
      have hnm := hid (fun M hM hk hc => hmay.out ((may_iff (hPr.out _ (Hi.bel (Below.refl _ _))) hx4.out).2 (by rw [hml.out, of_some HAL.out M hM hk hc]; exact hM)))
      clear CM hPr hHeld
      have BE := hid (B0.out.trans (BX.out.mono B0.out.size))
      have P4e := hid (P4.out.below BX.out P4.out.lt)
      clear CF P6 R7 HBX
      go_wp2_with (first | (refine wp_row_k rfl 31 (.tmp 4) (.tmp 203) (by with_reducible rfl) w.heap.size 31 (mdc (Mz 0)) (mdc (Mz 0)) (by rfl) (by rfl) P4e.out rfl (by kernel_rfl) (mdc_one _) ?_; intro Ze Q4 h4) | fail)
      refine ret_of rfl (by rfl) (by rfl) rfl (show Pbox Ze w.heap.size (Mz 0) from Q4) ⟨Mz 0, false, rfl, hid (fun h => by cases h), hid (fun _ => ⟨rfl, hnm.out⟩), hid (h4.bel BE.out (Nat.le_refl _))⟩
end Go.Proofs.YtbankbehfjogpaaGreat
