/- The document's Of, kind 5. -/
import Derived.Test.YtbankbehfjogpaaGreatVar
namespace Go.Proofs.YtbankbehfjogpaaGreat
open Go.RowKit Go.Shelf Go.Lib
set_option maxRecDepth 100000
set_option maxHeartbeats 25600000 in
theorem pof_k5 {w : World} {A : Option Addr} {n c : Nat} {xs : List Nat} (h : By w w.heap.size A n c xs) (hx : xs.length ≤ 5000) :
    Calls Tryz.prog 31 #[.int .u8 5, .slice A n c] w (OfRes w 5 xs) := by
  have HY := hid h
  have HX := hid hx
  have hn5 := h.len
  replace hn5 := hid hn5
  clear h hx
  go_enter Tryz.func31, Tryz.ntmps31
  obtain ⟨W0, hW0⟩ : ∃ W, W = (w.alloc (.cells (mdc (Mz 0)) 31)).alloc (.cells (mdc (Mz 0)) 31) := ⟨_, rfl⟩
  have P4 := hid (show Pbox W0 w.heap.size (Mz 0) from hW0 ▸ pheap0 w _ _)
  have P6 := hid (show Pbox W0 (w.heap.size + 1) (Mz 0) from hW0 ▸ pheap1 w _ _)
  have B0 := hid (show Below w.heap.size w W0 from hW0 ▸ ((Below.refl _ w).alloc (Nat.le_refl _) _).alloc (by simp) _)
  have S0 := hid (show W0.heap.size = w.heap.size + 1 + 1 by rw [hW0]; simp)
  replace hW0 := hid hW0
  go_upto_region 2 with (first
    | (refine wp_row_k rfl 31 (.tmp 6) (.tmp 14) (by with_reducible rfl) (w.heap.size + 1) 31 (mdc (Mz 0)) (mdc (⟨5, 0, 0, 0, 0, 0, D0, false, none, 0, 0, false, 0, 0, none, 0, 0⟩ : Md)) (by rfl) (by rfl) (show Pbox ((w.alloc (.cells (mdc (Mz 0)) 31)).alloc (.cells (mdc (Mz 0)) 31)) (w.heap.size + 1) (Mz 0) from pheap1 w _ _) rfl (by kernel_rfl) (mdc_one _) ?_; intro X0 Q6 h6; replace h6 := (show Wq (w.heap.size + 1) W0 X0 from hW0.out ▸ h6))
    | fail)
  replace P4 := hid (h6.pbox P4.out (by omega))
  replace B0 := hid (h6.bel B0.out (by omega))
  replace S0 := hid (h6.size.symm.trans S0.out)
  replace P6 := hid (show Pbox X0 (w.heap.size + 1) (⟨5, 0, 0, 0, 0, 0, D0, false, none, 0, 0, false, 0, 0, none, 0, 0⟩ : Md) from Q6)
  clear Q6 h6 hW0
  obtain ⟨X1, hX1⟩ : ∃ X, X = X0.alloc (.cells (rdc A n c (some 0)) 106) := ⟨_, rfl⟩
  have R7 := hid (show Rdb X1 (w.heap.size + 1 + 1) A n c (some 0) from hX1 ▸ S0.out ▸ heap_alloc_new X0 _)
  have KX := hid (show Below X0.heap.size X0 X1 from hX1 ▸ (Below.refl _ X0).alloc (Nat.le_refl _) _)
  replace P4 := hid (P4.out.below KX.out P4.out.lt)
  replace P6 := hid (P6.out.below KX.out P6.out.lt)
  replace B0 := hid (B0.out.trans (KX.out.mono B0.out.size))
  have S1 := hid (show w.heap.size + 1 + 1 < X1.heap.size from lt_of_heap R7.out)
  replace hX1 := hid hX1
  clear KX
  have hs0 := S0.out
  go_upto_region 3 with fail
  change Code.wp _ _ _ _ (X0.alloc (.cells (rdc A n c (some 0)) 106))
  try rw [hs0]
  rw [← hX1.out]
  clear hX1 hs0 S0
  have E := hid (show Ev w X1 A n c (some 0) (⟨5, 0, 0, 0, 0, 0, D0, false, none, 0, 0, false, 0, 0, none, 0, 0⟩ : Md) from ⟨P4.out, P6.out, R7.out, B0.out, S1.out⟩)
  clear P4 P6 R7 B0 S1
  have K0 := hid (show Rok xs (some 0) from fun q hq => by injection hq with hq; omega)
  obtain ⟨v1, s1, e1⟩ : ∃ v s, rnD xs (some 0) 1 = (v, s) := ⟨_, _, rfl⟩
  have CN := hid (ernumT (z := 1) ((HY.out.below E.out.b0).mono E.out.b0.size) K0.out (by omega) HX.out)
  obtain ⟨r1, r2, K1, VL1⟩ := rnD_all (fun x hx => HY.out.lt x hx) K0.out (by omega) e1
  rw [r1, r2] at CN
  clear r1 r2
  replace K1 := hid K1
  replace VL1 := hid VL1
  replace e1 := hid e1
  replace K0 := K1
  clear K1
  go_wp2_with (first | (refine wp_rload rfl (.tmp 7) (by with_reducible rfl) (w.heap.size + 1 + 1) _ (by rfl) E.out.r7 ?_) | fail)
  refine CN.out.mono ?_
  rintro e X2 ⟨rfl, hb⟩
  replace E := hid (E.out.on hb.out)
  clear hb CN
  go_upto_region 4 with (first
    | (refine wp_rst_k rfl (.tmp 7) (.tmp 21) (by with_reducible rfl) s1 (by rfl) (by rfl) E.out.r7 ?_; intro Y1 Q7 h7; replace E := hid (E.out.rd h7 Q7); clear Q7 h7)
    | (refine wp_fst_k rfl 3 (.tmp 23) (.tmp 22) (by with_reducible rfl) 1 (.int .i64 (v1 : Int)) (⟨5, (v1 : Int), 0, 0, 0, 0, D0, false, none, 0, 0, false, 0, 0, none, 0, 0⟩ : Md) (by rfl) (by rfl) rfl (by kernel_rfl) E.out.p6 (by decide) rfl ?_; intro Z1 Q6 h6; replace E := hid (E.out.ml h6 Q6); clear Q6 h6)
    | fail)
  obtain ⟨v2, s2, e2⟩ : ∃ v s, rnD xs s1 1 = (v, s) := ⟨_, _, rfl⟩
  have CN := hid (ernumT (z := 1) ((HY.out.below E.out.b0).mono E.out.b0.size) K0.out (by omega) HX.out)
  obtain ⟨r1, r2, K2, VL2⟩ := rnD_all (fun x hx => HY.out.lt x hx) K0.out (by omega) e2
  rw [r1, r2] at CN
  clear r1 r2
  replace K2 := hid K2
  replace VL2 := hid VL2
  replace e2 := hid e2
  replace K0 := K2
  clear K2
  go_wp2_with (first | (refine wp_rload rfl (.tmp 7) (by with_reducible rfl) (w.heap.size + 1 + 1) _ (by rfl) E.out.r7 ?_) | fail)
  refine CN.out.mono ?_
  rintro e X3 ⟨rfl, hb⟩
  replace E := hid (E.out.on hb.out)
  clear hb CN
  go_upto_region 5 with (first
    | (refine wp_rst_k rfl (.tmp 7) (.tmp 27) (by with_reducible rfl) s2 (by rfl) (by rfl) E.out.r7 ?_; intro Y2 Q7 h7; replace E := hid (E.out.rd h7 Q7); clear Q7 h7)
    | (refine wp_fst_k rfl 3 (.tmp 29) (.tmp 28) (by with_reducible rfl) 2 (.int .i64 (v2 : Int)) (⟨5, (v1 : Int), (v2 : Int), 0, 0, 0, D0, false, none, 0, 0, false, 0, 0, none, 0, 0⟩ : Md) (by rfl) (by rfl) rfl (by kernel_rfl) E.out.p6 (by decide) rfl ?_; intro Z2 Q6 h6; replace E := hid (E.out.ml h6 Q6); clear Q6 h6)
    | fail)
  obtain ⟨v3, s3, e3⟩ : ∃ v s, rnD xs s2 2 = (v, s) := ⟨_, _, rfl⟩
  have CN := hid (ernumT (z := 2) ((HY.out.below E.out.b0).mono E.out.b0.size) K0.out (by omega) HX.out)
  obtain ⟨r1, r2, K3, VL3⟩ := rnD_all (fun x hx => HY.out.lt x hx) K0.out (by omega) e3
  rw [r1, r2] at CN
  clear r1 r2
  replace K3 := hid K3
  replace VL3 := hid VL3
  replace e3 := hid e3
  replace K0 := K3
  clear K3
  go_wp2_with (first | (refine wp_rload rfl (.tmp 7) (by with_reducible rfl) (w.heap.size + 1 + 1) _ (by rfl) E.out.r7 ?_) | fail)
  refine CN.out.mono ?_
  rintro e X4 ⟨rfl, hb⟩
  replace E := hid (E.out.on hb.out)
  clear hb CN
  go_upto_region 6 with (first
    | (refine wp_rst_k rfl (.tmp 7) (.tmp 33) (by with_reducible rfl) s3 (by rfl) (by rfl) E.out.r7 ?_; intro Y3 Q7 h7; replace E := hid (E.out.rd h7 Q7); clear Q7 h7)
    | (refine wp_fst_k rfl 3 (.tmp 35) (.tmp 34) (by with_reducible rfl) 3 (.int .i64 (v3 : Int)) (⟨5, (v1 : Int), (v2 : Int), (v3 : Int), 0, 0, D0, false, none, 0, 0, false, 0, 0, none, 0, 0⟩ : Md) (by rfl) (by rfl) rfl (by kernel_rfl) E.out.p6 (by decide) rfl ?_; intro Z3 Q6 h6; replace E := hid (E.out.ml h6 Q6); clear Q6 h6)
    | fail)
  obtain ⟨v4, s4, e4⟩ : ∃ v s, rnD xs s3 3 = (v, s) := ⟨_, _, rfl⟩
  have CN := hid (ernumT (z := 3) ((HY.out.below E.out.b0).mono E.out.b0.size) K0.out (by omega) HX.out)
  obtain ⟨r1, r2, K4, VL4⟩ := rnD_all (fun x hx => HY.out.lt x hx) K0.out (by omega) e4
  rw [r1, r2] at CN
  clear r1 r2
  replace K4 := hid K4
  replace VL4 := hid VL4
  replace e4 := hid e4
  replace K0 := K4
  clear K4
  go_wp2_with (first | (refine wp_rload rfl (.tmp 7) (by with_reducible rfl) (w.heap.size + 1 + 1) _ (by rfl) E.out.r7 ?_) | fail)
  refine CN.out.mono ?_
  rintro e X5 ⟨rfl, hb⟩
  replace E := hid (E.out.on hb.out)
  clear hb CN
  go_upto_region 7 with (first
    | (refine wp_rst_k rfl (.tmp 7) (.tmp 39) (by with_reducible rfl) s4 (by rfl) (by rfl) E.out.r7 ?_; intro Y4 Q7 h7; replace E := hid (E.out.rd h7 Q7); clear Q7 h7)
    | (refine wp_fst_k rfl 3 (.tmp 41) (.tmp 40) (by with_reducible rfl) 4 (.int .i64 (v4 : Int)) (⟨5, (v1 : Int), (v2 : Int), (v3 : Int), (v4 : Int), 0, D0, false, none, 0, 0, false, 0, 0, none, 0, 0⟩ : Md) (by rfl) (by rfl) rfl (by kernel_rfl) E.out.p6 (by decide) rfl ?_; intro Z4 Q6 h6; replace E := hid (E.out.ml h6 Q6); clear Q6 h6)
    | fail)
  obtain ⟨v5, s5, e5⟩ : ∃ v s, rnD xs s4 1 = (v, s) := ⟨_, _, rfl⟩
  have CN := hid (ernumT (z := 1) ((HY.out.below E.out.b0).mono E.out.b0.size) K0.out (by omega) HX.out)
  obtain ⟨r1, r2, K5, VL5⟩ := rnD_all (fun x hx => HY.out.lt x hx) K0.out (by omega) e5
  rw [r1, r2] at CN
  clear r1 r2
  replace K5 := hid K5
  replace VL5 := hid VL5
  replace e5 := hid e5
  replace K0 := K5
  clear K5
  go_wp2_with (first | (refine wp_rload rfl (.tmp 7) (by with_reducible rfl) (w.heap.size + 1 + 1) _ (by rfl) E.out.r7 ?_) | fail)
  refine CN.out.mono ?_
  rintro e X6 ⟨rfl, hb⟩
  replace E := hid (E.out.on hb.out)
  clear hb CN
  go_upto_region 20 with (first
    | (refine wp_rst_k rfl (.tmp 7) (.tmp 93) (by with_reducible rfl) s5 (by rfl) (by rfl) E.out.r7 ?_; intro Y5 Q7 h7; replace E := hid (E.out.rd h7 Q7); clear Q7 h7)
    | fail)
  obtain ⟨b5, hb5⟩ : ∃ b, ((v5 : Int) == 1) = b := ⟨_, rfl⟩
  have HB5 := hid (show decide (v5 = 1) = b5 from by rw [← hb5]; exact (beq_one v5).symm)
  go_upto_region 21 with (first
    | (refine wp_fst_k rfl 4 (.tmp 97) (.tmp 96) (by with_reducible rfl) 18 (.bool b5) (⟨5, (v1 : Int), (v2 : Int), (v3 : Int), (v4 : Int), 0, D0, b5, none, 0, 0, false, 0, 0, none, 0, 0⟩ : Md) (by rfl) (by rfl) rfl (by kernel_rfl) E.out.p6 (by decide) rfl ?_; intro U5 Q6 h6; replace E := hid (E.out.ml h6 Q6); clear Q6 h6)
    | fail)
  clear hb5
  obtain ⟨v6, s6, e6⟩ : ∃ v s, rnD xs s5 1 = (v, s) := ⟨_, _, rfl⟩
  have CN := hid (ernumT (z := 1) ((HY.out.below E.out.b0).mono E.out.b0.size) K0.out (by omega) HX.out)
  obtain ⟨r1, r2, K6, VL6⟩ := rnD_all (fun x hx => HY.out.lt x hx) K0.out (by omega) e6
  rw [r1, r2] at CN
  clear r1 r2
  replace K6 := hid K6
  replace VL6 := hid VL6
  replace e6 := hid e6
  replace K0 := K6
  clear K6
  go_wp2_with (first | (refine wp_rload rfl (.tmp 7) (by with_reducible rfl) (w.heap.size + 1 + 1) _ (by rfl) E.out.r7 ?_) | fail)
  refine CN.out.mono ?_
  rintro e X7 ⟨rfl, hb⟩
  replace E := hid (E.out.on hb.out)
  clear hb CN
  go_upto_region 22 with (first
    | (refine wp_rst_k rfl (.tmp 7) (.tmp 101) (by with_reducible rfl) s6 (by rfl) (by rfl) E.out.r7 ?_; intro Y6 Q7 h7; replace E := hid (E.out.rd h7 Q7); clear Q7 h7)
    | fail)
  obtain ⟨P4, P6, R7, B0, S1⟩ := E.out
  replace P4 := hid P4
  replace P6 := hid P6
  replace R7 := hid R7
  replace B0 := hid B0
  replace S1 := hid S1
  clear E
  have HO0 := hid (Od.nil Y6 (w.heap.size + 1 + 1 + 1))
  have P60 := P6
  clear P6
  have HN256 := hid (rnD_one (fun x hx => HY.out.lt x hx) e6.out)
  go_wp2
  go_loopg [9] v6 (fun gg si wr => ∃ (i : Nat) (st : Option Nat) (Aq : Option Addr) (cq : Nat) (l : List De), i ≤ v6 ∧ v6 - i ≤ gg ∧ si = .int .i64 (i : Int) ∧ Hid (Pbox wr w.heap.size (Mz 0)) ∧ Hid (Pbox wr (w.heap.size + 1) (⟨5, (v1 : Int), (v2 : Int), (v3 : Int), (v4 : Int), 0, D0, b5, Aq, l.length, cq, false, 0, 0, none, 0, 0⟩ : Md)) ∧ Hid (Rdb wr (w.heap.size + 1 + 1) A n c st) ∧ Hid (Below w.heap.size w wr) ∧ Hid (w.heap.size + 1 + 1 < wr.heap.size) ∧ Hid (Rok xs st) ∧ Hid (Od wr (w.heap.size + 1 + 1 + 1) (.slice Aq l.length cq) l) ∧ Hid (l.length ≤ i) ∧ Hid (lisP (Wdc xs) [] s6 i = (l, st) ∨ (st = none ∧ (lisP (Wdc xs) [] s6 v6).2 = none)))
  case atStart => exact ⟨0, s6, none, 0, [], Nat.zero_le _, by omega, rfl, P4, P60, R7, B0, S1, K0, HO0, hid (Nat.le_refl _), hid (.inl rfl)⟩
  case round =>
    obtain ⟨i, st, Aq, cq, l, hi, hgg, rfl, P4, P6, R7, B0, S1, K0, HO, HLE, REL⟩ := hrel
    by_cases hlt : i < v6
    case neg =>
      have hltz : ¬ ((i : Int) < (v6 : Int)) := by omega
      have hin := hid (show i = v6 by omega)
      clear hlt
      go_upto_region 43 with fail
      have HF := hid (show (lisP (Wdc xs) [] s6 v6).2 = st ∧ (st ≠ none → l = (lisP (Wdc xs) [] s6 v6).1) from by
        rw [← hin.out]
        rcases REL.out with h | ⟨h1, h2⟩
        · rw [h]; exact ⟨rfl, fun _ => rfl⟩
        · rw [← hin.out] at h2; rw [h1]; exact ⟨h2, fun h => absurd rfl h⟩)
      have HAL := hid (show alongP (Wdc xs) (some 0) (mz 5) = ((⟨5, (v1 : Int), (v2 : Int), (v3 : Int), (v4 : Int), 0, d0z, d0z, d0z, d0z, b5, (lisP (Wdc xs) [] s6 v6).1, false, 0, 0, []⟩ : Ml), st) from by
        rw [← HF.out.1]
        simp [alongP, kindP, hedP, headP, rfD, Wdc, mz, HB5.out, e1.out, e2.out, e3.out, e4.out, e5.out, e6.out])
      have HMP : Hid (st ≠ none → ∃ (l' : List De) (t : Nat → Nat), (∀ Y, Hi (w.heap.size + 1 + 1 + 1) wr Y → Prd Y Y.heap.size (⟨5, (v1 : Int), (v2 : Int), (v3 : Int), (v4 : Int), 0, D0, b5, Aq, l.length, cq, false, 0, 0, none, 0, 0⟩ : Md) l' t) ∧ (∀ k, k < 4 → 0 ≤ (((⟨5, (v1 : Int), (v2 : Int), (v3 : Int), (v4 : Int), 0, D0, b5, Aq, l.length, cq, false, 0, 0, none, 0, 0⟩ : Md)).D k).x) ∧ mlOf (⟨5, (v1 : Int), (v2 : Int), (v3 : Int), (v4 : Int), 0, D0, b5, Aq, l.length, cq, false, 0, 0, none, 0, 0⟩ : Md) l' t = (⟨5, (v1 : Int), (v2 : Int), (v3 : Int), (v4 : Int), 0, d0z, d0z, d0z, d0z, b5, (lisP (Wdc xs) [] s6 v6).1, false, 0, 0, []⟩ : Ml)) := hid (fun hne => ⟨l, fun _ => 0, fun Y hi => ⟨show (5 : Nat) < 256 by decide, fun _ _ => Rd.nil _ _, (HO.out.hi hi).ds, Rd.nil _ _⟩, fun _ _ => Int.le_refl 0, ml_ext rfl rfl rfl rfl rfl rfl rfl rfl rfl rfl rfl (HF.out.2 hne) rfl rfl rfl rfl⟩)
      have HBX := hid (show By wr wr.heap.size A n c xs from (HY.out.below B0.out).mono B0.out.size)
      clear HX hn5 REL HF HO HLE hin hltz e1 e2 e3 e4 e5 e6 VL1 VL2 VL3 VL4 VL5 VL6
      obtain ⟨M', hM'⟩ : ∃ M, M = (⟨5, (v1 : Int), (v2 : Int), (v3 : Int), (v4 : Int), 0, d0z, d0z, d0z, d0z, b5, (lisP (Wdc xs) [] s6 v6).1, false, 0, 0, []⟩ : Ml) := ⟨_, rfl⟩
      rw [← hM'] at HAL HMP
      obtain ⟨m, hm⟩ : ∃ m, m = (⟨5, (v1 : Int), (v2 : Int), (v3 : Int), (v4 : Int), 0, D0, b5, Aq, l.length, cq, false, 0, 0, none, 0, 0⟩ : Md) := ⟨_, rfl⟩
      rw [← hm] at HMP P6
      have HKM := hid (show m.kd = 5 by rw [hm])
      replace hm := hid hm
      clear hM'
      have BX : Hid (Below wr.heap.size wr wr.drew) := hid (Below.refl wr.heap.size wr).drew
      have CF : Hid (∀ Y, Below wr.heap.size wr Y → Pbox Y (w.heap.size + 1) m ∧ Rdb Y (w.heap.size + 1 + 1) A n c st ∧ ∃ B, By Y B A n c xs) := hid fun Y hb => ⟨P6.out.below hb P6.out.lt, R7.out.below hb R7.out.lt, ⟨_, HBX.out.below hb⟩⟩
      cases st with
      | none =>
        refine wp_region_held_drew (S := fun X => Pbox X (w.heap.size + 1) m ∧ Rdb X (w.heap.size + 1 + 1) A n c none ∧ ∃ B, By X B A n c xs) (by kernel_rfl) (CF.out _ BX.out) (fun hHeld => ?_)
        refine tkH (i := 0) (.pointer (some ⟨w.heap.size + 1 + 1, 2, none⟩)) rfl (by kernel_rfl) (fun _ _ _ h => h) (by rfl) (fun _ _ => by go_simp) hHeld ?_
        (try simp only [Act.put, List.setIfInBounds_toArray, List.set_cons_zero, List.set_cons_succ, List.getElem_toArray, List.getElem_cons_zero])
        refine tkH (i := 1) (.bool false) rfl (by kernel_rfl) (fun _ _ _ h => h) (by rfl) (fun w0 hSw => by have hc2 : w0.cell? ⟨w.heap.size + 1 + 1, 2, none⟩ = some (.bool false) := (by rw [cell_of_row w0 _ 2 _ _ (0, 0) hSw.2.1]; rfl); go_simp) hHeld ?_
        (try simp only [Act.put, List.setIfInBounds_toArray, List.set_cons_zero, List.set_cons_succ, List.getElem_toArray, List.getElem_cons_succ, List.getElem_cons_zero])
        refine tkH (i := 2) (.bool true) rfl (by kernel_rfl) (fun _ _ _ h => h) (by rfl) (fun _ _ => by go_simp) hHeld ?_
        (try simp only [Act.put, List.setIfInBounds_toArray, List.set_cons_zero, List.set_cons_succ, List.getElem_toArray, List.getElem_cons_succ, List.getElem_cons_zero])
        refine tkH (i := 3) (.bool true) rfl (by kernel_rfl) (fun _ _ _ h => h) (by rfl) (fun _ _ => by go_simp) hHeld ?_
        (try simp only [Act.put, List.setIfInBounds_toArray, List.set_cons_zero, List.set_cons_succ, List.getElem_toArray, List.getElem_cons_succ, List.getElem_cons_zero])
        refine skH (i := 4) rfl (by kernel_rfl) (fun _ _ _ h => h) (by rfl) hHeld ?_
        (try simp only [Act.put, List.setIfInBounds_toArray, List.set_cons_zero, List.set_cons_succ, List.getElem_toArray, List.getElem_cons_succ, List.getElem_cons_zero])
        refine skH (i := 5) rfl (by kernel_rfl) (fun _ _ _ h => h) (by rfl) hHeld ?_
        (try simp only [Act.put, List.setIfInBounds_toArray, List.set_cons_zero, List.set_cons_succ, List.getElem_toArray, List.getElem_cons_succ, List.getElem_cons_zero])
        refine skH (i := 6) rfl (by kernel_rfl) (fun _ _ _ h => h) (by rfl) hHeld ?_
        (try simp only [Act.put, List.setIfInBounds_toArray, List.set_cons_zero, List.set_cons_succ, List.getElem_toArray, List.getElem_cons_succ, List.getElem_cons_zero])
        refine tkH (i := 7) (.bool true) rfl (by kernel_rfl) (fun _ _ _ h => h) (by rfl) (fun _ _ => by go_simp) hHeld ?_
        (try simp only [Act.put, List.setIfInBounds_toArray, List.set_cons_zero, List.set_cons_succ, List.getElem_toArray, List.getElem_cons_succ, List.getElem_cons_zero])
        refine tkH (i := 8) (.bool true) rfl (by kernel_rfl) (fun _ _ _ h => h) (by rfl) (fun _ _ => by go_simp) hHeld ?_
        (try simp only [Act.put, List.setIfInBounds_toArray, List.set_cons_zero, List.set_cons_succ, List.getElem_toArray, List.getElem_cons_succ, List.getElem_cons_zero])
        refine skH (i := 9) rfl (by kernel_rfl) (fun _ _ _ h => h) (by rfl) hHeld ?_
        (try simp only [Act.put, List.setIfInBounds_toArray, List.set_cons_zero, List.set_cons_succ, List.getElem_toArray, List.getElem_cons_succ, List.getElem_cons_zero])
        refine skH (i := 10) rfl (by kernel_rfl) (fun _ _ _ h => h) (by rfl) hHeld ?_
        (try simp only [Act.put, List.setIfInBounds_toArray, List.set_cons_zero, List.set_cons_succ, List.getElem_toArray, List.getElem_cons_succ, List.getElem_cons_zero])
        refine skH (i := 11) rfl (by kernel_rfl) (fun _ _ _ h => h) (by rfl) hHeld ?_
        (try simp only [Act.put, List.setIfInBounds_toArray, List.set_cons_zero, List.set_cons_succ, List.getElem_toArray, List.getElem_cons_succ, List.getElem_cons_zero])
        refine skH (i := 12) rfl (by kernel_rfl) (fun _ _ _ h => h) (by rfl) hHeld ?_
        (try simp only [Act.put, List.setIfInBounds_toArray, List.set_cons_zero, List.set_cons_succ, List.getElem_toArray, List.getElem_cons_succ, List.getElem_cons_zero])
        refine skH (i := 13) rfl (by kernel_rfl) (fun _ _ _ h => h) (by rfl) hHeld ?_
        (try simp only [Act.put, List.setIfInBounds_toArray, List.set_cons_zero, List.set_cons_succ, List.getElem_toArray, List.getElem_cons_succ, List.getElem_cons_zero])
        refine skH (i := 14) rfl (by kernel_rfl) (fun _ _ _ h => h) (by rfl) hHeld ?_
        (try simp only [Act.put, List.setIfInBounds_toArray, List.set_cons_zero, List.set_cons_succ, List.getElem_toArray, List.getElem_cons_succ, List.getElem_cons_zero])
        refine tkH (i := 15) (.bool true) rfl (by kernel_rfl) (fun _ _ _ h => h) (by rfl) (fun _ _ => by go_simp) hHeld ?_
        (try simp only [Act.put, List.setIfInBounds_toArray, List.set_cons_zero, List.set_cons_succ, List.getElem_toArray, List.getElem_cons_succ, List.getElem_cons_zero])
        refine wpAnyH_done (by kernel_rfl) ?_ _
        have BE := hid (B0.out.trans (BX.out.mono B0.out.size))
        have P4e := hid (P4.out.below BX.out P4.out.lt)
        clear CF P6 R7 HBX
        go_wp2_with (first | (refine wp_row_k rfl 31 (.tmp 4) (.tmp 203) (by with_reducible rfl) w.heap.size 31 (mdc (Mz 0)) (mdc (Mz 0)) (by rfl) (by rfl) P4e.out rfl (by kernel_rfl) (mdc_one _) ?_; intro Ze Q4 h4) | fail)
        refine ret_of rfl (by rfl) (by rfl) rfl (show Pbox Ze w.heap.size (Mz 0) from Q4) ⟨Mz 0, false, rfl, hid (fun h => by cases h), hid (fun _ => ⟨rfl, of_none HAL.out⟩), hid (h4.bel BE.out (Nat.le_refl _))⟩
      | some q =>
        obtain ⟨l, t, hPr, hx4, hml⟩ := HMP.out (by simp)
        replace hPr := hid hPr
        replace hx4 := hid hx4
        replace hml := hid hml
        have CM := hid (fun Y (hb : Below _ _ Y) => pmay_any (P := PMay m l t) (hPr.out Y (Hi.bel hb)) (hid Iff.rfl))
        by_cases hmay : PMay m l t
        · have CC := hid (fun Y (hb : Below _ _ Y) => pcont_any (hPr.out Y (Hi.bel hb)) hmay)
          replace hmay := hid hmay
          refine wp_region_held_drew (S := fun X => Pbox X (w.heap.size + 1) m ∧ Rdb X (w.heap.size + 1 + 1) A n c (some q) ∧ ∃ B, By X B A n c xs) (by kernel_rfl) (CF.out _ BX.out) (fun hHeld => ?_)
          refine tkH (i := 0) (.pointer (some ⟨w.heap.size + 1 + 1, 2, none⟩)) rfl (by kernel_rfl) (fun _ _ _ h => h) (by rfl) (fun _ _ => by go_simp) hHeld ?_
          (try simp only [Act.put, List.setIfInBounds_toArray, List.set_cons_zero, List.set_cons_succ, List.getElem_toArray, List.getElem_cons_zero])
          refine tkH (i := 1) (.bool true) rfl (by kernel_rfl) (fun _ _ _ h => h) (by rfl) (fun w0 hSw => by have hc2 : w0.cell? ⟨w.heap.size + 1 + 1, 2, none⟩ = some (.bool true) := (by rw [cell_of_row w0 _ 2 _ _ (0, 0) hSw.2.1]; rfl); go_simp) hHeld ?_
          (try simp only [Act.put, List.setIfInBounds_toArray, List.set_cons_zero, List.set_cons_succ, List.getElem_toArray, List.getElem_cons_succ, List.getElem_cons_zero])
          refine tkH (i := 2) (.bool false) rfl (by kernel_rfl) (fun _ _ _ h => h) (by rfl) (fun _ _ => by go_simp) hHeld ?_
          (try simp only [Act.put, List.setIfInBounds_toArray, List.set_cons_zero, List.set_cons_succ, List.getElem_toArray, List.getElem_cons_succ, List.getElem_cons_zero])
          refine tkH (i := 3) (.bool false) rfl (by kernel_rfl) (fun _ _ _ h => h) (by rfl) (fun _ _ => by go_simp) hHeld ?_
          (try simp only [Act.put, List.setIfInBounds_toArray, List.set_cons_zero, List.set_cons_succ, List.getElem_toArray, List.getElem_cons_succ, List.getElem_cons_zero])
          refine wpAnyH_take (i := 4) rfl (by kernel_rfl) (by kernel_rfl) (by kernel_rfl) (fun _ _ _ h => h) (yields_pl (by rfl) (.tmp 6) rfl (w.heap.size + 1) m rfl (fun X hX => hX.1)) hHeld ?_
          (try simp only [Act.put, List.setIfInBounds_toArray, List.set_cons_zero, List.set_cons_succ, List.getElem_toArray, List.getElem_cons_succ, List.getElem_cons_zero])
          refine wpAnyH_ready (rs := [5]) (by kernel_rfl) (by simp) ?_
          refine AllReadyH.cons rfl (fun K' hK => ?_) AllReadyH.nil
          (try simp only [Act.put, List.setIfInBounds_toArray, List.set_cons_zero, List.set_cons_succ, List.getElem_toArray, List.getElem_cons_succ, List.getElem_cons_zero])
          go_simp
          refine (CM.out _ BX.out).mono ?_
          rintro e y9 ⟨r, rfl, hr, hb⟩
          replace BX := hid (BX.out.trans (hb.out.mono BX.out.size))
          obtain rfl : r = true := hr.out.2 hmay.out
          clear hb hr
          try dsimp only
          refine hK.out _ _ (CF.out _ BX.out) (fun hHeld => ?_)
          clear hK K'
          (try simp only [Act.put, List.setIfInBounds_toArray, List.set_cons_zero, List.set_cons_succ, List.getElem_toArray, List.getElem_cons_succ, List.getElem_cons_zero])
          refine tkH (i := 6) (.bool false) rfl (by kernel_rfl) (fun _ _ _ h => h) (by rfl) (fun _ _ => by go_simp) hHeld ?_
          (try simp only [Act.put, List.setIfInBounds_toArray, List.set_cons_zero, List.set_cons_succ, List.getElem_toArray, List.getElem_cons_succ, List.getElem_cons_zero])
          refine tkH (i := 7) (.bool false) rfl (by kernel_rfl) (fun _ _ _ h => h) (by rfl) (fun _ _ => by go_simp) hHeld ?_
          (try simp only [Act.put, List.setIfInBounds_toArray, List.set_cons_zero, List.set_cons_succ, List.getElem_toArray, List.getElem_cons_succ, List.getElem_cons_zero])
          refine tkH (i := 8) (.bool false) rfl (by kernel_rfl) (fun _ _ _ h => h) (by rfl) (fun _ _ => by go_simp) hHeld ?_
          (try simp only [Act.put, List.setIfInBounds_toArray, List.set_cons_zero, List.set_cons_succ, List.getElem_toArray, List.getElem_cons_succ, List.getElem_cons_zero])
          refine wpAnyH_take (i := 9) rfl (by kernel_rfl) (by kernel_rfl) (by kernel_rfl) (fun _ _ _ h => h) (yields_pl (by rfl) (.tmp 6) rfl (w.heap.size + 1) m rfl (fun X hX => hX.1)) hHeld ?_
          (try simp only [Act.put, List.setIfInBounds_toArray, List.set_cons_zero, List.set_cons_succ, List.getElem_toArray, List.getElem_cons_succ, List.getElem_cons_zero])
          refine tkH (i := 12) (.slice A n c) rfl (by kernel_rfl) (fun _ _ _ h => h) (by rfl) (fun _ _ => by go_simp) hHeld ?_
          (try simp only [Act.put, List.setIfInBounds_toArray, List.set_cons_zero, List.set_cons_succ, List.getElem_toArray, List.getElem_cons_succ, List.getElem_cons_zero])
          refine tkH (i := 13) (.string (str xs)) rfl (by kernel_rfl) (fun _ _ _ h => h) (by rfl) (fun w0 hSw => by obtain ⟨B', hB'⟩ := hSw.2.2; have cv := conv_any hB'; go_simp) hHeld ?_
          (try simp only [Act.put, List.setIfInBounds_toArray, List.set_cons_zero, List.set_cons_succ, List.getElem_toArray, List.getElem_cons_succ, List.getElem_cons_zero])
          refine wpAnyH_ready (rs := [10]) (by kernel_rfl) (by simp) ?_
          refine AllReadyH.cons rfl (fun K' hK => ?_) AllReadyH.nil
          (try simp only [Act.put, List.setIfInBounds_toArray, List.set_cons_zero, List.set_cons_succ, List.getElem_toArray, List.getElem_cons_succ, List.getElem_cons_zero])
          go_simp
          refine (CC.out _ BX.out).mono ?_
          rintro e y10 ⟨v, rfl, hO, hb⟩
          replace BX := hid (BX.out.trans (hb.out.mono BX.out.size))
          obtain ⟨A', c', rfl, hY2⟩ := hO.out.shape
          have cv := conv_any hY2
          have hyl := hY2.lt
          clear hb hO
          try dsimp only
          refine hK.out _ _ (CF.out _ BX.out) (fun hHeld => ?_)
          clear hK K'
          (try simp only [Act.put, List.setIfInBounds_toArray, List.set_cons_zero, List.set_cons_succ, List.getElem_toArray, List.getElem_cons_succ, List.getElem_cons_zero])
          refine wpAnyH_ready (rs := [11]) (by kernel_rfl) (by simp) ?_
          refine AllReadyH.cons rfl (fun K' hK => ?_) AllReadyH.nil
          (try simp only [Act.put, List.setIfInBounds_toArray, List.set_cons_zero, List.set_cons_succ, List.getElem_toArray, List.getElem_cons_succ, List.getElem_cons_zero])
          go_simp
          refine hK.out _ _ (CF.out _ BX.out) (fun hHeld => ?_)
          clear hK K' cv
          (try simp only [Act.put, List.setIfInBounds_toArray, List.set_cons_zero, List.set_cons_succ, List.getElem_toArray, List.getElem_cons_succ, List.getElem_cons_zero])
          have hsb0 : ((str (cont (mlOf m l t))).toList == (str xs).toList) = decide (cont (mlOf m l t) = xs) := by rw [← str_beq hyl HY.out.lt]; exact (beq_toListBytes _ _).symm
          by_cases heq : cont (mlOf m l t) = xs
          · have hsb : ((str (cont (mlOf m l t))).toList == (str xs).toList) = true := by rw [hsb0]; exact decide_eq_true heq
            replace heq := hid heq
            clear hsb0 hyl
            refine tkH (i := 14) (.bool false) rfl (by kernel_rfl) (fun _ _ _ h => h) (by rfl) (fun _ _ => by go_simp) hHeld ?_
            (try simp only [Act.put, List.setIfInBounds_toArray, List.set_cons_zero, List.set_cons_succ, List.getElem_toArray, List.getElem_cons_succ, List.getElem_cons_zero])
            refine tkH (i := 15) (.bool false) rfl (by kernel_rfl) (fun _ _ _ h => h) (by rfl) (fun _ _ => by go_simp) hHeld ?_
            (try simp only [Act.put, List.setIfInBounds_toArray, List.set_cons_zero, List.set_cons_succ, List.getElem_toArray, List.getElem_cons_succ, List.getElem_cons_zero])
            refine wpAnyH_done (by kernel_rfl) ?_ _
            clear hsb
            have BE := hid (B0.out.trans (BX.out.mono B0.out.size))
            have P4e := hid (P4.out.below BX.out P4.out.lt)
            have P6e := hid (P6.out.below BX.out P6.out.lt)
            have hPe := hid (fun Z (hz : Wq w.heap.size y10 Z) Y (hy : Hi w.heap.size Z Y) => hPr.out Y (((Hi.bel BX.out).wq hz (by omega)).trans (hy.mono (by omega))))
            clear CF R7 HBX CM CC P4 P6 hPr hHeld
            go_wp2_with (first | (refine wp_gmail (by kernel_rfl) (.tmp 6) (by with_reducible rfl) (w.heap.size + 1) m (by rfl) P6e.out ?_) | (refine wp_row_k rfl 31 (.tmp 4) (.tmp 204) (by with_reducible rfl) w.heap.size 31 (mdc (Mz 0)) (mdc m) (by rfl) (by rfl) P4e.out rfl (by kernel_rfl) (mdc_one _) ?_; intro Ze Q4 h4) | fail)
            refine ret_of rfl (by rfl) (by rfl) rfl (show Pbox Ze w.heap.size m from Q4) ⟨m, true, rfl, hid (fun _ => ⟨l, t, hPe.out _ h4, hmay.out, HKM.out, heq.out⟩), hid (fun h => by cases h), hid (h4.bel BE.out (Nat.le_refl _))⟩
          · have hsb : ((str (cont (mlOf m l t))).toList == (str xs).toList) = false := by rw [hsb0]; exact decide_eq_false heq
            replace heq := hid heq
            clear hsb0 hyl
            refine tkH (i := 14) (.bool true) rfl (by kernel_rfl) (fun _ _ _ h => h) (by rfl) (fun _ _ => by go_simp) hHeld ?_
            (try simp only [Act.put, List.setIfInBounds_toArray, List.set_cons_zero, List.set_cons_succ, List.getElem_toArray, List.getElem_cons_succ, List.getElem_cons_zero])
            refine tkH (i := 15) (.bool true) rfl (by kernel_rfl) (fun _ _ _ h => h) (by rfl) (fun _ _ => by go_simp) hHeld ?_
            (try simp only [Act.put, List.setIfInBounds_toArray, List.set_cons_zero, List.set_cons_succ, List.getElem_toArray, List.getElem_cons_succ, List.getElem_cons_zero])
            refine wpAnyH_done (by kernel_rfl) ?_ _
            clear hsb hPr CM CC hHeld
            have BE := hid (B0.out.trans (BX.out.mono B0.out.size))
            have P4e := hid (P4.out.below BX.out P4.out.lt)
            clear CF P6 R7 HBX
            go_wp2_with (first | (refine wp_row_k rfl 31 (.tmp 4) (.tmp 203) (by with_reducible rfl) w.heap.size 31 (mdc (Mz 0)) (mdc (Mz 0)) (by rfl) (by rfl) P4e.out rfl (by kernel_rfl) (mdc_one _) ?_; intro Ze Q4 h4) | fail)
            refine ret_of rfl (by rfl) (by rfl) rfl (show Pbox Ze w.heap.size (Mz 0) from Q4) ⟨Mz 0, false, rfl, hid (fun h => by cases h), hid (fun _ => ⟨rfl, fun M hM hk hc => heq.out (by rw [hml.out, of_some HAL.out M hM hk hc]; exact hc)⟩), hid (h4.bel BE.out (Nat.le_refl _))⟩
        · have hmay := hid hmay
          refine wp_region_held_drew (S := fun X => Pbox X (w.heap.size + 1) m ∧ Rdb X (w.heap.size + 1 + 1) A n c (some q) ∧ ∃ B, By X B A n c xs) (by kernel_rfl) (CF.out _ BX.out) (fun hHeld => ?_)
          refine tkH (i := 0) (.pointer (some ⟨w.heap.size + 1 + 1, 2, none⟩)) rfl (by kernel_rfl) (fun _ _ _ h => h) (by rfl) (fun _ _ => by go_simp) hHeld ?_
          (try simp only [Act.put, List.setIfInBounds_toArray, List.set_cons_zero, List.set_cons_succ, List.getElem_toArray, List.getElem_cons_zero])
          refine tkH (i := 1) (.bool true) rfl (by kernel_rfl) (fun _ _ _ h => h) (by rfl) (fun w0 hSw => by have hc2 : w0.cell? ⟨w.heap.size + 1 + 1, 2, none⟩ = some (.bool true) := (by rw [cell_of_row w0 _ 2 _ _ (0, 0) hSw.2.1]; rfl); go_simp) hHeld ?_
          (try simp only [Act.put, List.setIfInBounds_toArray, List.set_cons_zero, List.set_cons_succ, List.getElem_toArray, List.getElem_cons_succ, List.getElem_cons_zero])
          refine tkH (i := 2) (.bool false) rfl (by kernel_rfl) (fun _ _ _ h => h) (by rfl) (fun _ _ => by go_simp) hHeld ?_
          (try simp only [Act.put, List.setIfInBounds_toArray, List.set_cons_zero, List.set_cons_succ, List.getElem_toArray, List.getElem_cons_succ, List.getElem_cons_zero])
          refine tkH (i := 3) (.bool false) rfl (by kernel_rfl) (fun _ _ _ h => h) (by rfl) (fun _ _ => by go_simp) hHeld ?_
          (try simp only [Act.put, List.setIfInBounds_toArray, List.set_cons_zero, List.set_cons_succ, List.getElem_toArray, List.getElem_cons_succ, List.getElem_cons_zero])
          refine wpAnyH_take (i := 4) rfl (by kernel_rfl) (by kernel_rfl) (by kernel_rfl) (fun _ _ _ h => h) (yields_pl (by rfl) (.tmp 6) rfl (w.heap.size + 1) m rfl (fun X hX => hX.1)) hHeld ?_
          (try simp only [Act.put, List.setIfInBounds_toArray, List.set_cons_zero, List.set_cons_succ, List.getElem_toArray, List.getElem_cons_succ, List.getElem_cons_zero])
          refine wpAnyH_ready (rs := [5]) (by kernel_rfl) (by simp) ?_
          refine AllReadyH.cons rfl (fun K' hK => ?_) AllReadyH.nil
          (try simp only [Act.put, List.setIfInBounds_toArray, List.set_cons_zero, List.set_cons_succ, List.getElem_toArray, List.getElem_cons_succ, List.getElem_cons_zero])
          go_simp
          refine (CM.out _ BX.out).mono ?_
          rintro e y9 ⟨r, rfl, hr, hb⟩
          replace BX := hid (BX.out.trans (hb.out.mono BX.out.size))
          obtain rfl : r = false := by cases r with | false => rfl | true => exact absurd (hr.out.1 rfl) hmay.out
          clear hb hr
          try dsimp only
          refine hK.out _ _ (CF.out _ BX.out) (fun hHeld => ?_)
          clear hK K'
          (try simp only [Act.put, List.setIfInBounds_toArray, List.set_cons_zero, List.set_cons_succ, List.getElem_toArray, List.getElem_cons_succ, List.getElem_cons_zero])
          refine tkH (i := 6) (.bool true) rfl (by kernel_rfl) (fun _ _ _ h => h) (by rfl) (fun _ _ => by go_simp) hHeld ?_
          (try simp only [Act.put, List.setIfInBounds_toArray, List.set_cons_zero, List.set_cons_succ, List.getElem_toArray, List.getElem_cons_succ, List.getElem_cons_zero])
          refine tkH (i := 7) (.bool true) rfl (by kernel_rfl) (fun _ _ _ h => h) (by rfl) (fun _ _ => by go_simp) hHeld ?_
          (try simp only [Act.put, List.setIfInBounds_toArray, List.set_cons_zero, List.set_cons_succ, List.getElem_toArray, List.getElem_cons_succ, List.getElem_cons_zero])
          refine tkH (i := 8) (.bool true) rfl (by kernel_rfl) (fun _ _ _ h => h) (by rfl) (fun _ _ => by go_simp) hHeld ?_
          (try simp only [Act.put, List.setIfInBounds_toArray, List.set_cons_zero, List.set_cons_succ, List.getElem_toArray, List.getElem_cons_succ, List.getElem_cons_zero])
          refine skH (i := 9) rfl (by kernel_rfl) (fun _ _ _ h => h) (by rfl) hHeld ?_
          (try simp only [Act.put, List.setIfInBounds_toArray, List.set_cons_zero, List.set_cons_succ, List.getElem_toArray, List.getElem_cons_succ, List.getElem_cons_zero])
          refine skH (i := 10) rfl (by kernel_rfl) (fun _ _ _ h => h) (by rfl) hHeld ?_
          (try simp only [Act.put, List.setIfInBounds_toArray, List.set_cons_zero, List.set_cons_succ, List.getElem_toArray, List.getElem_cons_succ, List.getElem_cons_zero])
          refine skH (i := 11) rfl (by kernel_rfl) (fun _ _ _ h => h) (by rfl) hHeld ?_
          (try simp only [Act.put, List.setIfInBounds_toArray, List.set_cons_zero, List.set_cons_succ, List.getElem_toArray, List.getElem_cons_succ, List.getElem_cons_zero])
          refine skH (i := 12) rfl (by kernel_rfl) (fun _ _ _ h => h) (by rfl) hHeld ?_
          (try simp only [Act.put, List.setIfInBounds_toArray, List.set_cons_zero, List.set_cons_succ, List.getElem_toArray, List.getElem_cons_succ, List.getElem_cons_zero])
          refine skH (i := 13) rfl (by kernel_rfl) (fun _ _ _ h => h) (by rfl) hHeld ?_
          (try simp only [Act.put, List.setIfInBounds_toArray, List.set_cons_zero, List.set_cons_succ, List.getElem_toArray, List.getElem_cons_succ, List.getElem_cons_zero])
          refine skH (i := 14) rfl (by kernel_rfl) (fun _ _ _ h => h) (by rfl) hHeld ?_
          (try simp only [Act.put, List.setIfInBounds_toArray, List.set_cons_zero, List.set_cons_succ, List.getElem_toArray, List.getElem_cons_succ, List.getElem_cons_zero])
          refine tkH (i := 15) (.bool true) rfl (by kernel_rfl) (fun _ _ _ h => h) (by rfl) (fun _ _ => by go_simp) hHeld ?_
          (try simp only [Act.put, List.setIfInBounds_toArray, List.set_cons_zero, List.set_cons_succ, List.getElem_toArray, List.getElem_cons_succ, List.getElem_cons_zero])
          refine wpAnyH_done (by kernel_rfl) ?_ _
          have hnm := hid (fun M hM hk hc => hmay.out ((may_iff (hPr.out _ (Hi.bel (Below.refl _ _))) hx4.out).2 (by rw [hml.out, of_some HAL.out M hM hk hc]; exact hM)))
          clear CM hPr hHeld
          have BE := hid (B0.out.trans (BX.out.mono B0.out.size))
          have P4e := hid (P4.out.below BX.out P4.out.lt)
          clear CF P6 R7 HBX
          go_wp2_with (first | (refine wp_row_k rfl 31 (.tmp 4) (.tmp 203) (by with_reducible rfl) w.heap.size 31 (mdc (Mz 0)) (mdc (Mz 0)) (by rfl) (by rfl) P4e.out rfl (by kernel_rfl) (mdc_one _) ?_; intro Ze Q4 h4) | fail)
          refine ret_of rfl (by rfl) (by rfl) rfl (show Pbox Ze w.heap.size (Mz 0) from Q4) ⟨Mz 0, false, rfl, hid (fun h => by cases h), hid (fun _ => ⟨rfl, hnm.out⟩), hid (h4.bel BE.out (Nat.le_refl _))⟩
    have hltz : (i : Int) < (v6 : Int) := by omega
    cases st with
    | none =>
      have hc2 : wr.cell? ⟨w.heap.size + 1 + 1, 2, none⟩ = some (.bool false) := (by rw [cell_of_row wr _ 2 _ _ (0, 0) R7.out]; rfl)
      go_upto_region 43 with fail
      have HF := hid (show (lisP (Wdc xs) [] s6 v6).2 = none from by
        rcases REL.out with h | ⟨_, h2⟩
        · exact lisD_none (k := i) (by rw [h]) _ hi
        · exact h2)
      have HAL := hid (show alongP (Wdc xs) (some 0) (mz 5) = ((⟨5, (v1 : Int), (v2 : Int), (v3 : Int), (v4 : Int), 0, d0z, d0z, d0z, d0z, b5, (lisP (Wdc xs) [] s6 v6).1, false, 0, 0, []⟩ : Ml), none) from by
        rw [← HF.out]
        simp [alongP, kindP, hedP, headP, rfD, Wdc, mz, HB5.out, e1.out, e2.out, e3.out, e4.out, e5.out, e6.out])
      have HBX := hid (show By wr wr.heap.size A n c xs from (HY.out.below B0.out).mono B0.out.size)
      obtain ⟨m, hm⟩ : ∃ m, m = (⟨5, (v1 : Int), (v2 : Int), (v3 : Int), (v4 : Int), 0, D0, b5, Aq, l.length, cq, false, 0, 0, none, 0, 0⟩ : Md) := ⟨_, rfl⟩
      rw [← hm] at P6
      clear hm hc2 hltz hlt REL HF HO HLE HX hn5 e1 e2 e3 e4 e5 e6 VL1 VL2 VL3 VL4 VL5 VL6
      have BX : Hid (Below wr.heap.size wr wr.drew) := hid (Below.refl wr.heap.size wr).drew
      have CF : Hid (∀ Y, Below wr.heap.size wr Y → Pbox Y (w.heap.size + 1) m ∧ Rdb Y (w.heap.size + 1 + 1) A n c none ∧ ∃ B, By Y B A n c xs) := hid fun Y hb => ⟨P6.out.below hb P6.out.lt, R7.out.below hb R7.out.lt, ⟨_, HBX.out.below hb⟩⟩
      refine wp_region_held_drew (S := fun X => Pbox X (w.heap.size + 1) m ∧ Rdb X (w.heap.size + 1 + 1) A n c none ∧ ∃ B, By X B A n c xs) (by kernel_rfl) (CF.out _ BX.out) (fun hHeld => ?_)
      refine tkH (i := 0) (.pointer (some ⟨w.heap.size + 1 + 1, 2, none⟩)) rfl (by kernel_rfl) (fun _ _ _ h => h) (by rfl) (fun _ _ => by go_simp) hHeld ?_
      (try simp only [Act.put, List.setIfInBounds_toArray, List.set_cons_zero, List.set_cons_succ, List.getElem_toArray, List.getElem_cons_zero])
      refine tkH (i := 1) (.bool false) rfl (by kernel_rfl) (fun _ _ _ h => h) (by rfl) (fun w0 hSw => by have hc2 : w0.cell? ⟨w.heap.size + 1 + 1, 2, none⟩ = some (.bool false) := (by rw [cell_of_row w0 _ 2 _ _ (0, 0) hSw.2.1]; rfl); go_simp) hHeld ?_
      (try simp only [Act.put, List.setIfInBounds_toArray, List.set_cons_zero, List.set_cons_succ, List.getElem_toArray, List.getElem_cons_succ, List.getElem_cons_zero])
      refine tkH (i := 2) (.bool true) rfl (by kernel_rfl) (fun _ _ _ h => h) (by rfl) (fun _ _ => by go_simp) hHeld ?_
      (try simp only [Act.put, List.setIfInBounds_toArray, List.set_cons_zero, List.set_cons_succ, List.getElem_toArray, List.getElem_cons_succ, List.getElem_cons_zero])
      refine tkH (i := 3) (.bool true) rfl (by kernel_rfl) (fun _ _ _ h => h) (by rfl) (fun _ _ => by go_simp) hHeld ?_
      (try simp only [Act.put, List.setIfInBounds_toArray, List.set_cons_zero, List.set_cons_succ, List.getElem_toArray, List.getElem_cons_succ, List.getElem_cons_zero])
      refine skH (i := 4) rfl (by kernel_rfl) (fun _ _ _ h => h) (by rfl) hHeld ?_
      (try simp only [Act.put, List.setIfInBounds_toArray, List.set_cons_zero, List.set_cons_succ, List.getElem_toArray, List.getElem_cons_succ, List.getElem_cons_zero])
      refine skH (i := 5) rfl (by kernel_rfl) (fun _ _ _ h => h) (by rfl) hHeld ?_
      (try simp only [Act.put, List.setIfInBounds_toArray, List.set_cons_zero, List.set_cons_succ, List.getElem_toArray, List.getElem_cons_succ, List.getElem_cons_zero])
      refine skH (i := 6) rfl (by kernel_rfl) (fun _ _ _ h => h) (by rfl) hHeld ?_
      (try simp only [Act.put, List.setIfInBounds_toArray, List.set_cons_zero, List.set_cons_succ, List.getElem_toArray, List.getElem_cons_succ, List.getElem_cons_zero])
      refine tkH (i := 7) (.bool true) rfl (by kernel_rfl) (fun _ _ _ h => h) (by rfl) (fun _ _ => by go_simp) hHeld ?_
      (try simp only [Act.put, List.setIfInBounds_toArray, List.set_cons_zero, List.set_cons_succ, List.getElem_toArray, List.getElem_cons_succ, List.getElem_cons_zero])
      refine tkH (i := 8) (.bool true) rfl (by kernel_rfl) (fun _ _ _ h => h) (by rfl) (fun _ _ => by go_simp) hHeld ?_
      (try simp only [Act.put, List.setIfInBounds_toArray, List.set_cons_zero, List.set_cons_succ, List.getElem_toArray, List.getElem_cons_succ, List.getElem_cons_zero])
      refine skH (i := 9) rfl (by kernel_rfl) (fun _ _ _ h => h) (by rfl) hHeld ?_
      (try simp only [Act.put, List.setIfInBounds_toArray, List.set_cons_zero, List.set_cons_succ, List.getElem_toArray, List.getElem_cons_succ, List.getElem_cons_zero])
      refine skH (i := 10) rfl (by kernel_rfl) (fun _ _ _ h => h) (by rfl) hHeld ?_
      (try simp only [Act.put, List.setIfInBounds_toArray, List.set_cons_zero, List.set_cons_succ, List.getElem_toArray, List.getElem_cons_succ, List.getElem_cons_zero])
      refine skH (i := 11) rfl (by kernel_rfl) (fun _ _ _ h => h) (by rfl) hHeld ?_
      (try simp only [Act.put, List.setIfInBounds_toArray, List.set_cons_zero, List.set_cons_succ, List.getElem_toArray, List.getElem_cons_succ, List.getElem_cons_zero])
      refine skH (i := 12) rfl (by kernel_rfl) (fun _ _ _ h => h) (by rfl) hHeld ?_
      (try simp only [Act.put, List.setIfInBounds_toArray, List.set_cons_zero, List.set_cons_succ, List.getElem_toArray, List.getElem_cons_succ, List.getElem_cons_zero])
      refine skH (i := 13) rfl (by kernel_rfl) (fun _ _ _ h => h) (by rfl) hHeld ?_
      (try simp only [Act.put, List.setIfInBounds_toArray, List.set_cons_zero, List.set_cons_succ, List.getElem_toArray, List.getElem_cons_succ, List.getElem_cons_zero])
      refine skH (i := 14) rfl (by kernel_rfl) (fun _ _ _ h => h) (by rfl) hHeld ?_
      (try simp only [Act.put, List.setIfInBounds_toArray, List.set_cons_zero, List.set_cons_succ, List.getElem_toArray, List.getElem_cons_succ, List.getElem_cons_zero])
      refine tkH (i := 15) (.bool true) rfl (by kernel_rfl) (fun _ _ _ h => h) (by rfl) (fun _ _ => by go_simp) hHeld ?_
      (try simp only [Act.put, List.setIfInBounds_toArray, List.set_cons_zero, List.set_cons_succ, List.getElem_toArray, List.getElem_cons_succ, List.getElem_cons_zero])
      refine wpAnyH_done (by kernel_rfl) ?_ _
      have BE := hid (B0.out.trans (BX.out.mono B0.out.size))
      have P4e := hid (P4.out.below BX.out P4.out.lt)
      clear CF P6 R7 HBX
      go_wp2_with (first | (refine wp_row_k rfl 31 (.tmp 4) (.tmp 203) (by with_reducible rfl) w.heap.size 31 (mdc (Mz 0)) (mdc (Mz 0)) (by rfl) (by rfl) P4e.out rfl (by kernel_rfl) (mdc_one _) ?_; intro Ze Q4 h4) | fail)
      refine ret_of rfl (by rfl) (by rfl) rfl (show Pbox Ze w.heap.size (Mz 0) from Q4) ⟨Mz 0, false, rfl, hid (fun h => by cases h), hid (fun _ => ⟨rfl, of_none HAL.out⟩), hid (h4.bel BE.out (Nat.le_refl _))⟩
    | some q =>
      have hc2 : wr.cell? ⟨w.heap.size + 1 + 1, 2, none⟩ = some (.bool true) := (by rw [cell_of_row wr _ 2 _ _ (0, 0) R7.out]; rfl)
      have RE := hid (show lisP (Wdc xs) [] s6 i = (l, some q) from by rcases REL.out with h | ⟨h, _⟩; exact h; cases h)
      clear REL
      obtain ⟨W1, hW1⟩ : ∃ W, W = wr.alloc (.cells #[.int .i64 0, .int .i64 0] 73) := ⟨_, rfl⟩
      have DB := hid (show W1.heap[wr.heap.size]? = some (.cells #[.int .i64 0, .int .i64 0] 73 (0, 0)) from hW1 ▸ heap_alloc_new wr _)
      have KW := hid (show Below wr.heap.size wr W1 from hW1 ▸ (Below.refl _ wr).alloc (Nat.le_refl _) _)
      have SL := hid S1.out
      have HO0r := hid (od_no HO.out (Nat.le_refl _))
      obtain ⟨va, sa, ea⟩ : ∃ v s, rnD xs (some q) 1 = (v, s) := ⟨_, _, rfl⟩
      have CN := hid (fun X (hb : Below w.heap.size w X) => ernumT (z := 1) ((HY.out.below hb).mono hb.size) K0.out (by omega) HX.out)
      obtain ⟨r1, r2, Ka, VLa⟩ := rnD_all (fun x hx => HY.out.lt x hx) K0.out (by omega) ea
      rw [r1, r2] at CN
      clear r1 r2
      replace K0 := hid Ka
      replace VLa := hid VLa
      replace ea := hid ea
      clear Ka
      replace hW1 := hid hW1
      have R70 := R7
      go_upto_region 26 with fail
      rw [← hW1.out]
      clear hc2 hltz hW1 R70
      replace P4 := hid (P4.out.below KW.out P4.out.lt)
      replace P6 := hid (P6.out.below KW.out P6.out.lt)
      replace R7 := hid (R7.out.below KW.out R7.out.lt)
      replace B0 := hid (B0.out.trans ((KW.out).mono B0.out.size))
      replace S1 := hid (Nat.lt_of_lt_of_le S1.out (KW.out).size)
      replace HO := hid (HO.out.below KW.out)
      clear KW
      have DB0 := HO0r
      go_wp2_with (first | (refine wp_rload rfl (.tmp 7) (by with_reducible rfl) (w.heap.size + 1 + 1) _ (by rfl) R7.out ?_) | fail)
      refine (CN.out _ B0.out).mono ?_
      rintro e Xa ⟨rfl, hb⟩
      replace P4 := hid (P4.out.below hb.out P4.out.lt)
      replace P6 := hid (P6.out.below hb.out P6.out.lt)
      replace R7 := hid (R7.out.below hb.out R7.out.lt)
      replace B0 := hid (B0.out.trans ((hb.out).mono B0.out.size))
      replace S1 := hid (Nat.lt_of_lt_of_le S1.out (hb.out).size)
      replace HO := hid (HO.out.below hb.out)
      replace DB := hid ((hb.out.block _ (lt_of_heap DB.out)).trans DB.out)
      clear hb CN
      go_upto_region 27 with (first
    | (refine wp_row_k rfl 106 (.tmp 7) (.tmp 115) (by with_reducible rfl) (w.heap.size + 1 + 1) 106 (rdc A n c (some q)) (rdc A n c sa) (by rfl) (by rfl) R7.out (rdc_size _ _ _ _ _) (by rw [rdc_size3]; kernel_rfl) (rdc_one _ _ _ _) ?_; intro Ya Q7 h7; replace R7 := hid (show Rdb Ya (w.heap.size + 1 + 1) A n c sa from Q7); replace P4 := hid (h7.pbox P4.out (by omega)); replace P6 := hid (h7.pbox P6.out (by omega)); replace B0 := hid (h7.bel B0.out (by omega)); replace S1 := hid (h7.size ▸ S1.out); replace HO := hid (HO.out.hi (Hi.wq' h7 (by omega))); replace DB := hid (h7.at DB.out (by have := SL.out; omega)); clear Q7 h7)
    | (refine wp_cell_k rfl 3 (.tmp 117) (.tmp 116) (by with_reducible rfl) wr.heap.size 0 (.int .i64 (va : Int)) 73 #[.int .i64 0, .int .i64 0] #[.int .i64 (va : Int), .int .i64 0] (by rfl) (by rfl) rfl (by kernel_rfl) DB.out (show (0 : Nat) < 2 by decide) rfl ?_; intro Za Qd hd; have sl := SL.out; replace DB := hid Qd; replace P4 := hid (hd.pbox P4.out (by omega)); replace P6 := hid (hd.pbox P6.out (by omega)); replace R7 := hid (show Rdb Za (w.heap.size + 1 + 1) A n c sa from hd.rdb R7.out (by omega)); replace B0 := hid (hd.bel B0.out (by omega)); replace S1 := hid (hd.size ▸ S1.out); replace HO := hid (od_wq HO.out DB0.out hd); clear Qd hd sl)
    | fail)
      obtain ⟨vb, sb, eb⟩ : ∃ v s, rnD xs sa 4 = (v, s) := ⟨_, _, rfl⟩
      have CN := hid (fun X (hb : Below w.heap.size w X) => ernumT (z := 4) ((HY.out.below hb).mono hb.size) K0.out (by omega) HX.out)
      obtain ⟨r1, r2, Kb, VLb⟩ := rnD_all (fun x hx => HY.out.lt x hx) K0.out (by omega) eb
      rw [r1, r2] at CN
      clear r1 r2
      replace K0 := hid Kb
      replace VLb := hid VLb
      replace eb := hid eb
      clear Kb
      go_wp2_with (first | (refine wp_rload rfl (.tmp 7) (by with_reducible rfl) (w.heap.size + 1 + 1) _ (by rfl) R7.out ?_) | fail)
      refine (CN.out _ B0.out).mono ?_
      rintro e Xb ⟨rfl, hb⟩
      replace P4 := hid (P4.out.below hb.out P4.out.lt)
      replace P6 := hid (P6.out.below hb.out P6.out.lt)
      replace R7 := hid (R7.out.below hb.out R7.out.lt)
      replace B0 := hid (B0.out.trans ((hb.out).mono B0.out.size))
      replace S1 := hid (Nat.lt_of_lt_of_le S1.out (hb.out).size)
      replace HO := hid (HO.out.below hb.out)
      replace DB := hid ((hb.out.block _ (lt_of_heap DB.out)).trans DB.out)
      clear hb CN
      go_upto_region 28 with (first
    | (refine wp_row_k rfl 106 (.tmp 7) (.tmp 121) (by with_reducible rfl) (w.heap.size + 1 + 1) 106 (rdc A n c sa) (rdc A n c sb) (by rfl) (by rfl) R7.out (rdc_size _ _ _ _ _) (by rw [rdc_size3]; kernel_rfl) (rdc_one _ _ _ _) ?_; intro Yb Q7 h7; replace R7 := hid (show Rdb Yb (w.heap.size + 1 + 1) A n c sb from Q7); replace P4 := hid (h7.pbox P4.out (by omega)); replace P6 := hid (h7.pbox P6.out (by omega)); replace B0 := hid (h7.bel B0.out (by omega)); replace S1 := hid (h7.size ▸ S1.out); replace HO := hid (HO.out.hi (Hi.wq' h7 (by omega))); replace DB := hid (h7.at DB.out (by have := SL.out; omega)); clear Q7 h7)
    | (refine wp_cell_k rfl 3 (.tmp 123) (.tmp 122) (by with_reducible rfl) wr.heap.size 1 (.int .i64 (vb : Int)) 73 #[.int .i64 (va : Int), .int .i64 0] #[.int .i64 (va : Int), .int .i64 (vb : Int)] (by rfl) (by rfl) rfl (by kernel_rfl) DB.out (show (1 : Nat) < 2 by decide) rfl ?_; intro Zb Qd hd; have sl := SL.out; replace DB := hid Qd; replace P4 := hid (hd.pbox P4.out (by omega)); replace P6 := hid (hd.pbox P6.out (by omega)); replace R7 := hid (show Rdb Zb (w.heap.size + 1 + 1) A n c sb from hd.rdb R7.out (by omega)); replace B0 := hid (hd.bel B0.out (by omega)); replace S1 := hid (hd.size ▸ S1.out); replace HO := hid (od_wq HO.out DB0.out hd); clear Qd hd sl)
    | fail)
      have x19 := P6.out.c19
      have d0' := cell_of_row Zb wr.heap.size 0 _ _ (0, 0) DB.out
      have d1' := cell_of_row Zb wr.heap.size 1 _ _ (0, 0) DB.out
      obtain ⟨Wn, hWn⟩ : ∃ W, W = Zb.alloc (.cells #[.int .i64 (va : Int), .int .i64 (vb : Int)] 73) := ⟨_, rfl⟩
      have HOn := hid (show Od Wn (w.heap.size + 1 + 1 + 1) (.slice Aq l.length cq) l from hWn ▸ HO.out.below ((Below.refl _ Zb).alloc (Nat.le_refl _) _))
      have KN := hid (show Below Zb.heap.size Zb Wn from hWn ▸ (Below.refl _ Zb).alloc (Nat.le_refl _) _)
      have DN := hid (show Ds Wn Wn.heap.size (some ⟨Zb.heap.size, 0, none⟩) 1 1 [((va : Int), (vb : Int))] from hWn ▸ ds_at (heap_alloc_new Zb _))
      replace hWn := hid hWn
      have SZ := S1
      have hwi : IntKind.i64.wrap ((i : Int) + 1) = (i : Int) + 1 := IntWalk.i64_in _ (by have := HN256.out; omega)
      have hle := HLE.out
      go_wp2_with (first
    | (at_builtin; refine list_appD rfl (.tmp 125) (.tmp 127) rfl (w := Zb.alloc (.cells #[.int .i64 (va : Int), .int .i64 (vb : Int)] 73)) (v := .slice Aq l.length cq) (B := w.heap.size + 1 + 1 + 1) (l := l) (r := [((va : Int), (vb : Int))]) rfl rfl (hWn.out ▸ HOn.out) (hWn.out ▸ DN.out) (by have := HN256.out; omega) (by have := SZ.out; rw [World.size_alloc]; omega) ?_; intro vn Xn HT; replace HT := hid (show Turned Wn Xn (w.heap.size + 1 + 1 + 1) (.slice Aq l.length cq) vn (l ++ [((va : Int), (vb : Int))]) from hWn.out ▸ HT.out); have KT := hid (HT.out.bel HOn.out (by have := SZ.out; have := KN.out.size; omega)); obtain ⟨An, cn, en, -⟩ := HT.out.own.form; obtain ⟨nn', HN'⟩ : ∃ k, (l ++ [((va : Int), (vb : Int))]).length = k := ⟨_, rfl⟩; rw [HN'] at en; subst en; have HOx := hid HT.out.own; replace HN' := hid HN'; have PX := hid ((P6.out.below KN.out P6.out.lt).below KT.out (by omega)))
    | (refine wp_cell_k rfl 27 (.tmp 129) (.tmp 128) (by with_reducible rfl) (w.heap.size + 1) 19 (.slice An nn' cn) 31 (mdc (⟨5, (v1 : Int), (v2 : Int), (v3 : Int), (v4 : Int), 0, D0, b5, Aq, l.length, cq, false, 0, 0, none, 0, 0⟩ : Md)) (mdc (⟨5, (v1 : Int), (v2 : Int), (v3 : Int), (v4 : Int), 0, D0, b5, An, nn', cn, false, 0, 0, none, 0, 0⟩ : Md)) (by rfl) (by rfl) rfl (by kernel_rfl) PX.out (show (19 : Nat) < 24 by decide) rfl ?_; intro Zn Qn hn2)
    | fail)
      have R7n := hid (show Rdb Zn (w.heap.size + 1 + 1) A n c sb from hn2.rdb ((R7.out.below KN.out R7.out.lt).below KT.out (by omega)) (by omega))
      have P4n := hid (hn2.pbox ((P4.out.below KN.out P4.out.lt).below KT.out (by omega)) (by omega))
      have B0n := hid (hn2.bel ((B0.out.trans (KN.out.mono B0.out.size)).trans (KT.out.mono (by omega))) (by omega))
      have S1n := hid (show w.heap.size + 1 + 1 < Zn.heap.size from by have := SZ.out; have := KN.out.size; have := KT.out.size; have := hn2.size; omega)
      have HOf := HOx.out.hi (Hi.wq' hn2 (by omega))
      have PQ : Pbox Zn (w.heap.size + 1) (⟨5, (v1 : Int), (v2 : Int), (v3 : Int), (v4 : Int), 0, D0, b5, An, nn', cn, false, 0, 0, none, 0, 0⟩ : Md) := Qn
      rw [← HN'.out] at HOf PQ
      replace HOf := hid HOf
      have RN := hid (lisD_next RE.out ea.out eb.out)
      go_roundg (v6 - (i + 1))
      case measure => omega
      case rel => exact ⟨i + 1, sb, An, cn, (l ++ [((va : Int), (vb : Int))]), by omega, by omega, by go_num, P4n, hid PQ, R7n, B0n, S1n, K0, HOf, hid (by rw [List.length_append]; have := HLE.out; simp; omega), hid (.inl RN.out)⟩
end Go.Proofs.YtbankbehfjogpaaGreat
