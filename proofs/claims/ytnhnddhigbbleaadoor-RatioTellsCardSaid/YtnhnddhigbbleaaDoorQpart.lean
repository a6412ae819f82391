/- Ratio, the document's side: Part. -/
import Derived.Test.YtnhnddhigbbleaaDoorQask
import Derived.Test.YtnhnddhigbbleaaDoorRinto
namespace Go.Proofs.YtnhnddhigbbleaaDoor
open Go.RowKit

theorem one_bits {X : World} {N : Nat} (h : X.heap[N]? = some (.cells #[.int .u8 1] 5 (0, 0))) : Bits X X.heap.size (some ⟨N, 0, none⟩) 1 1 1 :=
  ⟨Nat.le_refl _, by omega, fun e => (by cases e), by decide, fun _ => ⟨N, 0, rfl, lt_of_heap h, fun j hj => by
    obtain rfl : j = 0 := by omega
    rw [cell_of_row X N _ _ _ (0, 0) h]
    rfl⟩⟩
theorem bt_dims {w : World} {B V : Nat} {v : Value} (h : Bt w B V v) : ∃ A n c, v = .slice A n c ∧ Bits w B A n c V ∧ n ≤ c ∧ n ≤ 140737488355328 ∧ (n = 0 ↔ V = 0) := by
  obtain ⟨A, n, c, rfl, hb, hl⟩ := h
  have := Bt.dims (A := A) (n := n) (c := c) ⟨A, n, c, rfl, hb, hl⟩
  refine ⟨A, n, c, rfl, hb, this.1, this.2.1, this.2.2.1, fun hV => ?_⟩
  rcases Nat.eq_zero_or_pos n with h0 | h0
  · exact h0
  · exact absurd hV (this.2.2.2 h0)

set_option maxHeartbeats 6400000 in
set_option maxRecDepth 100000 in
theorem part_any {w : World} {s t up : Bool} {A D : Option Addr} {n c m d X Y k : Nat} {f h : Nat → Nat} (ra : Rd w w.heap.size A n c f) (rb : Rd w w.heap.size D m d h) (fa : Fit n f) (fb : Fit m h) (hX : X ≤ 1024) (hY : Y ≤ 1024) (hk : k ≤ 64) (hm : 0 < m) :
    Calls Tryd.prog 17 #[.agg #[.bool s, .slice A n c, .int .i64 (X : Int)], .agg #[.bool t, .slice D m d, .int .i64 (Y : Int)], .int .i64 (k : Int), .bool up] w fun e w' =>
      ∃ v, e = .returned v ∧ Hid (Sg w' 2600 (num s (dq_ s up (vl f n * tw (Y + k)) (vl h m * tw X))) v) ∧ Hid (Below w.heap.size w w') := by
  have mixed : Tryd.prog.follows .mixedOrders = true := by kernel_rfl
  have K := hid ((((Below.refl w.heap.size w).alloc (Nat.le_refl _) (.cells #[.bool s, .slice A n c, .int .i64 (X : Int)] 24)).alloc (by simp) (.cells #[.bool t, .slice D m d, .int .i64 (Y : Int)] 24)).alloc (by simp; omega) (.cells #[.bool false, .slice none 0 0] 45))
  have P0 : Hid (Dbox ((w.alloc (.cells #[.bool s, .slice A n c, .int .i64 (X : Int)] 24)).alloc (.cells #[.bool t, .slice D m d, .int .i64 (Y : Int)] 24)) w.heap.size s (.slice A n c) (X : Int)) := (Below.heap_alloc _ (.cells #[.bool t, .slice D m d, .int .i64 (Y : Int)] 24) _ (by simp)).trans (heap_alloc_new w (.cells #[.bool s, .slice A n c, .int .i64 (X : Int)] 24))
  have P1 : Hid (Dbox ((w.alloc (.cells #[.bool s, .slice A n c, .int .i64 (X : Int)] 24)).alloc (.cells #[.bool t, .slice D m d, .int .i64 (Y : Int)] 24)) (w.heap.size + 1) t (.slice D m d) (Y : Int)) := heap_alloc2_new w (.cells #[.bool s, .slice A n c, .int .i64 (X : Int)] 24) (.cells #[.bool t, .slice D m d, .int .i64 (Y : Int)] 24)
  obtain ⟨W0, hW0⟩ : ∃ W, W = (w.alloc (.cells #[.bool s, .slice A n c, .int .i64 (X : Int)] 24)).alloc (.cells #[.bool t, .slice D m d, .int .i64 (Y : Int)] 24) := ⟨_, rfl⟩
  have hs0 : W0.heap.size = w.heap.size + 1 + 1 := by rw [hW0]; simp
  have HW0 := hid hW0
  rw [← hW0] at K P0 P1
  clear hW0
  have P8 : Hid (Sbox (W0.alloc (.cells #[.bool false, .slice none 0 0] 45)) W0.heap.size false (.slice none 0 0)) := hid (heap_alloc_new W0 _)
  obtain ⟨W, hW⟩ : ∃ W, W = W0.alloc (.cells #[.bool false, .slice none 0 0] 45) := ⟨_, rfl⟩
  replace P0 := hid (show Dbox W w.heap.size s (.slice A n c) (X : Int) from hW ▸ P0.out.alloc _)
  replace P1 := hid (show Dbox W (w.heap.size + 1) t (.slice D m d) (Y : Int) from hW ▸ P1.out.alloc _)
  have HW := hid hW
  rw [← hW] at K P8
  clear hW
  rw [hs0] at P8
  clear hs0
  have hV : vl f n < pw 40 := vl_pw40 ra fa
  have hU : vl h m < pw 40 := vl_pw40 rb fb
  have hU0 : 0 < vl h m := by
    have := (vl_zero_iff fb).1
    omega
  have CD1 := hid (fun (w' : World) (hb : Below w.heap.size w w') => Digits_any ((ra.below hb).mono hb.size) (by have := fa.1; omega))
  have CD2 := hid (fun (w' : World) (hb : Below w.heap.size w w') => Digits_any ((rb.below hb).mono hb.size) (by have := fb.1; omega))
  obtain ⟨j, hj⟩ : ∃ j, j = Y + k := ⟨_, rfl⟩
  have hadd : IntKind.i64.wrap ((Y : Int) + (k : Int)) = (j : Int) := by rw [IntKind.wrap_i64]; omega
  have hj2 : j ≤ 1280 := by omega
  rw [← hj]
  have Hj2 := hid hj2
  have HX2 := hid (show X ≤ 1280 by omega)
  generalize vl f n = V at *
  generalize vl h m = U at *
  have HV := hid hV
  have HU := hid hU
  have HU0 := hid (Nat.mul_pos hU0 (tw_pos X))
  have HB1 : Hid (V * tw j < tw 2560) := hid (by
    have h1 : V < tw 1280 := by rw [tw_pw] at hV; exact hV
    rw [show (2560 : Nat) = 1280 + 1280 from rfl, tw_add 1280 1280]
    exact Nat.lt_of_lt_of_le (Nat.mul_lt_mul_of_pos_right h1 (tw_pos j)) (Nat.mul_le_mul_left _ (tw_mono hj2)))
  have HB2 : Hid (U * tw X < tw 2560) := hid (by
    have h1 : U < tw 1280 := by rw [tw_pw] at hU; exact hU
    rw [show (2560 : Nat) = 1280 + 1280 from rfl, tw_add 1280 1280]
    exact Nat.lt_of_lt_of_le (Nat.mul_lt_mul_of_pos_right h1 (tw_pos X)) (Nat.mul_le_mul_left _ (tw_mono (by omega))))
  have CF : Hid (∀ w', Below W.heap.size W w' → w'.cell? ⟨w.heap.size, 1, none⟩ = some (.slice A n c) ∧ w'.cell? ⟨w.heap.size + 1, 2, none⟩ = some (.int .i64 (Y : Int))) :=
    hid fun w' hb => ⟨(P0.out.below hb P0.out.lt).c1, (P1.out.below hb P1.out.lt).c2⟩
  have CG : Hid (∀ w', Below W.heap.size W w' → w'.cell? ⟨w.heap.size + 1, 1, none⟩ = some (.slice D m d) ∧ w'.cell? ⟨w.heap.size, 2, none⟩ = some (.int .i64 (X : Int))) :=
    hid fun w' hb => ⟨(P1.out.below hb P1.out.lt).c1, (P0.out.below hb P0.out.lt).c2⟩
  clear ra rb fa fb hU0 hm hj hV hU hj2 hk hX hY
  go_enter Tryd.func17, Tryd.ntmps17
  go_upto_region 1 with fail
  rw [← HW0.out, ← HW.out]
  have HBz := hid ((Below.refl W.heap.size W).drew)
  go_region_held3 (fun w' => w'.cell? ⟨w.heap.size, 1, none⟩ = some (.slice A n c) ∧ w'.cell? ⟨w.heap.size + 1, 2, none⟩ = some (.int .i64 (Y : Int)))
    (exact CF.out _ HBz.out)
    (first
    | (go_at_call 33
       refine (CD1.out _ (K.out.trans (HBz.out.mono K.out.size))).mono ?_
       rintro e wa ⟨v, rfl, Ba, A1, n1, c1, rfl, Bv, Bl⟩
       have HBt := hid (show Bt wa wa.heap.size V (.slice A1 n1 c1) from ⟨A1, n1, c1, rfl, Bv, Bl⟩)
       have HBz := hid (HBz.out.trans (Ba.mono HBz.out.size))
       clear Ba Bv Bl)
    | (go_at_call 32
       refine (Times2_any HBt.out HV.out j Hj2.out).mono ?_
       rintro e wb ⟨v, rfl, Ba, A2, n2, c2, rfl, Bv, Bl⟩
       have HBt := hid (show Bt wb wb.heap.size (V * tw j) (.slice A2 n2 c2) from ⟨A2, n2, c2, rfl, Bv, Bl⟩)
       have HBz := hid (HBz.out.trans (Ba.mono HBz.out.size))
       clear Ba Bv Bl))
  all_goals
    have HB1x := hid (HBt.out.below (Below.refl _ _).drew)
    have HBz := hid HBz.out.drew
    clear HBt
    go_wp2_with fail
    go_region_held3 (fun w' => w'.cell? ⟨w.heap.size + 1, 1, none⟩ = some (.slice D m d) ∧ w'.cell? ⟨w.heap.size, 2, none⟩ = some (.int .i64 (X : Int)))
      (exact CG.out _ HBz.out)
      (first
      | (go_at_call 33
         refine (CD2.out _ (K.out.trans (HBz.out.mono K.out.size))).mono ?_
         rintro e wa ⟨v, rfl, Ba, A3, n3, c3, rfl, Bv, Bl⟩
         have HBt := hid (show Bt wa wa.heap.size U (.slice A3 n3 c3) from ⟨A3, n3, c3, rfl, Bv, Bl⟩)
         have HB1x := hid ((HB1x.out.below Ba).mono Ba.size)
         have HBz := hid (HBz.out.trans (Ba.mono HBz.out.size))
         clear Ba Bv Bl)
      | (go_at_call 32
         refine (Times2_any HBt.out HU.out X HX2.out).mono ?_
         rintro e wb ⟨v, rfl, Ba, A4, n4, c4, rfl, Bv, Bl⟩
         have HBt := hid (show Bt wb wb.heap.size (U * tw X) (.slice A4 n4 c4) from ⟨A4, n4, c4, rfl, Bv, Bl⟩)
         have HB1x := hid ((HB1x.out.below Ba).mono Ba.size)
         have HBz := hid (HBz.out.trans (Ba.mono HBz.out.size))
         clear Ba Bv Bl))
  all_goals
    generalize hxe : V * tw j = x at *
    generalize hye : U * tw X = y at *
    have HXE := hid hxe
    have HYE := hid hye
    clear hxe hye
    clear CD1 CD2 CF CG P1
    have CI := hid (Into_any HB1x.out HBt.out (Nat.lt_of_lt_of_le HB1.out (tw_mono (by omega))) (Nat.lt_of_lt_of_le HB2.out (tw_mono (by omega))) HU0.out)
    go_wp2_with fail
    refine CI.out.mono ?_
    rintro e y1 ⟨q, r, rfl, hb, hq, hr⟩
    have HBy := hid (HBz.out.trans (hb.out.mono HBz.out.size))
    clear CI HB1x HBt hb HBz
    have HQx := hid (show x / y < tw 2560 from Nat.lt_of_le_of_lt (Nat.div_le_self _ _) HB1.out)
    obtain ⟨Aq, nq, cq, rfl, hbq, hlq⟩ := hq.out
    have HF := hid (show Bt y1 y1.heap.size (x / y) (.slice Aq nq cq) from ⟨Aq, nq, cq, rfl, hbq, hlq⟩)
    obtain ⟨Ar, nr, cr, rfl, _, hcr, hmr, hr0⟩ := bt_dims hr.out
    have hcq := hbq.cap
    have hmq := (Bt.dims HF.out).2.1
    have HR0 := hid hr0
    clear hq hr hbq hlq hr0
    have a0 := (P0.out.below HBy.out P0.out.lt).c0
    by_cases hz : nr = 0
    · have hz1 : ¬ (0 : Int) < (nr : Int) := by omega
      have HD : Hid (dq_ s up x y = x / y) := hid (by unfold dq_; rw [if_neg (fun h => h.1 (HR0.out.1 hz)), Nat.add_zero])
      clear hz
      have P8x := hid (P8.out.below HBy.out P8.out.lt)
      have g0 := P8x.out.frozen 0
      have g1 := P8x.out.frozen 1
      have e0 := P8x.out.c0
      have e1 := P8x.out.c1
      go_wp2_with fail
      clear g0 g1 e0 e1
      refine ret_sig rfl rfl rfl (P8x.out.store (t := s) (u := .slice Aq nq cq)) ?_
      refine ⟨_, rfl, ⟨s, Aq, nq, cq, x / y, rfl, ?_, Nat.lt_of_lt_of_le HQx.out (tw_mono (by omega)), by rw [HXE.out, HYE.out, HD.out]⟩, below_put2 (K.out.trans (HBy.out.mono K.out.size)) (by omega)⟩
      exact (HF.out.stay P8x.out).mono (Nat.le_of_eq (put2_size _ _ _ _).symm)
    have hz1 : (0 : Int) < (nr : Int) := by omega
    have HRx := hid (show x % y ≠ 0 from fun h => hz (HR0.out.2 h))
    clear hz
    by_cases hus : up = s
    · subst hus
      have HD : Hid (dq_ up up x y = x / y) := hid (by unfold dq_; rw [if_neg (fun h => h.2 rfl), Nat.add_zero])
      have P8x := hid (P8.out.below HBy.out P8.out.lt)
      have g0 := P8x.out.frozen 0
      have g1 := P8x.out.frozen 1
      have e0 := P8x.out.c0
      have e1 := P8x.out.c1
      go_wp2_with fail
      clear g0 g1 e0 e1
      refine ret_sig rfl rfl rfl (P8x.out.store (t := up) (u := .slice Aq nq cq)) ?_
      refine ⟨_, rfl, ⟨up, Aq, nq, cq, x / y, rfl, ?_, Nat.lt_of_lt_of_le HQx.out (tw_mono (by omega)), by rw [HXE.out, HYE.out, HD.out]⟩, below_put2 (K.out.trans (HBy.out.mono K.out.size)) (by omega)⟩
      exact (HF.out.stay P8x.out).mono (Nat.le_of_eq (put2_size _ _ _ _).symm)
    have HD : Hid (dq_ s up x y = x / y + 1) := hid (by unfold dq_; rw [if_pos ⟨HRx.out, hus⟩])
    cases up <;> cases s <;> first | exact absurd rfl hus | skip
    all_goals
      clear hus
      have CP := hid (Plus_bits (w := y1.alloc (.cells #[.int .u8 1] 5)) ((Bt.short HF.out HQx.out).1.below ((Below.refl _ y1).alloc (Nat.le_refl _) _)) (one_bits (heap_alloc_new y1 _)) (by simp) (Nat.le_refl _) (by have := (Bt.short HF.out HQx.out).2; omega) (by omega))
      go_wp2_with fail
      refine CP.out.mono ?_
      rintro e y2 ⟨v, rfl, hb, hv⟩
      have HBw := hid (HBy.out.trans (((Below.refl y1.heap.size y1).alloc (Nat.le_refl _) (.cells #[.int .u8 1] 5)).trans (hb.mono (by simp)) |>.mono HBy.out.size))
      clear HF CP hb a0
      obtain ⟨Av, nv, cv, rfl, hbv, hlv⟩ := hv
      have HF := hid (show Bt y2 y2.heap.size (x / y + 1) (.slice Av nv cv) from ⟨Av, nv, cv, rfl, hbv, hlv⟩)
      clear hbv hlv
      have a0 := (P0.out.below HBw.out P0.out.lt).c0
      have P8x := hid (P8.out.below HBw.out P8.out.lt)
      have g0 := P8x.out.frozen 0
      have g1 := P8x.out.frozen 1
      have e0 := P8x.out.c0
      have e1 := P8x.out.c1
      go_wp2_with fail
      clear g0 g1 e0 e1
      refine ret_sig rfl rfl rfl (P8x.out.store (t := _) (u := .slice Av nv cv)) ?_
      refine ⟨_, rfl, ⟨_, Av, nv, cv, x / y + 1, rfl, ?_, (by have h1 := HQx.out; have h2 := tw_mono (show 2561 ≤ 2600 by omega); have h3 : tw 2561 = tw 2560 * 2 := tw_succ 2560; have h4 := tw_pos 2560; omega), by rw [HXE.out, HYE.out, HD.out]⟩, below_put2 (K.out.trans (HBw.out.mono K.out.size)) (by omega)⟩
      exact (HF.out.stay P8x.out).mono (Nat.le_of_eq (put2_size _ _ _ _).symm)
end Go.Proofs.YtnhnddhigbbleaaDoor
