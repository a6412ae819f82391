/- The document's signed bits: Formed. -/
import Derived.Test.YtnhnddhigbbleaaDoorEsig
import Derived.Test.YtnhnddhigbbleaaDoorRlm
namespace Go.Proofs.YtnhnddhigbbleaaDoor
open Go.RowKit

/-- What the document hands back that answers a dyad and an error. -/
def ERes (w : World) (E : Int → Prop) (M : Int) (e : Ending) (w' : World) : Prop := ∃ d er, e = .returned (.tuple #[d, .int .i64 er]) ∧ Hid (E er) ∧ Hid (Dv w' (resD er M) d) ∧ Hid (Below w.heap.size w w')

theorem Bt.drop {w : World} {B V b off m c : Nat} (h : Bt w B V (.slice (some ⟨b, off, none⟩) (m + 1) (c + 1))) : Bt w B (V / 2) (.slice (some ⟨b, off + 1, none⟩) m c) := by
  obtain ⟨A, n, c', hv, hr, hl⟩ := h
  injection hv with h1 h2 h3
  subst h1 h2 h3
  obtain ⟨b', off', hA, hB, hc⟩ := hr.at_ (by omega)
  injection hA with hA
  injection hA with e1 e2
  subst e1 e2
  have hlt := hr.lt
  have hl2 := hl (by omega)
  rw [tw_succ] at hlt
  rw [Nat.add_sub_cancel] at hl2
  refine ⟨_, _, _, rfl, ⟨by have := hr.cap; omega, by have := hr.max; omega, fun h => (by cases h), by omega, fun _ => ⟨b, off + 1, rfl, hB, fun j hj => ?_⟩⟩, fun hm => ?_⟩
  · have hb := bt_div V 1 j
    rw [show tw 1 = 2 from rfl] at hb
    rw [hb, show off + 1 + j = off + (1 + j) by omega]
    exact hc (1 + j) (by omega)
  · obtain ⟨q, rfl⟩ : ∃ q, m = q + 1 := ⟨m - 1, by omega⟩
    rw [tw_succ] at hl2
    rw [Nat.add_sub_cancel]
    omega
theorem Bt.drop1 {w : World} {B V b off m : Nat} (h : Bt w B V (.slice (some ⟨b, off, none⟩) (m + 1) 1)) (p : Addr) : Bt w B (V / 2) (.slice (some p) 0 0) := by
  obtain ⟨A, n, c', hv, hr, hl⟩ := h
  injection hv with h1 h2 h3
  subst h1 h2 h3
  have hlt := hr.lt
  have hcap := hr.cap
  obtain rfl : m = 0 := by omega
  have h1 : tw (0 + 1) = 2 := rfl
  rw [show V / 2 = 0 by omega]
  exact ⟨_, _, _, rfl, ⟨Nat.le_refl _, by omega, fun h => (by cases h), tw_pos 0, fun h => absurd h (by omega)⟩, fun h => absurd h (by omega)⟩
theorem Bt.cell0 {w : World} {B V n c : Nat} {A : Option Addr} (h : Bt w B V (.slice A n c)) (hn : 0 < n) : ∃ b off, A = some ⟨b, off, none⟩ ∧ w.cell? ⟨b, off, none⟩ = some (.int .u8 (bt V 0 : Int)) := by
  obtain ⟨A', n', c', hv, hr, hl⟩ := h
  injection hv with h1 h2 h3
  subst h1 h2 h3
  obtain ⟨b, off, rfl, hB, hc⟩ := hr.at_ hn
  exact ⟨b, off, rfl, hc 0 hn⟩
theorem form_num {s : Bool} {N V K k : Nat} (hN : N = V * tw (K - k)) (hk : k ≤ K) (hK : K ≤ 4000) : num s N * (tp (4000 - K) : Int) = dv s V k := by
  subst hN
  unfold dv
  rw [← num_mul, show 4000 - k = (K - k) + (4000 - K) by omega, tp_add, ← Nat.mul_assoc]
  rfl
theorem form_half {N V K k : Nat} (hN : N = V * tw (K - (k + 1))) (hk : k + 1 ≤ K) (h0 : bt V 0 = 0) : N = V / 2 * tw (K - k) := by
  unfold bt at h0
  rw [tw_zero, Nat.div_one] at h0
  rw [show K - k = (K - (k + 1)) + 1 by omega, tw_succ, Nat.mul_comm (tw (K - (k + 1))), ← Nat.mul_assoc, show V / 2 * 2 = V by omega]
  exact hN


set_option maxHeartbeats 6400000 in
theorem eform_any {w : World} {L K : Nat} {M : Int} {v : Value} (h : Sg w L M v) (hL : L ≤ 3900) (hK4 : K ≤ 4000) :
    Calls Tryd.prog 16 #[v, .int .i64 (K : Int)] w (ERes w (Derr (M * (tp (4000 - K) : Int))) (M * (tp (4000 - K) : Int))) := by
  obtain ⟨s, A, n, c, N, rfl, hb, hN, rfl⟩ := h
  obtain ⟨B, hB⟩ : ∃ B, B = w.heap.size := ⟨_, rfl⟩
  have B0 := hid (((Below.refl w.heap.size w).alloc (Nat.le_refl _) (.cells #[.bool s, .slice A n c] 45)).alloc (by simp) (.cells #[.bool false, .slice none 0 0, .int .i64 0] 24))
  have P0 : Hid (Sbox _ w.heap.size s (.slice A n c)) := (Below.heap_alloc _ (.cells #[.bool false, .slice none 0 0, .int .i64 0] 24) _ (by simp)).trans (heap_alloc_new w (.cells #[.bool s, .slice A n c] 45))
  have P1 : Hid (Dbox _ (w.heap.size + 1) false (.slice none 0 0) 0) := heap_alloc2_new w (.cells #[.bool s, .slice A n c] 45) (.cells #[.bool false, .slice none 0 0, .int .i64 0] 24)
  obtain ⟨W, hW⟩ : ∃ W, W = (w.alloc (.cells #[.bool s, .slice A n c] 45)).alloc (.cells #[.bool false, .slice none 0 0, .int .i64 0] 24) := ⟨_, rfl⟩
  have HW := hid hW
  rw [← hW] at B0 P0 P1
  have HNL := hid hN
  have hb2 := hb.below B0.out
  obtain ⟨A', n', c', hv, hr, hl⟩ := hb2
  injection hv with e1 e2 e3
  subst e1 e2 e3
  have CC := hid (rcut_any hr)
  have CF : Hid (∀ w', Below W.heap.size W w' → w'.cell? ⟨w.heap.size, 0, none⟩ = some (.bool s)) := fun w' hb => (P0.out.below hb P0.out.lt).c0
  have a1 := P0.out.c1
  have HBB : Hid (w.heap.size ≤ W.heap.size) := B0.out.size
  have HB := hid hB
  clear hb hN hW hr hl hB
  go_enter Tryd.func16, Tryd.ntmps16
  go_upto_region 1 with fail
  rw [← HW.out]
  go_wp2_with fail
  refine CC.out.mono ?_
  rintro e w' ⟨v1, rfl, rfl, A1, n1, c1, rfl, hb1, hl1⟩
  have Hb1 := hid (show Bt W w.heap.size N (.slice A1 n1 c1) from ⟨A1, n1, c1, rfl, hb1, hl1⟩)
  clear CC a1 hb1 hl1
  go_wp2_with fail
  go_loop [1, 6] (fun kk bb => ∃ (k : Nat) (A2 : Option Addr) (n2 c2 V : Nat), k ≤ K ∧ kk = .int .i64 (k : Int) ∧ bb = .slice A2 n2 c2 ∧ Hid (Bt W w.heap.size V (.slice A2 n2 c2)) ∧ Hid (N = V * tw (K - k))) (fun kk _ => (intOf kk).toNat)
  case atStart => exact ⟨K, A1, n1, c1, N, Nat.le_refl _, rfl, rfl, Hb1, hid (by rw [Nat.sub_self, tw_zero, Nat.mul_one])⟩
  case round =>
    obtain ⟨k, A2, n2, c2, V, hk, rfl, rfl, Hb, HN⟩ := hrel
    obtain ⟨hcap, hmax, hd0, hd1⟩ := Hb.out.dims
    have Hd := hid (And.intro hd0 hd1)
    have HVL : Hid (V < tw 4000) := by
      have h1 := HNL.out
      have h2 := tw_mono hL
      have h3 := tw_mono (show 3900 ≤ 4000 by omega)
      have h4 := HN.out
      have h5 := Nat.le_mul_of_pos_right V (tw_pos (K - k))
      unfold Hid
      omega
    have CL := hid (fun (w' : World) (hb : Below W.heap.size W w') => Limbs_any ((Hb.out.mono HBB.out).below hb) hb.size HVL.out)
    clear hd0 hd1
    rcases Nat.eq_zero_or_pos k with hk0 | hk0
    · subst hk0
      rcases Nat.eq_zero_or_pos n2 with h0 | h0
      · subst h0
        clear CL HVL
        have q0 := P1.out.frozen 0
        have q1 := P1.out.frozen 1
        have q2 := P1.out.frozen 2
        have r0 := P1.out.c0
        have r1 := P1.out.c1
        have r2 := P1.out.c2
        go_wp2
        refine ret_dyad rfl rfl rfl rfl (P1.out.store (t := false) (u := .slice none 0 0) (y := 0)) ?_
        have hV0 : V = 0 := by first | exact Hd.out.1 rfl | exact Hd.out.1 trivial
        have hfm := form_num (s := s) HN.out hk hK4
        rw [hV0, show dv s 0 0 = 0 by simp [dv, num_zero]] at hfm
        refine ⟨_, 0, rfl, ?_, ?_, below_put3 B0.out (by omega)⟩
        · rw [hfm]
          exact .inl ⟨okay_zero, rfl⟩
        · rw [resD_ok rfl, hfm]
          exact Dv.zero _

      · have hn0 : ((n2 : Int) == 0) = false := by simp; omega
        have hn1 : (0 : Int) < (n2 : Int) := by omega
        go_upto_region 7 with fail
        have HBz := hid ((Below.refl W.heap.size W).drew)
        go_region_held3 (fun w' => w'.cell? ⟨w.heap.size, 0, none⟩ = some (.bool s))
          (first | exact CF.out _ HBz.out | exact CF.out _ (HBz.out.alloc HBz.out.size _) | exact CF.out _ (((HBz.out.setCell (p := ⟨W.heap.size, 0, none⟩) (Nat.le_refl _) _).setCell (p := ⟨W.heap.size, 1, none⟩) (Nat.le_refl _) _).setCell (p := ⟨W.heap.size, 2, none⟩) (Nat.le_refl _) _))
          ((go_at_call 31
            first
              | refine (CL.out _ HBz.out).mono ?_
              | refine (CL.out _ (HBz.out.alloc HBz.out.size _)).mono ?_
            rintro e wa ⟨v, rfl, Ba, A1, k1, c1, h1, rfl, Rr, Rl, Rv⟩
            have Ba := hid Ba
            have Rr := hid Rr
            have Rl := hid Rl
            have Rv := hid Rv
            have HBz := hid (by first | exact HBz.out.trans (Ba.out.mono HBz.out.size) | exact (HBz.out.alloc HBz.out.size _).trans (Ba.out.mono (HBz.out.alloc HBz.out.size _).size))
            first
              | (have Px : Hid (Dbox wa W.heap.size false (.slice none 0 0) 0) := hid (Dbox.below (w := W.drew.alloc (.cells #[.bool false, .slice none 0 0, .int .i64 0] 24)) (heap_alloc_new W.drew _) Ba.out (by simp))
                 have z0 := Px.out.c0
                 have z1 := Px.out.c1
                 have z2 := Px.out.c2
                 have y0 := Px.out.frozen 0
                 have y1 := Px.out.frozen 1
                 have y2 := Px.out.frozen 2)
              | skip))
        all_goals
          first
            | (clear z0 z1 z2 y0 y1 y2
               obtain ⟨WW, hWW⟩ : ∃ X, X = put3 wa W.heap.size s (.slice A1 k1 c1) (0) := ⟨_, rfl⟩
               have HWW : Hid (_ = _) := hid (hWW.symm.trans (show WW = WW from rfl))
               have PX : Hid (Dbox WW W.heap.size s (.slice A1 k1 c1) (0)) := by rw [hWW]; exact Px.out.store
               have RR : Hid (Rd WW WW.heap.size A1 k1 c1 h1) := by rw [hWW]; exact Rr.out.stay Px.out
               have BW : Hid (Below W.heap.size W WW) := by rw [hWW]; exact below_put3 HBz.out (Nat.le_refl _)
               have hgx : W.heap.size ≤ W.heap.size := Nat.le_refl _
               unfold put3 at hWW
               rw [← hWW])
            | (obtain ⟨WW, hWW⟩ : ∃ X, X = wa.alloc (.cells #[.bool s, .slice A1 k1 c1, .int .i64 (0)] 24) := ⟨_, rfl⟩
               have PX : Hid (Dbox WW wa.heap.size s (.slice A1 k1 c1) (0)) := by rw [hWW]; exact heap_alloc_new _ _
               have RR : Hid (Rd WW WW.heap.size A1 k1 c1 h1) := by rw [hWW]; exact (Rr.out.below ((Below.refl wa.heap.size wa).alloc (Nat.le_refl _) _)).mono (by simp)
               have BW : Hid (Below W.heap.size W WW) := by rw [hWW]; exact HBz.out.alloc HBz.out.size _
               have hgx : W.heap.size ≤ wa.heap.size := HBz.out.size
               rw [← hWW])
          clear hWW Rr
          have p0 := PX.out.c0
          have p1 := PX.out.c1
          have p2 := PX.out.c2
          have P1 := hid (P1.out.below BW.out P1.out.lt)
          have hcn : Canon s V 0 := ⟨fun h => absurd h (Hd.out.2 (by omega)), fun h => absurd h (by omega)⟩
          have hfm := form_num (s := s) HN.out hk hK4
          have Hfm := hid hfm
          have Hcn := hid hcn
          have hr1 := RR.out.max
          clear hfm hcn
          by_cases hm : DMay s k1 h1 (0)
          · have Cm := hid (emay_any RR.out s (0))
            rw [bool_of_dec hm] at Cm
            have Hm := hid hm
            clear hm
            go_wp2_with fail
            refine Cm.out.mono ?_
            rintro e wc ⟨rfl, Bc⟩
            have RR := hid ((RR.out.below Bc.out).mono Bc.out.size)
            have PX := hid (PX.out.below Bc.out PX.out.lt)
            have P1 := hid (P1.out.below Bc.out P1.out.lt)
            have BW := hid (BW.out.trans (Bc.out.mono BW.out.size))
            have p0 := PX.out.c0
            have p1 := PX.out.c1
            have p2 := PX.out.c2
            have q0 := P1.out.frozen 0
            have q1 := P1.out.frozen 1
            have q2 := P1.out.frozen 2
            have r0 := P1.out.c0
            have r1 := P1.out.c1
            have r2 := P1.out.c2
            clear Cm Bc
            go_wp2
            refine ret_dyad rfl rfl rfl rfl (P1.out.store (t := s) (u := .slice A1 k1 c1) (y := (0))) ?_
            refine ⟨_, 0, rfl, ?_, ?_, below_put3 (B0.out.trans (BW.out.mono B0.out.size)) (by omega)⟩
            · rw [Hfm.out]
              exact .inl ⟨⟨s, V, 0, Hcn.out, by rw [← Rv.out]; exact vl_pw40 RR.out Hm.out.1, by have := Hm.out.2.2.1; omega, rfl⟩, rfl⟩
            · rw [resD_ok rfl, Hfm.out]
              exact ⟨s, _, 0, V, rfl, ⟨A1, k1, c1, h1, rfl, RR.out.stay P1.out, Hm.out.1, Rv.out⟩, Hcn.out, by have := Hm.out.2.2.1; omega, rfl⟩
          · have Cm := hid (emay_any RR.out s (0))
            rw [bool_of_not hm] at Cm
            have Hm := hid hm
            clear hm
            go_wp2_with fail
            refine Cm.out.mono ?_
            rintro e wc ⟨rfl, Bc⟩
            have P1 := hid (P1.out.below Bc.out P1.out.lt)
            have BW := hid (BW.out.trans (Bc.out.mono BW.out.size))
            have q0 := P1.out.frozen 0
            have q1 := P1.out.frozen 1
            have q2 := P1.out.frozen 2
            have r0 := P1.out.c0
            have r1 := P1.out.c1
            have r2 := P1.out.c2
            clear Cm Bc
            go_wp2
            refine ret_dyad rfl rfl rfl rfl (P1.out.store (t := false) (u := .slice none 0 0) (y := 0)) ?_
            refine ⟨_, 10, rfl, ?_, ?_, below_put3 (B0.out.trans (BW.out.mono B0.out.size)) (by omega)⟩
            · rw [Hfm.out]
              refine .inr ⟨not_okay Hcn.out (by omega) ?_, rfl⟩
              rcases Nat.lt_or_ge 1024 0 with hx | hx
              · exact .inr hx
              · left
                rcases Nat.lt_or_ge V (pw 40) with hv | hv
                · exfalso
                  have hk40 := (lm_40 RR.out.lt Rl.out Rv.out).2 hv
                  refine Hm.out (canon_may ⟨hk40, Rl.out⟩ ?_ hx)
                  rw [Rv.out]
                  exact Hcn.out
                · exact hv
            · rw [resD_bad (by decide)]
              exact Dv.zero _

    · have hkp : (0 : Int) < (k : Int) := by omega
      rcases Nat.eq_zero_or_pos n2 with h0 | h0
      · subst h0
        clear CL HVL
        have q0 := P1.out.frozen 0
        have q1 := P1.out.frozen 1
        have q2 := P1.out.frozen 2
        have r0 := P1.out.c0
        have r1 := P1.out.c1
        have r2 := P1.out.c2
        go_wp2
        refine ret_dyad rfl rfl rfl rfl (P1.out.store (t := false) (u := .slice none 0 0) (y := 0)) ?_
        have hV0 : V = 0 := by first | exact Hd.out.1 rfl | exact Hd.out.1 trivial
        have hfm := form_num (s := s) HN.out hk hK4
        rw [hV0, show dv s 0 k = 0 by simp [dv, num_zero]] at hfm
        refine ⟨_, 0, rfl, ?_, ?_, below_put3 B0.out (by omega)⟩
        · rw [hfm]
          exact .inl ⟨okay_zero, rfl⟩
        · rw [resD_ok rfl, hfm]
          exact Dv.zero _

      · have hn0 : ((n2 : Int) == 0) = false := by simp; omega
        have hn1 : (0 : Int) < (n2 : Int) := by omega
        obtain ⟨b, off, rfl, hcell⟩ := Hb.out.cell0 h0
        have hb1 := bt_le V 0
        by_cases hz : bt V 0 = 0
        · rw [hz] at hcell
          obtain ⟨j, rfl⟩ : ∃ j, k = j + 1 := ⟨k - 1, by omega⟩
          obtain ⟨m, rfl⟩ : ∃ m, n2 = m + 1 := ⟨n2 - 1, by omega⟩
          obtain ⟨d, rfl⟩ : ∃ d, c2 = d + 1 := ⟨c2 - 1, by omega⟩
          have HN2 := hid (form_half HN.out hk hz)
          clear hz hb1 CL
          by_cases hc1 : d = 0
          · subst hc1
            have Hb2 := hid (Hb.out.drop1 ⟨b, off, none⟩)
            obtain rfl : m = 0 := by omega
            go_wp2
            go_round
            case rel => exact ⟨j, _, _, _, _, by omega, by go_num, rfl, Hb2, HN2⟩
            case measure => simp [intOf]
          · have Hb2 := hid Hb.out.drop
            have hd3 : ¬ ((d : Int) + 1 = 1) := by omega
            go_wp2
            go_round
            case rel => exact ⟨j, _, _, _, _, by omega, by go_num, by first | rfl | (congr 1 <;> omega), Hb2, HN2⟩
            case measure => simp [intOf]
        · have hz1 : bt V 0 = 1 := by omega
          have Hodd := hid (show V % 2 = 1 by unfold bt at hz1; rw [tw_zero, Nat.div_one] at hz1; exact hz1)
          rw [hz1] at hcell
          clear hz hb1 hz1
          go_upto_region 7 with fail
          have HBz := hid ((Below.refl W.heap.size W).drew)
          go_region_held3 (fun w' => w'.cell? ⟨w.heap.size, 0, none⟩ = some (.bool s))
            (first | exact CF.out _ HBz.out | exact CF.out _ (HBz.out.alloc HBz.out.size _) | exact CF.out _ (((HBz.out.setCell (p := ⟨W.heap.size, 0, none⟩) (Nat.le_refl _) _).setCell (p := ⟨W.heap.size, 1, none⟩) (Nat.le_refl _) _).setCell (p := ⟨W.heap.size, 2, none⟩) (Nat.le_refl _) _))
            ((go_at_call 31
              first
                | refine (CL.out _ HBz.out).mono ?_
                | refine (CL.out _ (HBz.out.alloc HBz.out.size _)).mono ?_
              rintro e wa ⟨v, rfl, Ba, A1, k1, c1, h1, rfl, Rr, Rl, Rv⟩
              have Ba := hid Ba
              have Rr := hid Rr
              have Rl := hid Rl
              have Rv := hid Rv
              have HBz := hid (by first | exact HBz.out.trans (Ba.out.mono HBz.out.size) | exact (HBz.out.alloc HBz.out.size _).trans (Ba.out.mono (HBz.out.alloc HBz.out.size _).size))
              first
                | (have Px : Hid (Dbox wa W.heap.size false (.slice none 0 0) 0) := hid (Dbox.below (w := W.drew.alloc (.cells #[.bool false, .slice none 0 0, .int .i64 0] 24)) (heap_alloc_new W.drew _) Ba.out (by simp))
                   have z0 := Px.out.c0
                   have z1 := Px.out.c1
                   have z2 := Px.out.c2
                   have y0 := Px.out.frozen 0
                   have y1 := Px.out.frozen 1
                   have y2 := Px.out.frozen 2)
                | skip))
          all_goals
            first
              | (clear z0 z1 z2 y0 y1 y2
                 obtain ⟨WW, hWW⟩ : ∃ X, X = put3 wa W.heap.size s (.slice A1 k1 c1) ((k : Int)) := ⟨_, rfl⟩
                 have HWW : Hid (_ = _) := hid (hWW.symm.trans (show WW = WW from rfl))
                 have PX : Hid (Dbox WW W.heap.size s (.slice A1 k1 c1) ((k : Int))) := by rw [hWW]; exact Px.out.store
                 have RR : Hid (Rd WW WW.heap.size A1 k1 c1 h1) := by rw [hWW]; exact Rr.out.stay Px.out
                 have BW : Hid (Below W.heap.size W WW) := by rw [hWW]; exact below_put3 HBz.out (Nat.le_refl _)
                 have hgx : W.heap.size ≤ W.heap.size := Nat.le_refl _
                 unfold put3 at hWW
                 rw [← hWW])
              | (obtain ⟨WW, hWW⟩ : ∃ X, X = wa.alloc (.cells #[.bool s, .slice A1 k1 c1, .int .i64 ((k : Int))] 24) := ⟨_, rfl⟩
                 have PX : Hid (Dbox WW wa.heap.size s (.slice A1 k1 c1) ((k : Int))) := by rw [hWW]; exact heap_alloc_new _ _
                 have RR : Hid (Rd WW WW.heap.size A1 k1 c1 h1) := by rw [hWW]; exact (Rr.out.below ((Below.refl wa.heap.size wa).alloc (Nat.le_refl _) _)).mono (by simp)
                 have BW : Hid (Below W.heap.size W WW) := by rw [hWW]; exact HBz.out.alloc HBz.out.size _
                 have hgx : W.heap.size ≤ wa.heap.size := HBz.out.size
                 rw [← hWW])
            clear hWW Rr
            have p0 := PX.out.c0
            have p1 := PX.out.c1
            have p2 := PX.out.c2
            have P1 := hid (P1.out.below BW.out P1.out.lt)
            have hcn : Canon s V k := ⟨fun h => absurd h (Hd.out.2 (by omega)), fun _ => Hodd.out⟩
            have hfm := form_num (s := s) HN.out hk hK4
            have Hfm := hid hfm
            have Hcn := hid hcn
            have hr1 := RR.out.max
            clear hfm hcn
            by_cases hm : DMay s k1 h1 ((k : Int))
            · have Cm := hid (emay_any RR.out s ((k : Int)))
              rw [bool_of_dec hm] at Cm
              have Hm := hid hm
              clear hm
              go_wp2_with fail
              refine Cm.out.mono ?_
              rintro e wc ⟨rfl, Bc⟩
              have RR := hid ((RR.out.below Bc.out).mono Bc.out.size)
              have PX := hid (PX.out.below Bc.out PX.out.lt)
              have P1 := hid (P1.out.below Bc.out P1.out.lt)
              have BW := hid (BW.out.trans (Bc.out.mono BW.out.size))
              have p0 := PX.out.c0
              have p1 := PX.out.c1
              have p2 := PX.out.c2
              have q0 := P1.out.frozen 0
              have q1 := P1.out.frozen 1
              have q2 := P1.out.frozen 2
              have r0 := P1.out.c0
              have r1 := P1.out.c1
              have r2 := P1.out.c2
              clear Cm Bc
              go_wp2
              refine ret_dyad rfl rfl rfl rfl (P1.out.store (t := s) (u := .slice A1 k1 c1) (y := ((k : Int)))) ?_
              refine ⟨_, 0, rfl, ?_, ?_, below_put3 (B0.out.trans (BW.out.mono B0.out.size)) (by omega)⟩
              · rw [Hfm.out]
                exact .inl ⟨⟨s, V, k, Hcn.out, by rw [← Rv.out]; exact vl_pw40 RR.out Hm.out.1, by have := Hm.out.2.2.1; omega, rfl⟩, rfl⟩
              · rw [resD_ok rfl, Hfm.out]
                exact ⟨s, _, k, V, rfl, ⟨A1, k1, c1, h1, rfl, RR.out.stay P1.out, Hm.out.1, Rv.out⟩, Hcn.out, by have := Hm.out.2.2.1; omega, rfl⟩
            · have Cm := hid (emay_any RR.out s ((k : Int)))
              rw [bool_of_not hm] at Cm
              have Hm := hid hm
              clear hm
              go_wp2_with fail
              refine Cm.out.mono ?_
              rintro e wc ⟨rfl, Bc⟩
              have P1 := hid (P1.out.below Bc.out P1.out.lt)
              have BW := hid (BW.out.trans (Bc.out.mono BW.out.size))
              have q0 := P1.out.frozen 0
              have q1 := P1.out.frozen 1
              have q2 := P1.out.frozen 2
              have r0 := P1.out.c0
              have r1 := P1.out.c1
              have r2 := P1.out.c2
              clear Cm Bc
              go_wp2
              refine ret_dyad rfl rfl rfl rfl (P1.out.store (t := false) (u := .slice none 0 0) (y := 0)) ?_
              refine ⟨_, 10, rfl, ?_, ?_, below_put3 (B0.out.trans (BW.out.mono B0.out.size)) (by omega)⟩
              · rw [Hfm.out]
                refine .inr ⟨not_okay Hcn.out (by omega) ?_, rfl⟩
                rcases Nat.lt_or_ge 1024 k with hx | hx
                · exact .inr hx
                · left
                  rcases Nat.lt_or_ge V (pw 40) with hv | hv
                  · exfalso
                    have hk40 := (lm_40 RR.out.lt Rl.out Rv.out).2 hv
                    refine Hm.out (canon_may ⟨hk40, Rl.out⟩ ?_ hx)
                    rw [Rv.out]
                    exact Hcn.out
                  · exact hv
              · rw [resD_bad (by decide)]
                exact Dv.zero _


end Go.Proofs.YtnhnddhigbbleaaDoor
