/- What the document's Half answers lies in memory that was made behind its call. -/
/- The document's masses: Split. -/
/- The document's masses: Seeded, Seed. -/
import Derived.Test.YtelalanhalbicaaDoorEsum
import Derived.Test.YtelalanhalbicaaDoorMy1
import Derived.Test.YtelalanhalbicaaDoorEof

namespace Go.Proofs.YtelalanhalbicaaDoor
open Go.RowKit

theorem Fresh.mono {L K : Nat} {v : Value} (h : Fresh L v) (hk : K ≤ L) : Fresh K v := fun b off n c hv => Nat.le_trans hk (h b off n c hv)
theorem Lrow.fresh {w : World} {B V n : Nat} {v : Value} (h : Lrow w B V n v) : Fresh B v := by
  intro b off n' c hv
  obtain ⟨_, hor⟩ := h
  rcases hor with ⟨rfl, rfl⟩ | ⟨g, cap, cur, rfl, hg, _⟩
  · cases hv
  · injection hv with h1
    injection h1 with h1
    injection h1 with h1
    omega
/-- A dyad whose limbs lie in a block from B on, or nowhere. -/
def Dfr (B : Nat) (d : Value) : Prop := ∀ s v x, d = .agg #[s, v, x] → Fresh B v
theorem Dfr.mono {L K : Nat} {d : Value} (h : Dfr L d) (hk : K ≤ L) : Dfr K d := fun s v x hd => (h s v x hd).mono hk
theorem dfr_zero (B : Nat) (s x : Value) (n c : Nat) : Dfr B (.agg #[s, .slice none n c, x]) := by
  intro s' v x' hd b off n' c' hv
  injection hd with hd
  injection hd with hd
  injection hd with h1 h2
  injection h2 with h2 h3
  subst h2
  cases hv
theorem dfr_of {B : Nat} {v : Value} (h : Fresh B v) (s x : Value) : Dfr B (.agg #[s, v, x]) := by
  intro s' v' x' hd
  injection hd with hd
  injection hd with hd
  injection hd with h1 h2
  injection h2 with h2 h3
  subst h2
  exact h
/-- What hands back a dyad, and an error; the dyad lies in new memory. -/
def EResF (w : World) (E : Int → Prop) (M : Int) (e : Ending) (w' : World) : Prop := ∃ d er, e = .returned (.tuple #[d, .int .i64 er]) ∧ Hid (E er) ∧ Hid (Dv w' (resD er M) d) ∧ Hid (Dfr w.heap.size d) ∧ Hid (Below w.heap.size w w')

set_option maxHeartbeats 2000000 in
theorem Limbs_bits_f {w : World} {B V n0 c0 : Nat} {A0 : Option Addr} (hb0 : Bits w B A0 n0 c0 V) (hB : B ≤ w.heap.size) (hV0 : V < tw 4000) :
    Calls Tryd.prog 69 #[.slice A0 n0 c0] w fun e w' => ∃ v, e = .returned v ∧ Below w.heap.size w w' ∧ Lm w' w'.heap.size V v ∧ Fresh w.heap.size v := by
  have Cc := hid (rcut_any hb0)
  have HV0 := hid hV0
  have HB := hid hB
  clear hb0 hV0
  go_enter Tryd.func69, Tryd.ntmps69
  go_wp2_with fail
  refine Cc.out.mono ?_
  rintro e w' ⟨v1, rfl, rfl, A, n, c, rfl, hx, hl⟩
  have Hx := hid hx
  have Hl := hid hl
  have hn : n ≤ 4000 := by
    rcases Nat.eq_zero_or_pos n with h0 | h0
    · omega
    · rcases Nat.lt_or_ge 4000 n with h1 | h1
      · have a := hl h0
        have b : tw 4000 ≤ tw (n - 1) := tw_mono (by omega)
        have c := HV0.out
        omega
      · exact h1
  have hxc := hx.cap
  clear hx hl HV0 Cc
  go_wp2_with fail
  go_loopw [3, 4] (fun v i wr => ∃ q p : Nat, p ≤ n + 31 ∧ i = .int .i64 (p : Int) ∧ Hid (p = 32 * q) ∧ Hid (Lrow wr w.heap.size V q v) ∧ Hid (Below w.heap.size w wr)) (fun _ i _ => n + 32 - (intOf i).toNat)
  case atStart => exact ⟨0, 0, by omega, rfl, rfl, Lrow.nil _ _ _, Below.refl _ _⟩
  case round =>
    obtain ⟨q, p, hp, rfl, Hp, hrow, hbel⟩ := hrel
    by_cases hpn : p < n
    · obtain ⟨b, off, rfl, hbB, hc⟩ := Hx.out.at_ (by omega)
      have Hc := hid hc
      clear hc
      have hcase : ∃ T : Nat, ((n ≤ p + 32 ∧ T = n) ∨ (p + 32 < n ∧ T = p + 32)) ∧ (T = n ∨ T = 32 * q + 32) := by
        have := Hp.out
        rcases Nat.lt_or_ge (p + 32) n with h | h
        · exact ⟨p + 32, .inr ⟨h, rfl⟩, .inr (by omega)⟩
        · exact ⟨n, .inl ⟨h, rfl⟩, .inl rfl⟩
      obtain ⟨T, hT, hT2⟩ := hcase
      have HT2 := hid hT2
      have hTp : p ≤ T := by omega
      have hTn : T ≤ n := by omega
      have hTm : T ≤ p + 32 := by omega
      clear hT2
      rcases hT with ⟨hmin, HT⟩ | ⟨hmin, HT⟩
      all_goals
        have HT := hid HT
        go_wp2_with fail
        go_loopw [5, 6] (fun y t wx => ∃ t' y' : Nat, p ≤ t' ∧ t' ≤ T ∧ t = .int .i64 ((t' : Int) - 1) ∧ y = .int .u32 (y' : Int) ∧ y' < 4294967296 ∧ Hid (y' = V % tw (32 * q + 32) / tw t') ∧ wx = wr) (fun _ t _ => (intOf t + 1).toNat)
        case atStart =>
          refine ⟨T, 0, hTp, Nat.le_refl _, congrArg (Value.int IntKind.i64) (by have := HT.out; omega), rfl, by omega, hid (limb_start Hx.out.lt HT2.out).symm, rfl⟩
        case round =>
          obtain ⟨t, y, ht1, ht2, rfl, rfl, hy, Hy, rfl⟩ := hrel
          rcases Nat.eq_or_lt_of_le ht1 with h0 | h0
          · subst h0
            have hyl : y = lb V q := by
              rw [Hy.out, Hp.out, limb_end]
            subst hyl
            go_wp2_with (at_builtin; refine wpList_append_one rfl (.tmp 34) (.tmp 36) 22 rfl 71 (.int .u32 0) 4 Tryd.underlying22 info_u32 rfl (by decide) rfl rfl hrow.out hbel.out rfl (by have := Hp.out; omega) ?_; intro v' w' hown' hbel')
            go_roundw
            case rel =>
              refine ⟨q + 1, p + 32, by omega, by go_num, hid (by have := Hp.out; omega), hid ?_, hbel'⟩
              have h := hown'.out
              unfold Lrow
              rw [lg_succ]
              exact h
            case measure => simp [intOf]; omega
          · obtain ⟨s, rfl⟩ : ∃ s, t = s + 1 := ⟨t - 1, by omega⟩
            have cs := (hbel.out.cell (p := ⟨b, off + s, none⟩) (Nat.lt_of_lt_of_le hbB HB.out)).trans (Hc.out s (by omega))
            have hs := limb_step (V := V) (q := q) (t := s) (by have := Hp.out; omega)
            have hlt := limb_lt (V := V) (q := q) (t := s) (by have := Hp.out; omega)
            rw [← Hy.out] at hs
            rw [hs] at hlt
            have hb1 := bt_le V s
            generalize bt V s = d at *
            have Hs := hid hs
            clear hs
            rw [show (((s + 1 : Nat) : Int) - 1) = (s : Int) by omega]
            go_wp2
            go_roundw
            case rel => exact ⟨s, 2 * y + d, by omega, by omega, by go_num, by go_num, by omega, hid Hs.out.symm, by first | rfl | trivial⟩
            case measure => simp [intOf]
    · have hq : V < pw q ∧ (0 < q → lb V (q - 1) ≠ 0) := limbs_end Hx.out.lt Hl.out (by have := Hp.out; omega) (by have := Hp.out; omega)
      have Hfr := hid hrow.out.fresh
      obtain ⟨A1, c1, rfl, hr⟩ := Lrow.shape hrow.out hq.1 (by have := Hp.out; omega)
      have Hq := hid hq
      have Hr := hid hr
      clear hq hr
      go_wp2
      go_ret
      exact ⟨_, rfl, hbel.out, ⟨_, _, _, _, rfl, Hr.out, Hq.out.2, vl_lb_all Hq.out.1⟩, Hfr.out⟩

theorem Limbs_any_f {w : World} {B V L : Nat} {v0 : Value} (hb : Bt w B V v0) (hB : B ≤ w.heap.size) (hV0 : V < tw 4000) (hL : L ≤ w.heap.size) :
    Calls Tryd.prog 69 #[v0] w fun e w' => ∃ v, e = .returned v ∧ Below w.heap.size w w' ∧ Lm w' w'.heap.size V v ∧ Fresh L v := by
  obtain ⟨A0, n0, c0, rfl, hb0, _⟩ := hb
  refine (Limbs_bits_f hb0 hB hV0).mono ?_
  rintro e w' ⟨v, rfl, h1, h2, h3⟩
  exact ⟨v, rfl, h1, h2, h3.mono hL⟩

set_option maxHeartbeats 6400000 in
theorem eform_any_f {w : World} {L K : Nat} {M : Int} {v : Value} (h : Sg w L M v) (hL : L ≤ 3900) (hK4 : K ≤ 4000) :
    Calls Tryd.prog 47 #[v, .int .i64 (K : Int)] w (EResF w (Derr (M * (tp (4000 - K) : Int))) (M * (tp (4000 - K) : Int))) := by
  obtain ⟨s, A, n, c, N, rfl, hb, hN, rfl⟩ := h
  obtain ⟨B, hB⟩ : ∃ B, B = w.heap.size := ⟨_, rfl⟩
  have B0 := hid (((Below.refl w.heap.size w).alloc (Nat.le_refl _) (.cells #[.bool s, .slice A n c] 80)).alloc (by simp) (.cells #[.bool false, .slice none 0 0, .int .i64 0] 24))
  have P0 : Hid (Sbox _ w.heap.size s (.slice A n c)) := (Below.heap_alloc _ (.cells #[.bool false, .slice none 0 0, .int .i64 0] 24) _ (by simp)).trans (heap_alloc_new w (.cells #[.bool s, .slice A n c] 80))
  have P1 : Hid (Dbox _ (w.heap.size + 1) false (.slice none 0 0) 0) := heap_alloc2_new w (.cells #[.bool s, .slice A n c] 80) (.cells #[.bool false, .slice none 0 0, .int .i64 0] 24)
  obtain ⟨W, hW⟩ : ∃ W, W = (w.alloc (.cells #[.bool s, .slice A n c] 80)).alloc (.cells #[.bool false, .slice none 0 0, .int .i64 0] 24) := ⟨_, rfl⟩
  have HW := hid hW
  rw [← hW] at B0 P0 P1
  have HNL := hid hN
  have hb2 := hb.below B0.out
  obtain ⟨A', n', c', hv, hr, hl⟩ := hb2
  injection hv with e1 e2 e3
  subst e1 e2 e3
  have CC := hid (rcut_any hr)
  have CF : Hid (∀ w', Below W.heap.size W w' → w'.cell? ⟨w.heap.size, 0, none⟩ = some (.bool s)) := fun w' hb => (P0.out.below hb P0.out.lt).c0
  have a1 := P0.out.c1
  have HBB : Hid (w.heap.size ≤ W.heap.size) := B0.out.size
  have HB := hid hB
  clear hb hN hW hr hl hB
  go_enter Tryd.func47, Tryd.ntmps47
  go_upto_region 1 with fail
  rw [← HW.out]
  go_wp2_with fail
  refine CC.out.mono ?_
  rintro e w' ⟨v1, rfl, rfl, A1, n1, c1, rfl, hb1, hl1⟩
  have Hb1 := hid (show Bt W w.heap.size N (.slice A1 n1 c1) from ⟨A1, n1, c1, rfl, hb1, hl1⟩)
  clear CC a1 hb1 hl1
  go_wp2_with fail
  go_loop [1, 6] (fun kk bb => ∃ (k : Nat) (A2 : Option Addr) (n2 c2 V : Nat), k ≤ K ∧ kk = .int .i64 (k : Int) ∧ bb = .slice A2 n2 c2 ∧ Hid (Bt W w.heap.size V (.slice A2 n2 c2)) ∧ Hid (N = V * tw (K - k))) (fun kk _ => (intOf kk).toNat)
  case atStart => exact ⟨K, A1, n1, c1, N, Nat.le_refl _, rfl, rfl, Hb1, hid (by rw [Nat.sub_self, tw_zero, Nat.mul_one])⟩
  case round =>
    obtain ⟨k, A2, n2, c2, V, hk, rfl, rfl, Hb, HN⟩ := hrel
    obtain ⟨hcap, hmax, hd0, hd1⟩ := Hb.out.dims
    have Hd := hid (And.intro hd0 hd1)
    have HVL : Hid (V < tw 4000) := by
      have h1 := HNL.out
      have h2 := tw_mono hL
      have h3 := tw_mono (show 3900 ≤ 4000 by omega)
      have h4 := HN.out
      have h5 := Nat.le_mul_of_pos_right V (tw_pos (K - k))
      unfold Hid
      omega
    have CL := hid (fun (w' : World) (hb : Below W.heap.size W w') => Limbs_any_f ((Hb.out.mono HBB.out).below hb) hb.size HVL.out (Nat.le_trans HBB.out hb.size))
    clear hd0 hd1
    rcases Nat.eq_zero_or_pos k with hk0 | hk0
    · subst hk0
      rcases Nat.eq_zero_or_pos n2 with h0 | h0
      · subst h0
        clear CL HVL
        have q0 := P1.out.frozen 0
        have q1 := P1.out.frozen 1
        have q2 := P1.out.frozen 2
        have r0 := P1.out.c0
        have r1 := P1.out.c1
        have r2 := P1.out.c2
        go_wp2
        refine ret_dyad rfl rfl rfl rfl (P1.out.store (t := false) (u := .slice none 0 0) (y := 0)) ?_
        have hV0 : V = 0 := by first | exact Hd.out.1 rfl | exact Hd.out.1 trivial
        have hfm := form_num (s := s) HN.out hk hK4
        rw [hV0, show dv s 0 0 = 0 by simp [dv, num_zero]] at hfm
        refine ⟨_, 0, rfl, ?_, ?_, (by first | exact dfr_zero _ _ _ _ _ | exact dfr_of Rf.out _ _), below_put3 B0.out (by omega)⟩
        · rw [hfm]
          exact .inl ⟨okay_zero, rfl⟩
        · rw [resD_ok rfl, hfm]
          exact Dv.zero _

      · have hn0 : ((n2 : Int) == 0) = false := by simp; omega
        have hn1 : (0 : Int) < (n2 : Int) := by omega
        go_upto_region 7 with fail
        have HBz := hid ((Below.refl W.heap.size W).drew)
        go_region_held3 (fun w' => w'.cell? ⟨w.heap.size, 0, none⟩ = some (.bool s))
          (first | exact CF.out _ HBz.out | exact CF.out _ (HBz.out.alloc HBz.out.size _) | exact CF.out _ (((HBz.out.setCell (p := ⟨W.heap.size, 0, none⟩) (Nat.le_refl _) _).setCell (p := ⟨W.heap.size, 1, none⟩) (Nat.le_refl _) _).setCell (p := ⟨W.heap.size, 2, none⟩) (Nat.le_refl _) _))
          ((go_at_call 69
            first
              | refine (CL.out _ HBz.out).mono ?_
              | refine (CL.out _ (HBz.out.alloc HBz.out.size _)).mono ?_
            rintro e wa ⟨v, rfl, Ba, ⟨A1, k1, c1, h1, rfl, Rr, Rl, Rv⟩, Rf⟩
            have Rf := hid Rf
            have Ba := hid Ba
            have Rr := hid Rr
            have Rl := hid Rl
            have Rv := hid Rv
            have HBz := hid (by first | exact HBz.out.trans (Ba.out.mono HBz.out.size) | exact (HBz.out.alloc HBz.out.size _).trans (Ba.out.mono (HBz.out.alloc HBz.out.size _).size))
            first
              | (have Px : Hid (Dbox wa W.heap.size false (.slice none 0 0) 0) := hid (Dbox.below (w := W.drew.alloc (.cells #[.bool false, .slice none 0 0, .int .i64 0] 24)) (heap_alloc_new W.drew _) Ba.out (by simp))
                 have z0 := Px.out.c0
                 have z1 := Px.out.c1
                 have z2 := Px.out.c2
                 have y0 := Px.out.frozen 0
                 have y1 := Px.out.frozen 1
                 have y2 := Px.out.frozen 2)
              | skip))
        all_goals
          first
            | (clear z0 z1 z2 y0 y1 y2
               obtain ⟨WW, hWW⟩ : ∃ X, X = put3 wa W.heap.size s (.slice A1 k1 c1) (0) := ⟨_, rfl⟩
               have HWW : Hid (_ = _) := hid (hWW.symm.trans (show WW = WW from rfl))
               have PX : Hid (Dbox WW W.heap.size s (.slice A1 k1 c1) (0)) := by rw [hWW]; exact Px.out.store
               have RR : Hid (Rd WW WW.heap.size A1 k1 c1 h1) := by rw [hWW]; exact Rr.out.stay Px.out
               have BW : Hid (Below W.heap.size W WW) := by rw [hWW]; exact below_put3 HBz.out (Nat.le_refl _)
               have hgx : W.heap.size ≤ W.heap.size := Nat.le_refl _
               unfold put3 at hWW
               rw [← hWW])
            | (obtain ⟨WW, hWW⟩ : ∃ X, X = wa.alloc (.cells #[.bool s, .slice A1 k1 c1, .int .i64 (0)] 24) := ⟨_, rfl⟩
               have PX : Hid (Dbox WW wa.heap.size s (.slice A1 k1 c1) (0)) := by rw [hWW]; exact heap_alloc_new _ _
               have RR : Hid (Rd WW WW.heap.size A1 k1 c1 h1) := by rw [hWW]; exact (Rr.out.below ((Below.refl wa.heap.size wa).alloc (Nat.le_refl _) _)).mono (by simp)
               have BW : Hid (Below W.heap.size W WW) := by rw [hWW]; exact HBz.out.alloc HBz.out.size _
               have hgx : W.heap.size ≤ wa.heap.size := HBz.out.size
               rw [← hWW])
          clear hWW Rr
          have p0 := PX.out.c0
          have p1 := PX.out.c1
          have p2 := PX.out.c2
          have P1 := hid (P1.out.below BW.out P1.out.lt)
          have hcn : Canon s V 0 := ⟨fun h => absurd h (Hd.out.2 (by omega)), fun h => absurd h (by omega)⟩
          have hfm := form_num (s := s) HN.out hk hK4
          have Hfm := hid hfm
          have Hcn := hid hcn
          have hr1 := RR.out.max
          clear hfm hcn
          by_cases hm : DMay s k1 h1 (0)
          · have Cm := hid (emay_any RR.out s (0))
            rw [bool_of_dec hm] at Cm
            have Hm := hid hm
            clear hm
            go_wp2_with fail
            refine Cm.out.mono ?_
            rintro e wc ⟨rfl, Bc⟩
            have RR := hid ((RR.out.below Bc.out).mono Bc.out.size)
            have PX := hid (PX.out.below Bc.out PX.out.lt)
            have P1 := hid (P1.out.below Bc.out P1.out.lt)
            have BW := hid (BW.out.trans (Bc.out.mono BW.out.size))
            have p0 := PX.out.c0
            have p1 := PX.out.c1
            have p2 := PX.out.c2
            have q0 := P1.out.frozen 0
            have q1 := P1.out.frozen 1
            have q2 := P1.out.frozen 2
            have r0 := P1.out.c0
            have r1 := P1.out.c1
            have r2 := P1.out.c2
            clear Cm Bc
            go_wp2
            refine ret_dyad rfl rfl rfl rfl (P1.out.store (t := s) (u := .slice A1 k1 c1) (y := (0))) ?_
            refine ⟨_, 0, rfl, ?_, ?_, (by first | exact dfr_zero _ _ _ _ _ | exact dfr_of Rf.out _ _), below_put3 (B0.out.trans (BW.out.mono B0.out.size)) (by omega)⟩
            · rw [Hfm.out]
              exact .inl ⟨⟨s, V, 0, Hcn.out, by rw [← Rv.out]; exact vl_pw40 RR.out Hm.out.1, by have := Hm.out.2.2.1; omega, rfl⟩, rfl⟩
            · rw [resD_ok rfl, Hfm.out]
              exact ⟨s, _, 0, V, rfl, ⟨A1, k1, c1, h1, rfl, RR.out.stay P1.out, Hm.out.1, Rv.out⟩, Hcn.out, by have := Hm.out.2.2.1; omega, rfl⟩
          · have Cm := hid (emay_any RR.out s (0))
            rw [bool_of_not hm] at Cm
            have Hm := hid hm
            clear hm
            go_wp2_with fail
            refine Cm.out.mono ?_
            rintro e wc ⟨rfl, Bc⟩
            have P1 := hid (P1.out.below Bc.out P1.out.lt)
            have BW := hid (BW.out.trans (Bc.out.mono BW.out.size))
            have q0 := P1.out.frozen 0
            have q1 := P1.out.frozen 1
            have q2 := P1.out.frozen 2
            have r0 := P1.out.c0
            have r1 := P1.out.c1
            have r2 := P1.out.c2
            clear Cm Bc
            go_wp2
            refine ret_dyad rfl rfl rfl rfl (P1.out.store (t := false) (u := .slice none 0 0) (y := 0)) ?_
            refine ⟨_, 10, rfl, ?_, ?_, (by first | exact dfr_zero _ _ _ _ _ | exact dfr_of Rf.out _ _), below_put3 (B0.out.trans (BW.out.mono B0.out.size)) (by omega)⟩
            · rw [Hfm.out]
              refine .inr ⟨not_okay Hcn.out (by omega) ?_, rfl⟩
              rcases Nat.lt_or_ge 1024 0 with hx | hx
              · exact .inr hx
              · left
                rcases Nat.lt_or_ge V (pw 40) with hv | hv
                · exfalso
                  have hk40 := (lm_40 RR.out.lt Rl.out Rv.out).2 hv
                  refine Hm.out (canon_may ⟨hk40, Rl.out⟩ ?_ hx)
                  rw [Rv.out]
                  exact Hcn.out
                · exact hv
            · rw [resD_bad (by decide)]
              exact Dv.zero _

    · have hkp : (0 : Int) < (k : Int) := by omega
      rcases Nat.eq_zero_or_pos n2 with h0 | h0
      · subst h0
        clear CL HVL
        have q0 := P1.out.frozen 0
        have q1 := P1.out.frozen 1
        have q2 := P1.out.frozen 2
        have r0 := P1.out.c0
        have r1 := P1.out.c1
        have r2 := P1.out.c2
        go_wp2
        refine ret_dyad rfl rfl rfl rfl (P1.out.store (t := false) (u := .slice none 0 0) (y := 0)) ?_
        have hV0 : V = 0 := by first | exact Hd.out.1 rfl | exact Hd.out.1 trivial
        have hfm := form_num (s := s) HN.out hk hK4
        rw [hV0, show dv s 0 k = 0 by simp [dv, num_zero]] at hfm
        refine ⟨_, 0, rfl, ?_, ?_, (by first | exact dfr_zero _ _ _ _ _ | exact dfr_of Rf.out _ _), below_put3 B0.out (by omega)⟩
        · rw [hfm]
          exact .inl ⟨okay_zero, rfl⟩
        · rw [resD_ok rfl, hfm]
          exact Dv.zero _

      · have hn0 : ((n2 : Int) == 0) = false := by simp; omega
        have hn1 : (0 : Int) < (n2 : Int) := by omega
        obtain ⟨b, off, rfl, hcell⟩ := Hb.out.cell0 h0
        have hb1 := bt_le V 0
        by_cases hz : bt V 0 = 0
        · rw [hz] at hcell
          obtain ⟨j, rfl⟩ : ∃ j, k = j + 1 := ⟨k - 1, by omega⟩
          obtain ⟨m, rfl⟩ : ∃ m, n2 = m + 1 := ⟨n2 - 1, by omega⟩
          obtain ⟨d, rfl⟩ : ∃ d, c2 = d + 1 := ⟨c2 - 1, by omega⟩
          have HN2 := hid (form_half HN.out hk hz)
          clear hz hb1 CL
          by_cases hc1 : d = 0
          · subst hc1
            have Hb2 := hid (Hb.out.drop1 ⟨b, off, none⟩)
            obtain rfl : m = 0 := by omega
            go_wp2
            go_round
            case rel => exact ⟨j, _, _, _, _, by omega, by go_num, rfl, Hb2, HN2⟩
            case measure => simp [intOf]
          · have Hb2 := hid Hb.out.drop
            have hd3 : ¬ ((d : Int) + 1 = 1) := by omega
            go_wp2
            go_round
            case rel => exact ⟨j, _, _, _, _, by omega, by go_num, by first | rfl | (congr 1 <;> omega), Hb2, HN2⟩
            case measure => simp [intOf]
        · have hz1 : bt V 0 = 1 := by omega
          have Hodd := hid (show V % 2 = 1 by unfold bt at hz1; rw [tw_zero, Nat.div_one] at hz1; exact hz1)
          rw [hz1] at hcell
          clear hz hb1 hz1
          go_upto_region 7 with fail
          have HBz := hid ((Below.refl W.heap.size W).drew)
          go_region_held3 (fun w' => w'.cell? ⟨w.heap.size, 0, none⟩ = some (.bool s))
            (first | exact CF.out _ HBz.out | exact CF.out _ (HBz.out.alloc HBz.out.size _) | exact CF.out _ (((HBz.out.setCell (p := ⟨W.heap.size, 0, none⟩) (Nat.le_refl _) _).setCell (p := ⟨W.heap.size, 1, none⟩) (Nat.le_refl _) _).setCell (p := ⟨W.heap.size, 2, none⟩) (Nat.le_refl _) _))
            ((go_at_call 69
              first
                | refine (CL.out _ HBz.out).mono ?_
                | refine (CL.out _ (HBz.out.alloc HBz.out.size _)).mono ?_
              rintro e wa ⟨v, rfl, Ba, ⟨A1, k1, c1, h1, rfl, Rr, Rl, Rv⟩, Rf⟩
              have Rf := hid Rf
              have Ba := hid Ba
              have Rr := hid Rr
              have Rl := hid Rl
              have Rv := hid Rv
              have HBz := hid (by first | exact HBz.out.trans (Ba.out.mono HBz.out.size) | exact (HBz.out.alloc HBz.out.size _).trans (Ba.out.mono (HBz.out.alloc HBz.out.size _).size))
              first
                | (have Px : Hid (Dbox wa W.heap.size false (.slice none 0 0) 0) := hid (Dbox.below (w := W.drew.alloc (.cells #[.bool false, .slice none 0 0, .int .i64 0] 24)) (heap_alloc_new W.drew _) Ba.out (by simp))
                   have z0 := Px.out.c0
                   have z1 := Px.out.c1
                   have z2 := Px.out.c2
                   have y0 := Px.out.frozen 0
                   have y1 := Px.out.frozen 1
                   have y2 := Px.out.frozen 2)
                | skip))
          all_goals
            first
              | (clear z0 z1 z2 y0 y1 y2
                 obtain ⟨WW, hWW⟩ : ∃ X, X = put3 wa W.heap.size s (.slice A1 k1 c1) ((k : Int)) := ⟨_, rfl⟩
                 have HWW : Hid (_ = _) := hid (hWW.symm.trans (show WW = WW from rfl))
                 have PX : Hid (Dbox WW W.heap.size s (.slice A1 k1 c1) ((k : Int))) := by rw [hWW]; exact Px.out.store
                 have RR : Hid (Rd WW WW.heap.size A1 k1 c1 h1) := by rw [hWW]; exact Rr.out.stay Px.out
                 have BW : Hid (Below W.heap.size W WW) := by rw [hWW]; exact below_put3 HBz.out (Nat.le_refl _)
                 have hgx : W.heap.size ≤ W.heap.size := Nat.le_refl _
                 unfold put3 at hWW
                 rw [← hWW])
              | (obtain ⟨WW, hWW⟩ : ∃ X, X = wa.alloc (.cells #[.bool s, .slice A1 k1 c1, .int .i64 ((k : Int))] 24) := ⟨_, rfl⟩
                 have PX : Hid (Dbox WW wa.heap.size s (.slice A1 k1 c1) ((k : Int))) := by rw [hWW]; exact heap_alloc_new _ _
                 have RR : Hid (Rd WW WW.heap.size A1 k1 c1 h1) := by rw [hWW]; exact (Rr.out.below ((Below.refl wa.heap.size wa).alloc (Nat.le_refl _) _)).mono (by simp)
                 have BW : Hid (Below W.heap.size W WW) := by rw [hWW]; exact HBz.out.alloc HBz.out.size _
                 have hgx : W.heap.size ≤ wa.heap.size := HBz.out.size
                 rw [← hWW])
            clear hWW Rr
            have p0 := PX.out.c0
            have p1 := PX.out.c1
            have p2 := PX.out.c2
            have P1 := hid (P1.out.below BW.out P1.out.lt)
            have hcn : Canon s V k := ⟨fun h => absurd h (Hd.out.2 (by omega)), fun _ => Hodd.out⟩
            have hfm := form_num (s := s) HN.out hk hK4
            have Hfm := hid hfm
            have Hcn := hid hcn
            have hr1 := RR.out.max
            clear hfm hcn
            by_cases hm : DMay s k1 h1 ((k : Int))
            · have Cm := hid (emay_any RR.out s ((k : Int)))
              rw [bool_of_dec hm] at Cm
              have Hm := hid hm
              clear hm
              go_wp2_with fail
              refine Cm.out.mono ?_
              rintro e wc ⟨rfl, Bc⟩
              have RR := hid ((RR.out.below Bc.out).mono Bc.out.size)
              have PX := hid (PX.out.below Bc.out PX.out.lt)
              have P1 := hid (P1.out.below Bc.out P1.out.lt)
              have BW := hid (BW.out.trans (Bc.out.mono BW.out.size))
              have p0 := PX.out.c0
              have p1 := PX.out.c1
              have p2 := PX.out.c2
              have q0 := P1.out.frozen 0
              have q1 := P1.out.frozen 1
              have q2 := P1.out.frozen 2
              have r0 := P1.out.c0
              have r1 := P1.out.c1
              have r2 := P1.out.c2
              clear Cm Bc
              go_wp2
              refine ret_dyad rfl rfl rfl rfl (P1.out.store (t := s) (u := .slice A1 k1 c1) (y := ((k : Int)))) ?_
              refine ⟨_, 0, rfl, ?_, ?_, (by first | exact dfr_zero _ _ _ _ _ | exact dfr_of Rf.out _ _), below_put3 (B0.out.trans (BW.out.mono B0.out.size)) (by omega)⟩
              · rw [Hfm.out]
                exact .inl ⟨⟨s, V, k, Hcn.out, by rw [← Rv.out]; exact vl_pw40 RR.out Hm.out.1, by have := Hm.out.2.2.1; omega, rfl⟩, rfl⟩
              · rw [resD_ok rfl, Hfm.out]
                exact ⟨s, _, k, V, rfl, ⟨A1, k1, c1, h1, rfl, RR.out.stay P1.out, Hm.out.1, Rv.out⟩, Hcn.out, by have := Hm.out.2.2.1; omega, rfl⟩
            · have Cm := hid (emay_any RR.out s ((k : Int)))
              rw [bool_of_not hm] at Cm
              have Hm := hid hm
              clear hm
              go_wp2_with fail
              refine Cm.out.mono ?_
              rintro e wc ⟨rfl, Bc⟩
              have P1 := hid (P1.out.below Bc.out P1.out.lt)
              have BW := hid (BW.out.trans (Bc.out.mono BW.out.size))
              have q0 := P1.out.frozen 0
              have q1 := P1.out.frozen 1
              have q2 := P1.out.frozen 2
              have r0 := P1.out.c0
              have r1 := P1.out.c1
              have r2 := P1.out.c2
              clear Cm Bc
              go_wp2
              refine ret_dyad rfl rfl rfl rfl (P1.out.store (t := false) (u := .slice none 0 0) (y := 0)) ?_
              refine ⟨_, 10, rfl, ?_, ?_, (by first | exact dfr_zero _ _ _ _ _ | exact dfr_of Rf.out _ _), below_put3 (B0.out.trans (BW.out.mono B0.out.size)) (by omega)⟩
              · rw [Hfm.out]
                refine .inr ⟨not_okay Hcn.out (by omega) ?_, rfl⟩
                rcases Nat.lt_or_ge 1024 k with hx | hx
                · exact .inr hx
                · left
                  rcases Nat.lt_or_ge V (pw 40) with hv | hv
                  · exfalso
                    have hk40 := (lm_40 RR.out.lt Rl.out Rv.out).2 hv
                    refine Hm.out (canon_may ⟨hk40, Rl.out⟩ ?_ hx)
                    rw [Rv.out]
                    exact Hcn.out
                  · exact hv
              · rw [resD_bad (by decide)]
                exact Dv.zero _

set_option maxHeartbeats 3200000 in
theorem ehalf_bad_f {w : World} {A : Option Addr} {n c : Nat} {f : Nat → Nat} {s : Bool} {x : Int} (ha : Rd w w.heap.size A n c f) (hbad : ¬ DMay s n f x) :
    Calls Tryd.prog 33 #[.agg #[.bool s, .slice A n c, .int .i64 x]] w (EResF w (· = 8) 0) := by
  have B0 := hid (((Below.refl w.heap.size w).alloc (Nat.le_refl _) (.cells #[.bool s, .slice A n c, .int .i64 x] 24)).alloc (by simp) (.cells #[.bool false, .slice none 0 0, .int .i64 0] 24))
  have P1 : Hid (Dbox _ (w.heap.size + 1) false (.slice none 0 0) 0) := heap_alloc2_new w (.cells #[.bool s, .slice A n c, .int .i64 x] 24) (.cells #[.bool false, .slice none 0 0, .int .i64 0] 24)
  have P0 : Hid (Dbox _ w.heap.size s (.slice A n c) x) := (Below.heap_alloc _ (.cells #[.bool false, .slice none 0 0, .int .i64 0] 24) _ (by simp)).trans (heap_alloc_new w (.cells #[.bool s, .slice A n c, .int .i64 x] 24))
  obtain ⟨W0, hW⟩ : ∃ W0, W0 = (w.alloc (.cells #[.bool s, .slice A n c, .int .i64 x] 24)).alloc (.cells #[.bool false, .slice none 0 0, .int .i64 0] 24) := ⟨_, rfl⟩
  have HW := hid hW
  rw [← hW] at B0 P0 P1
  clear hW
  have CA := emay_any ((ha.below B0.out).mono B0.out.size) s x
  rw [bool_of_not hbad] at CA
  have CA := hid CA
  clear ha hbad
  have a0 := P0.out.c0
  have a1 := P0.out.c1
  have a2 := P0.out.c2
  go_enter Tryd.func33, Tryd.ntmps33
  go_upto_region 1 with fail
  rw [← HW.out]
  go_wp2_with fail
  refine CA.out.mono ?_
  clear HW
  rintro e W ⟨rfl, J⟩
  have P0 := hid (P0.out.below J.out P0.out.lt)
  have P1 := hid (P1.out.below J.out P1.out.lt)
  have B0 := hid (B0.out.trans (J.out.mono B0.out.size))
  clear J a0 a1 a2 CA
  have q0 := P1.out.frozen 0
  have q1 := P1.out.frozen 1
  have q2 := P1.out.frozen 2
  have r0 := P1.out.c0
  have r1 := P1.out.c1
  have r2 := P1.out.c2
  go_wp2
  refine ret_dyad rfl rfl rfl rfl (P1.out.store (t := false) (u := .slice none 0 0) (y := 0)) ?_
  exact ⟨_, 8, rfl, rfl, by rw [resD_bad (by decide)]; exact Dv.zero _, dfr_zero _ _ _ _ _, below_put3 B0.out (by omega)⟩

set_option maxHeartbeats 12800000 in
theorem ehalf_ok_f {w : World} {A : Option Addr} {n c : Nat} {f : Nat → Nat} {s : Bool} {X : Nat} {H : Int} (ha : Rd w w.heap.size A n c f) (ma : DMay s n f (X : Int)) (hH : H = num s (vl f n * tp (4000 - (X + 1)))) :
    Calls Tryd.prog 33 #[.agg #[.bool s, .slice A n c, .int .i64 (X : Int)]] w (EResF w (Derr H) H) := by
  have B0 := hid (((Below.refl w.heap.size w).alloc (Nat.le_refl _) (.cells #[.bool s, .slice A n c, .int .i64 (X : Int)] 24)).alloc (by simp) (.cells #[.bool false, .slice none 0 0, .int .i64 0] 24))
  have P1 : Hid (Dbox _ (w.heap.size + 1) false (.slice none 0 0) 0) := heap_alloc2_new w (.cells #[.bool s, .slice A n c, .int .i64 (X : Int)] 24) (.cells #[.bool false, .slice none 0 0, .int .i64 0] 24)
  have P0 : Hid (Dbox _ w.heap.size s (.slice A n c) (X : Int)) := (Below.heap_alloc _ (.cells #[.bool false, .slice none 0 0, .int .i64 0] 24) _ (by simp)).trans (heap_alloc_new w (.cells #[.bool s, .slice A n c, .int .i64 (X : Int)] 24))
  obtain ⟨W0, hW⟩ : ∃ W0, W0 = (w.alloc (.cells #[.bool s, .slice A n c, .int .i64 (X : Int)] 24)).alloc (.cells #[.bool false, .slice none 0 0, .int .i64 0] 24) := ⟨_, rfl⟩
  have HW := hid hW
  rw [← hW] at B0 P0 P1
  clear hW
  have CA := emay_any ((ha.below B0.out).mono B0.out.size) s (X : Int)
  rw [bool_of_dec ma] at CA
  have CA := hid CA
  have HA0 := hid ((ha.below B0.out).mono B0.out.size)
  have Hma := hid ma
  have hX4 : X ≤ 1024 := by have := ma.2.2.1; omega
  have hadd : IntKind.i64.wrap ((X : Int) + 1) = ((X + 1 : Nat) : Int) := by
    rw [show ((X + 1 : Nat) : Int) = (X : Int) + 1 by omega]
    exact IntWalk.i64_in _ (by omega)
  have hsc : num s (vl f n * tw 0) * (tp (4000 - (X + 1)) : Int) = H := by
    rw [hH, tw_zero, Nat.mul_one, num_mul]
  have Hsc := hid hsc
  have Hadd := hid hadd
  clear ma ha hsc hH hadd
  have a0 := P0.out.c0
  have a1 := P0.out.c1
  have a2 := P0.out.c2
  go_enter Tryd.func33, Tryd.ntmps33
  go_upto_region 1 with fail
  rw [← HW.out]
  go_wp2_with fail
  refine CA.out.mono ?_
  clear HW
  rintro e W ⟨rfl, J⟩
  have P0 := hid (P0.out.below J.out P0.out.lt)
  have P1 := hid (P1.out.below J.out P1.out.lt)
  have B0 := hid (B0.out.trans (J.out.mono B0.out.size))
  have HA0 := hid ((HA0.out.below J.out).mono J.out.size)
  clear J a0 a1 a2 CA
  have a0 := P0.out.c0
  have a1 := P0.out.c1
  have a2 := P0.out.c2
  go_upto_region 3 with fail
  clear a0 a1 a2
  have hadd := Hadd.out
  have CF : Hid (∀ w', Below W.heap.size W w' → w'.cell? ⟨w.heap.size, 0, none⟩ = some (.bool s) ∧ w'.cell? ⟨w.heap.size, 1, none⟩ = some (.slice A n c) ∧ w'.cell? ⟨w.heap.size, 2, none⟩ = some (.int .i64 (X : Int))) :=
    fun w' hb => ⟨(P0.out.below hb P0.out.lt).c0, (P0.out.below hb P0.out.lt).c1, (P0.out.below hb P0.out.lt).c2⟩
  have CI := hid (fun (w' : World) (hb : Below W.heap.size W w') => ein_any (X := X) (E := X) (k := 0) ((HA0.out.below hb).mono hb.size) Hma.out.1 (by omega) (by omega) s)
  clear P0
  have HBz := hid ((Below.refl W.heap.size W).drew)
  go_region_held3 (fun w' => w'.cell? ⟨w.heap.size, 0, none⟩ = some (.bool s) ∧ w'.cell? ⟨w.heap.size, 1, none⟩ = some (.slice A n c) ∧ w'.cell? ⟨w.heap.size, 2, none⟩ = some (.int .i64 (X : Int)))
    (first | exact CF.out _ HBz.out | exact CF.out _ (HBz.out.alloc HBz.out.size _) | exact CF.out _ (below_put3 HBz.out Hgl.out))
    (first
    | (go_at_call 49
       first
         | refine (CI.out _ HBz.out).mono ?_
         | refine (CI.out _ (HBz.out.alloc HBz.out.size _)).mono ?_
       rintro e wx ⟨va, rfl, SA, Ba⟩
       first
         | (obtain ⟨gx, hgx, Px0⟩ := box_of Ba.out
            have Px := hid Px0
            have Hgl := hid (show W.heap.size ≤ gx by rw [hgx]; exact HBz.out.size)
            first
              | rw [← hgx]
              | (rw [show W.drew.heap.size = W.heap.size from rfl] at hgx
                 rw [← hgx])
            clear hgx Px0)
         | (have Px := hid (Px.out.below Ba.out Px.out.lt))
         | skip
       have HBz := hid (by first | exact HBz.out.trans (Ba.out.mono HBz.out.size) | exact (HBz.out.alloc HBz.out.size _).trans (Ba.out.mono (HBz.out.alloc HBz.out.size _).size)))
    | (go_at_call 47
       first
         | refine (eform_any_f (K := X + 1) SA.out (by omega) (by omega)).mono ?_
         | refine (eform_any_f (K := X + 1) (SA.out.alloc _) (by omega) (by omega)).mono ?_
       rintro e wx ⟨dd, er, rfl, HE, HD, HF, Ba⟩
       have HF := hid (HF.out.mono (show w.heap.size ≤ _ by have h1 := B0.out.size; have h2 := HBz.out.size; first | omega | (simp; omega)))
       first
         | (obtain ⟨gx, hgx, Px0⟩ := box_of Ba.out
            have Px := hid Px0
            have Hgl := hid (show W.heap.size ≤ gx by rw [hgx]; exact HBz.out.size)
            first
              | rw [← hgx]
              | (rw [show W.drew.heap.size = W.heap.size from rfl] at hgx
                 rw [← hgx])
            clear hgx Px0)
         | (have Px := hid (Px.out.below Ba.out Px.out.lt))
         | skip
       have HBz := hid (by first | exact HBz.out.trans (Ba.out.mono HBz.out.size) | exact (HBz.out.alloc HBz.out.size _).trans (Ba.out.mono (HBz.out.alloc HBz.out.size _).size))
       rw [Hsc.out] at HE HD
       obtain ⟨sd, Ad, nd, cd, xd, rfl⟩ := HD.out.parts
       first
         | (have z0 := Px.out.c0
            have z1 := Px.out.c1
            have z2 := Px.out.c2
            have y0 := Px.out.frozen 0
            have y1 := Px.out.frozen 1
            have y2 := Px.out.frozen 2)
         | skip))
  all_goals
    first
      | (clear z0 z1 z2 y0 y1 y2
         obtain ⟨WW, hWW⟩ : ∃ X, X = put3 wx gx sd (.slice Ad nd cd) xd := ⟨_, rfl⟩
         have PX : Hid (Dbox WW gx sd (.slice Ad nd cd) xd) := by rw [hWW]; exact Px.out.store
         have DD : Hid (Dv WW (resD er (H)) (.agg #[.bool sd, .slice Ad nd cd, .int .i64 xd])) := by rw [hWW]; exact HD.out.store Px.out
         have BW : Hid (Below W.heap.size W WW) := by rw [hWW]; exact below_put3 HBz.out Hgl.out
         unfold put3 at hWW
         rw [← hWW])
      | (obtain ⟨WW, hWW⟩ : ∃ X, X = wx.alloc (.cells #[.bool sd, .slice Ad nd cd, .int .i64 xd] 24) := ⟨_, rfl⟩
         have PX : Hid (Dbox WW wx.heap.size sd (.slice Ad nd cd) xd) := by rw [hWW]; exact heap_alloc_new _ _
         have DD : Hid (Dv WW (resD er (H)) (.agg #[.bool sd, .slice Ad nd cd, .int .i64 xd])) := by rw [hWW]; exact HD.out.alloc _
         have BW : Hid (Below W.heap.size W WW) := by rw [hWW]; exact HBz.out.alloc HBz.out.size _
         rw [← hWW])
    clear hWW
    have p0 := PX.out.c0
    have p1 := PX.out.c1
    have p2 := PX.out.c2
    have P1 := hid (P1.out.below BW.out P1.out.lt)
    have q0 := P1.out.frozen 0
    have q1 := P1.out.frozen 1
    have q2 := P1.out.frozen 2
    have r0 := P1.out.c0
    have r1 := P1.out.c1
    have r2 := P1.out.c2
    go_wp2
    refine ret_dyad rfl rfl rfl rfl (P1.out.store (t := sd) (u := .slice Ad nd cd) (y := xd)) ?_
    exact ⟨_, er, rfl, HE, DD.out.store P1.out, HF, below_put3 (B0.out.trans (BW.out.mono B0.out.size)) (by omega)⟩

theorem ehalf_any_f {w : World} {p : Prop} {M : Int} {v : Value} (h1 : DArg w p M v) :
    Calls Tryd.prog 33 #[v] w fun e w' => ∃ H : Int, (p → 2 * H = M) ∧ EResF w (Derrs p H) H e w' := by
  obtain ⟨s, A, n, c, f, x, rfl, hr, hp, hM⟩ := h1
  by_cases hp0 : p
  · obtain ⟨X, rfl, rfl⟩ := hM hp0
    have m1 := hp.1 hp0
    refine (ehalf_ok_f hr m1 rfl).mono ?_
    rintro e w' ⟨d, er, rfl, HE, HD, HF, HB⟩
    exact ⟨_, fun _ => half_eq (by have := m1.2.2.1; omega), d, er, rfl, ⟨fun _ => HE.out, fun hn => absurd hp0 hn⟩, HD, HF, HB⟩
  · refine (ehalf_bad_f hr (fun h => hp0 (hp.2 h))).mono ?_
    rintro e w' ⟨d, er, rfl, ⟨rfl⟩, HD, HF, HB⟩
    refine ⟨0, fun h => absurd h hp0, d, 8, rfl, ⟨fun h => absurd h hp0, fun _ => rfl⟩, HD, HF, HB⟩

end Go.Proofs.YtelalanhalbicaaDoor


namespace Go.Proofs.YtelalanhalbicaaDoor
open Go.RowKit Go.Shelf

theorem ehalf_dy {w : World} {q : Prop} {M : Int} {d : Dy} (h : Drd w q M d) (hq : q) :
    Calls Tryd.prog 33 #[.agg #[.bool d.s, .slice d.A d.n d.c, .int .i64 d.x]] w fun en w' => ∃ (H : Int) (r : Dy) (er : Int), Hid (2 * H = M) ∧ en = .returned (.tuple #[dyv r, .int .i64 er]) ∧ Hid (Derr H er) ∧ Hid (Drd w' True (resD er H) r) ∧ Hid (Fresh w.heap.size (.slice r.A r.n r.c)) ∧ Hid (Below w.heap.size w w') := by
  refine (ehalf_any_f h.arg).mono ?_
  rintro en w' ⟨H, hH, v, er, rfl, HE, HD, HF, HB⟩
  obtain ⟨r, rfl, hr⟩ := HD.out.drd
  exact ⟨H, r, er, hid (hH hq), rfl, hid (HE.out.1 hq), hr, hid (HF.out _ _ _ rfl), HB⟩
theorem Dbox.range {w : World} {g : Nat} {s : Bool} {v : Value} {x : Int} (h : Dbox w g s v x) : w.rangeAt g 0 [.bool s, v, .int .i64 x] := fun j u hu => by
  match j, hu with
  | 0, hu => injection hu with hu; subst hu; exact h.c0
  | 1, hu => injection hu with hu; subst hu; exact h.c1
  | 2, hu => injection hu with hu; subst hu; exact h.c2
  | j + 3, hu => simp at hu
theorem yields_dl {ops : Array Oper} {S : World → Prop} {o : Oper} {a : Act} (hw : Region.wanted o (yielded ops a.tmps) = true) (x : Operand) (ho : o.op = .load 24 x)
    (g : Nat) (s : Bool) (v : Value) (e : Int) (hx : a.eval x = .pointer (some ⟨g, 0, none⟩)) (hS : ∀ w, S w → Dbox w g s v e) : YieldsIf Tryd.prog ops S o (.agg #[.bool s, v, .int .i64 e]) a :=
  yieldsIf_load_mid hw _ x ho g 0 hx _ _ (fun w hw => (hS w hw).range) Tryd.underlying24 rfl (dyad_size_ d0)
theorem max_so {x y z : Int} (h : (if y > x then y else x) = z) (P : Program) (w : World) (ts : Array TypeId) (t : TypeId) : (Builtin.max_ ts t #[.int .i64 x, .int .i64 y]).run P w = .ok (.int .i64 z) w := h ▸ run_max_int2 w ts t _ _ _ _
/-- What of a mass lies where it lay, or in new memory. -/
def FrM (L : Nat) (D R : Nat → Dy) : Prop := ∀ k, k < 4 → R k = D k ∨ Fresh L (.slice (R k).A (R k).n (R k).c)
theorem FrM.zero (L : Nat) (D : Nat → Dy) : FrM L D D0 := fun k _ => .inr (fun b off n c hv => by cases hv)
theorem Drd.sure {w : World} {q : Prop} {M : Int} {d : Dy} (h : Drd w q M d) (hq : q) : Drd w True M d := ⟨h.rd, ⟨fun _ => h.may.1 hq, fun _ => trivial⟩, fun _ => h.val hq⟩
/-- What a split of the document hands back. -/
def ESRes (w : World) (p : Prop) (M : Nat → Int) (D : Nat → Dy) (e : Ending) (w' : World) : Prop :=
  ∃ H0 H1 : Int, (p → 2 * H0 = M 0 ∧ 2 * H1 = M 1) ∧ ∃ R S er, e = .returned (.tuple #[.agg (mcells R), .agg (mcells S), .int .i64 er]) ∧ Hid (Serr p H0 H1 er) ∧
    Hid (Mrr w' (fun _ => True) (resM er (of4 H0 H1 (M 2) (M 3))) R ∧ Mrr w' (fun _ => True) (resM er (of4 H0 H1 0 0)) S) ∧ Hid (FrM w.heap.size D R) ∧ Hid (Below w.heap.size w w')
/-- What the last statement keeps. -/
def EsS (g b0 b1 : Nat) (D : Nat → Dy) (r0 r1 : Dy) (X : World) : Prop := Mbox X g D ∧ Dbox X b0 r0.s (.slice r0.A r0.n r0.c) r0.x ∧ Dbox X b1 r1.s (.slice r1.A r1.n r1.c) r1.x
theorem EsS.grown {g b0 b1 k : Nat} {D : Nat → Dy} {r0 r1 : Dy} {X Y : World} (h : EsS g b0 b1 D r0 r1 X) (hg : X.grownBy Y (some k)) (h0 : g ≠ k) (h1 : b0 ≠ k) (h2 : b1 ≠ k) : EsS g b0 b1 D r0 r1 Y :=
  ⟨h.1.grown hg h0, (hg.block b0 h.2.1.lt (by intro e; injection e with e; exact h1 e)).trans h.2.1, (hg.block b1 h.2.2.lt (by intro e; injection e with e; exact h2 e)).trans h.2.2⟩

set_option maxRecDepth 100000 in
set_option maxHeartbeats 6400000 in
theorem emsplit_any {w : World} {q : Nat → Prop} {M : Nat → Int} {D : Nat → Dy} (h : Mrr w q M D) :
    Calls Tryd.prog 12 #[.agg (mcells D)] w (ESRes w (All4 q) M D) := by
  obtain ⟨W, hW⟩ : ∃ W, W = ((w.alloc (.cells (mcells D) 26)).alloc (.cells #[.bool false, .slice none 0 0, .int .i64 0, .bool false, .slice none 0 0, .int .i64 0, .bool false, .slice none 0 0, .int .i64 0, .bool false, .slice none 0 0, .int .i64 0] 26)).alloc (.cells #[.bool false, .slice none 0 0, .int .i64 0, .bool false, .slice none 0 0, .int .i64 0, .bool false, .slice none 0 0, .int .i64 0, .bool false, .slice none 0 0, .int .i64 0] 26) := ⟨_, rfl⟩
  have HW := hid hW
  have K := hid (show Below w.heap.size w W from hW ▸ (((Below.refl _ w).alloc (Nat.le_refl _) _).alloc (by simp) _).alloc (by simp; omega) _)
  have PD : Hid (Mbox W w.heap.size D) := hid (hW ▸ ((show Mbox (w.alloc _) w.heap.size D from new_at rfl).alloc _).alloc _)
  have P2 : Hid (Mbox W (w.heap.size + 1) D0) := hid (hW ▸ (show Mbox ((w.alloc _).alloc _) (w.heap.size + 1) D0 from new_at (by simp)).alloc _)
  have P3 : Hid (Mbox W (w.heap.size + 1 + 1) D0) := hid (hW ▸ (show Mbox (((w.alloc _).alloc _).alloc _) (w.heap.size + 2) D0 from new_at (by simp)))
  have HD := hid (h.below K.out)
  have HmD := hid h.may
  clear hW h
  go_enter Tryd.func12, Tryd.ntmps12
  go_upto_region 1 with fail
  rw [← HW.out]
  clear HW
  go_wp2_with (first
    | (with_reducible refine wp_mload rfl (.tmp 1) rfl w.heap.size D rfl PD.out ?_)
    | (with_reducible refine wp_mload_g (by kernel_rfl) (.tmp 1) rfl w.heap.size D rfl PD.out ?_)
    | fail)
  refine (emmay_any HD.out.mrd).mono ?_
  rintro e yD ⟨rD, rfl, HrD, hb⟩
  replace K := hid (K.out.trans (hb.out.mono K.out.size))
  replace PD := hid (PD.out.below hb.out PD.out.lt)
  replace P2 := hid (P2.out.below hb.out P2.out.lt)
  replace P3 := hid (P3.out.below hb.out P3.out.lt)
  replace HD := hid (HD.out.below hb.out)
  clear hb
  cases rD with
  | false =>
    have Hn := hid (show ¬ All4 q from fun hy => by have := HrD.out.2 (HmD.out.1 hy); cases this)
    clear HrD
    have g2 := grown_mstore yD (w.heap.size + 1) D0
    have V2 := hid (P2.out.store D0)
    have V3 := hid (P3.out.grown g2 (by omega))
    have K2 := hid (below_row K.out g2 K.out.size (by omega))
    have g3 := grown_mstore (mstore yD (w.heap.size + 1) D0) (w.heap.size + 1 + 1) D0
    have X2 := hid (V2.out.grown g3 (by omega))
    have X3 := hid (V3.out.store D0)
    have K3 := hid (below_row K2.out g3 K2.out.size (by omega))
    clear g2 g3
    go_wp2_with (first
      | (with_reducible refine wp_mzero rfl (.tmp 2) (.tmp 12) rfl (w.heap.size + 1) D0 rfl rfl P2.out ?_)
      | (with_reducible refine wp_mzero rfl (.tmp 3) (.tmp 13) rfl (w.heap.size + 1 + 1) D0 rfl rfl V3.out ?_)
      | fail)
    exact ret_masses rfl rfl rfl rfl rfl X2.out X3.out ⟨0, 0, fun hy => absurd hy Hn.out, D0, D0, 8, rfl, ⟨fun hy => absurd hy Hn.out, fun _ => rfl⟩, ⟨(by rw [resM_bad (by decide)]; exact (mar_zero _).mrr), (by rw [resM_bad (by decide)]; exact (mar_zero _).mrr)⟩, FrM.zero _ _, K3.out⟩
  | true =>
    have HqD := hid (HmD.out.2 (HrD.out.1 (by trivial)))
    clear HrD
    go_wp2_with (first
      | (with_reducible refine wp_pl0 rfl (.tmp 15) rfl w.heap.size D rfl PD.out ?_)
      | (with_reducible refine wp_mload rfl (.tmp 1) rfl w.heap.size D rfl PD.out ?_)
      | (with_reducible refine wp_mload_g (by kernel_rfl) (.tmp 1) rfl w.heap.size D rfl PD.out ?_)
      | fail)
    refine (ehalf_dy (HD.out 0 (by omega)) (HqD.out 0 (by omega))).mono ?_
    rintro en y0 ⟨H0, r0, e0, HH0, rfl, He0, Hr0, Hf0, hb⟩
    obtain ⟨s0, A0, n0, c0, x0, f0⟩ := r0
    replace Hf0 := hid (Hf0.out.mono (show w.heap.size ≤ _ from K.out.size))
    replace K := hid (K.out.trans (hb.out.mono K.out.size))
    replace PD := hid (PD.out.below hb.out PD.out.lt)
    replace P2 := hid (P2.out.below hb.out P2.out.lt)
    replace P3 := hid (P3.out.below hb.out P3.out.lt)
    replace HD := hid (HD.out.below hb.out)
    clear hb
    go_upto_region 4 with fail
    obtain ⟨Y0, hY⟩ : ∃ Y, Y = y0.alloc (.cells #[.bool s0, .slice A0 n0 c0, .int .i64 x0] 24) := ⟨_, rfl⟩
    rw [← hY]
    have Pd0 : Hid (Dbox Y0 y0.heap.size s0 (.slice A0 n0 c0) x0) := hid (hY ▸ heap_alloc_new y0 _)
    have Hb0 : Hid (w.heap.size + 1 + 1 < y0.heap.size) := hid P3.out.lt
    have hn : Hid (Below y0.heap.size y0 Y0) := hid (hY ▸ (Below.refl _ y0).alloc (Nat.le_refl _) _)
    clear hY
    replace K := hid (K.out.trans (hn.out.mono K.out.size))
    replace PD := hid (PD.out.below hn.out PD.out.lt)
    replace P2 := hid (P2.out.below hn.out P2.out.lt)
    replace P3 := hid (P3.out.below hn.out P3.out.lt)
    replace HD := hid (HD.out.below hn.out)
    replace Hr0 := hid (Hr0.out.below hn.out)
    clear hn
    go_wp2_with (first
      | (with_reducible refine wp_pl1 rfl (.tmp 21) rfl w.heap.size D rfl PD.out ?_)
      | (with_reducible refine wp_mload rfl (.tmp 1) rfl w.heap.size D rfl PD.out ?_)
      | (with_reducible refine wp_mload_g (by kernel_rfl) (.tmp 1) rfl w.heap.size D rfl PD.out ?_)
      | fail)
    refine (ehalf_dy (HD.out 1 (by omega)) (HqD.out 1 (by omega))).mono ?_
    rintro en y1 ⟨H1, r1, e1, HH1, rfl, He1, Hr1, Hf1, hb⟩
    obtain ⟨s1, A1, n1, c1, x1, f1⟩ := r1
    replace Hf1 := hid (Hf1.out.mono (show w.heap.size ≤ _ from K.out.size))
    replace K := hid (K.out.trans (hb.out.mono K.out.size))
    replace PD := hid (PD.out.below hb.out PD.out.lt)
    replace P2 := hid (P2.out.below hb.out P2.out.lt)
    replace P3 := hid (P3.out.below hb.out P3.out.lt)
    replace HD := hid (HD.out.below hb.out)
    replace Hr0 := hid (Hr0.out.below hb.out)
    replace Pd0 := hid (Pd0.out.below hb.out Pd0.out.lt)
    clear hb
    go_upto_region 5 with fail
    obtain ⟨Y1, hY⟩ : ∃ Y, Y = y1.alloc (.cells #[.bool s1, .slice A1 n1 c1, .int .i64 x1] 24) := ⟨_, rfl⟩
    rw [← hY]
    have Pd1 : Hid (Dbox Y1 y1.heap.size s1 (.slice A1 n1 c1) x1) := hid (hY ▸ heap_alloc_new y1 _)
    have Hb1 : Hid (w.heap.size + 1 + 1 < y1.heap.size) := hid P3.out.lt
    have hn : Hid (Below y1.heap.size y1 Y1) := hid (hY ▸ (Below.refl _ y1).alloc (Nat.le_refl _) _)
    clear hY
    replace K := hid (K.out.trans (hn.out.mono K.out.size))
    replace PD := hid (PD.out.below hn.out PD.out.lt)
    replace P2 := hid (P2.out.below hn.out P2.out.lt)
    replace P3 := hid (P3.out.below hn.out P3.out.lt)
    replace HD := hid (HD.out.below hn.out)
    replace Hr0 := hid (Hr0.out.below hn.out)
    replace Pd0 := hid (Pd0.out.below hn.out Pd0.out.lt)
    replace Hr1 := hid (Hr1.out.below hn.out)
    clear hn
    have HE0 := He0.out
    have HE1 := He1.out
    clear He0 He1
    rcases HE0 with ⟨h0, rfl⟩ | ⟨h0, rfl⟩ <;> rcases HE1 with ⟨h1, rfl⟩ | ⟨h1, rfl⟩
    · have HOk := hid (show Okay H0 ∧ Okay H1 from ⟨h0, h1⟩)
      clear h0 h1
      go_upto_region 7 with fail
      have CF : Hid (EsS w.heap.size y0.heap.size y1.heap.size D (⟨s0, A0, n0, c0, x0, f0⟩ : Dy) (⟨s1, A1, n1, c1, x1, f1⟩ : Dy) Y1) := hid ⟨PD.out, Pd0.out, Pd1.out⟩
      have BD := hid ((Below.refl Y1.heap.size Y1).drew)
      replace CF : Hid (EsS w.heap.size y0.heap.size y1.heap.size D (⟨s0, A0, n0, c0, x0, f0⟩ : Dy) (⟨s1, A1, n1, c1, x1, f1⟩ : Dy) Y1.drew) := hid ⟨PD.out.below BD.out PD.out.lt, Pd0.out.below BD.out Pd0.out.lt, Pd1.out.below BD.out Pd1.out.lt⟩
      replace K := hid (K.out.trans (BD.out.mono K.out.size))
      replace P2 := hid (P2.out.below BD.out P2.out.lt)
      replace P3 := hid (P3.out.below BD.out P3.out.lt)
      replace HD := hid (HD.out.below BD.out)
      replace Hr0 := hid (Hr0.out.below BD.out)
      replace Hr1 := hid (Hr1.out.below BD.out)
      clear BD
      refine wp_region_held_drew (S := EsS w.heap.size y0.heap.size y1.heap.size D (⟨s0, A0, n0, c0, x0, f0⟩ : Dy) (⟨s1, A1, n1, c1, x1, f1⟩ : Dy)) (by kernel_rfl) CF.out (fun hHeld => ?_)
      generalize Y1.drew = V at *
      refine wpAnyH_take (i := 0) rfl (by kernel_rfl) (by kernel_rfl) (by kernel_rfl) (fun _ _ _ h => h) (yields_dl (by rfl) (.tmp 5) rfl y0.heap.size s0 (.slice A0 n0 c0) x0 rfl (fun X hX => hX.2.1)) hHeld ?_
      (try simp only [Act.put, List.setIfInBounds_toArray, List.set_cons_zero, List.set_cons_succ, List.getElem_toArray, List.getElem_cons_zero])
      refine wpAnyH_take (i := 1) rfl (by kernel_rfl) (by kernel_rfl) (by kernel_rfl) (fun _ _ _ h => h) (yields_dl (by rfl) (.tmp 7) rfl y1.heap.size s1 (.slice A1 n1 c1) x1 rfl (fun X hX => hX.2.2)) hHeld ?_
      (try simp only [Act.put, List.setIfInBounds_toArray, List.set_cons_zero, List.set_cons_succ, List.getElem_toArray, List.getElem_cons_succ, List.getElem_cons_zero])
      refine wpAnyH_take (i := 2) (v := ?v1) rfl (by kernel_rfl) (by kernel_rfl) (by kernel_rfl) (fun _ _ _ h => h) (Or.inl ⟨by rfl, ?y1⟩) (by assumption) ?r1
      case y1 => (intro w0 hSw; (try dsimp only at hSw); (try simp only [List.getElem_toArray, List.getElem_cons_succ, List.getElem_cons_zero]); go_simp; try with_reducible rfl)
      (try simp only [Act.put, List.setIfInBounds_toArray, List.set_cons_zero, List.set_cons_succ, List.getElem_toArray, List.getElem_cons_succ, List.getElem_cons_zero])
      refine wpAnyH_take (i := 3) rfl (by kernel_rfl) (by kernel_rfl) (by kernel_rfl) (fun _ _ _ h => h) (yields_pl2 (by rfl) (.tmp 37) rfl w.heap.size D rfl (fun X hX => hX.1)) hHeld ?_
      (try simp only [Act.put, List.setIfInBounds_toArray, List.set_cons_zero, List.set_cons_succ, List.getElem_toArray, List.getElem_cons_succ, List.getElem_cons_zero])
      refine wpAnyH_take (i := 4) (v := ?v2) rfl (by kernel_rfl) (by kernel_rfl) (by kernel_rfl) (fun _ _ _ h => h) (Or.inl ⟨by rfl, ?y2⟩) (by assumption) ?r2
      case y2 => (intro w0 hSw; (try dsimp only at hSw); (try simp only [List.getElem_toArray, List.getElem_cons_succ, List.getElem_cons_zero]); go_simp; try with_reducible rfl)
      (try simp only [Act.put, List.setIfInBounds_toArray, List.set_cons_zero, List.set_cons_succ, List.getElem_toArray, List.getElem_cons_succ, List.getElem_cons_zero])
      refine wpAnyH_take (i := 5) rfl (by kernel_rfl) (by kernel_rfl) (by kernel_rfl) (fun _ _ _ h => h) (yields_pl3 (by rfl) (.tmp 39) rfl w.heap.size D rfl (fun X hX => hX.1)) hHeld ?_
      (try simp only [Act.put, List.setIfInBounds_toArray, List.set_cons_zero, List.set_cons_succ, List.getElem_toArray, List.getElem_cons_succ, List.getElem_cons_zero])
      refine wpAnyH_take (i := 6) (v := ?v3) rfl (by kernel_rfl) (by kernel_rfl) (by kernel_rfl) (fun _ _ _ h => h) (Or.inl ⟨by rfl, ?y3⟩) (by assumption) ?r3
      case y3 => (intro w0 hSw; (try dsimp only at hSw); (try simp only [List.getElem_toArray, List.getElem_cons_succ, List.getElem_cons_zero]); go_simp; try with_reducible rfl)
      (try simp only [Act.put, List.setIfInBounds_toArray, List.set_cons_zero, List.set_cons_succ, List.getElem_toArray, List.getElem_cons_succ, List.getElem_cons_zero])
      refine wpAnyH_take (i := 7) rfl (by kernel_rfl) (by kernel_rfl) (by kernel_rfl) (fun _ _ _ h => h) (yields_dl (by rfl) (.tmp 5) rfl y0.heap.size s0 (.slice A0 n0 c0) x0 rfl (fun X hX => hX.2.1)) hHeld ?_
      (try simp only [Act.put, List.setIfInBounds_toArray, List.set_cons_zero, List.set_cons_succ, List.getElem_toArray, List.getElem_cons_succ, List.getElem_cons_zero])
      refine wpAnyH_take (i := 8) rfl (by kernel_rfl) (by kernel_rfl) (by kernel_rfl) (fun _ _ _ h => h) (yields_dl (by rfl) (.tmp 7) rfl y1.heap.size s1 (.slice A1 n1 c1) x1 rfl (fun X hX => hX.2.2)) hHeld ?_
      (try simp only [Act.put, List.setIfInBounds_toArray, List.set_cons_zero, List.set_cons_succ, List.getElem_toArray, List.getElem_cons_succ, List.getElem_cons_zero])
      refine wpAnyH_take (i := 9) (v := ?v4) rfl (by kernel_rfl) (by kernel_rfl) (by kernel_rfl) (fun _ _ _ h => h) (Or.inl ⟨by rfl, ?y4⟩) (by assumption) ?r4
      case y4 => (intro w0 hSw; (try dsimp only at hSw); (try simp only [List.getElem_toArray, List.getElem_cons_succ, List.getElem_cons_zero]); go_simp; try with_reducible rfl)
      (try simp only [Act.put, List.setIfInBounds_toArray, List.set_cons_zero, List.set_cons_succ, List.getElem_toArray, List.getElem_cons_succ, List.getElem_cons_zero])
       
      have HK : Hid (Mrr V (fun _ => True) (of4 H0 H1 (M 2) (M 3)) (of4 (⟨s0, A0, n0, c0, x0, f0⟩ : Dy) (⟨s1, A1, n1, c1, x1, f1⟩ : Dy) (D 2) (D 3))) := hid (all_of4 (P := fun k => Drd V True ((of4 H0 H1 (M 2) (M 3)) k) ((of4 (⟨s0, A0, n0, c0, x0, f0⟩ : Dy) (⟨s1, A1, n1, c1, x1, f1⟩ : Dy) (D 2) (D 3)) k)) (Drd.ok Hr0.out) (Drd.ok Hr1.out) ((HD.out 2 (by omega)).sure (HqD.out 2 (by omega))) ((HD.out 3 (by omega)).sure (HqD.out 3 (by omega))))
      have HS : Hid (Mrr V (fun _ => True) (of4 H0 H1 0 0) (of4 (⟨s0, A0, n0, c0, x0, f0⟩ : Dy) (⟨s1, A1, n1, c1, x1, f1⟩ : Dy) d0 d0)) := hid (all_of4 (P := fun k => Drd V True ((of4 H0 H1 0 0) k) ((of4 (⟨s0, A0, n0, c0, x0, f0⟩ : Dy) (⟨s1, A1, n1, c1, x1, f1⟩ : Dy) d0 d0) k)) (Drd.ok Hr0.out) (Drd.ok Hr1.out) (Dyr.zero _).drd (Dyr.zero _).drd)
      clear Hr0 Hr1 HD
      have LK := hid (show (#[.bool s0, .slice A0 n0 c0, .int .i64 x0, .bool s1, .slice A1 n1 c1, .int .i64 x1, .bool (D 2).s, .slice (D 2).A (D 2).n (D 2).c, .int .i64 (D 2).x, .bool (D 3).s, .slice (D 3).A (D 3).n (D 3).c, .int .i64 (D 3).x] : Array Value) = mcells (of4 (⟨s0, A0, n0, c0, x0, f0⟩ : Dy) (⟨s1, A1, n1, c1, x1, f1⟩ : Dy) (D 2) (D 3)) from rfl)
      have LS := hid (show (#[.bool s0, .slice A0 n0 c0, .int .i64 x0, .bool s1, .slice A1 n1 c1, .int .i64 x1, .bool false, .slice none 0 0, .int .i64 0, .bool false, .slice none 0 0, .int .i64 0] : Array Value) = mcells (of4 (⟨s0, A0, n0, c0, x0, f0⟩ : Dy) (⟨s1, A1, n1, c1, x1, f1⟩ : Dy) d0 d0) from rfl)
      refine wpAnyH_ready (rs := [10]) (by kernel_rfl) (by simp) ?_
      refine AllReadyH.cons rfl (fun K' hK => ?_) AllReadyH.nil
      (try simp only [List.getElem_toArray, List.getElem_cons_succ, List.getElem_cons_zero])
      refine ite_go (by kernel_rfl) ?_
      refine wp1_mstore_ (.tmp 2) (.tmp 41) rfl (w.heap.size + 1) D0 (of4 (⟨s0, A0, n0, c0, x0, f0⟩ : Dy) (⟨s1, A1, n1, c1, x1, f1⟩ : Dy) (D 2) (D 3)) _ rfl rfl LK.out P2.out ?_
      have gz := grown_mstore V (w.heap.size + 1) (of4 (⟨s0, A0, n0, c0, x0, f0⟩ : Dy) (⟨s1, A1, n1, c1, x1, f1⟩ : Dy) (D 2) (D 3))
      replace CF := hid (hHeld.grown gz (by omega) (by have := Hb0.out; omega) (by have := Hb1.out; omega))
      replace HK := hid (show Mrr (mstore V (w.heap.size + 1) (of4 (⟨s0, A0, n0, c0, x0, f0⟩ : Dy) (⟨s1, A1, n1, c1, x1, f1⟩ : Dy) (D 2) (D 3))) (fun _ => True) (of4 H0 H1 (M 2) (M 3)) (of4 (⟨s0, A0, n0, c0, x0, f0⟩ : Dy) (⟨s1, A1, n1, c1, x1, f1⟩ : Dy) (D 2) (D 3)) from fun k hk => (HK.out k hk).box P2.out gz)
      replace HS := hid (show Mrr (mstore V (w.heap.size + 1) (of4 (⟨s0, A0, n0, c0, x0, f0⟩ : Dy) (⟨s1, A1, n1, c1, x1, f1⟩ : Dy) (D 2) (D 3))) (fun _ => True) (of4 H0 H1 0 0) (of4 (⟨s0, A0, n0, c0, x0, f0⟩ : Dy) (⟨s1, A1, n1, c1, x1, f1⟩ : Dy) d0 d0) from fun k hk => (HS.out k hk).box P2.out gz)
      replace P2 := hid (P2.out.store (of4 (⟨s0, A0, n0, c0, x0, f0⟩ : Dy) (⟨s1, A1, n1, c1, x1, f1⟩ : Dy) (D 2) (D 3)))
      replace P3 := hid (P3.out.grown gz (by omega))
      replace K := hid (below_row K.out gz K.out.size (by omega))
      clear gz
      generalize mstore V (w.heap.size + 1) (of4 (⟨s0, A0, n0, c0, x0, f0⟩ : Dy) (⟨s1, A1, n1, c1, x1, f1⟩ : Dy) (D 2) (D 3)) = V2 at *
      refine hK.out _ _ CF.out (fun hHeld => ?_)
      clear hK K'
      (try simp only [Act.put])
      refine wpAnyH_ready (rs := [11]) (by kernel_rfl) (by simp) ?_
      refine AllReadyH.cons rfl (fun K' hK => ?_) AllReadyH.nil
      (try simp only [List.getElem_toArray, List.getElem_cons_succ, List.getElem_cons_zero])
      refine ite_go (by kernel_rfl) ?_
      refine wp1_mstore_ (.tmp 3) (.tmp 44) rfl (w.heap.size + 1 + 1) D0 (of4 (⟨s0, A0, n0, c0, x0, f0⟩ : Dy) (⟨s1, A1, n1, c1, x1, f1⟩ : Dy) d0 d0) _ rfl rfl LS.out P3.out ?_
      have gz := grown_mstore V2 (w.heap.size + 1 + 1) (of4 (⟨s0, A0, n0, c0, x0, f0⟩ : Dy) (⟨s1, A1, n1, c1, x1, f1⟩ : Dy) d0 d0)
      replace CF := hid (hHeld.grown gz (by omega) (by have := Hb0.out; omega) (by have := Hb1.out; omega))
      replace HK := hid (show Mrr (mstore V2 (w.heap.size + 1 + 1) (of4 (⟨s0, A0, n0, c0, x0, f0⟩ : Dy) (⟨s1, A1, n1, c1, x1, f1⟩ : Dy) d0 d0)) (fun _ => True) (of4 H0 H1 (M 2) (M 3)) (of4 (⟨s0, A0, n0, c0, x0, f0⟩ : Dy) (⟨s1, A1, n1, c1, x1, f1⟩ : Dy) (D 2) (D 3)) from fun k hk => (HK.out k hk).box P3.out gz)
      replace HS := hid (show Mrr (mstore V2 (w.heap.size + 1 + 1) (of4 (⟨s0, A0, n0, c0, x0, f0⟩ : Dy) (⟨s1, A1, n1, c1, x1, f1⟩ : Dy) d0 d0)) (fun _ => True) (of4 H0 H1 0 0) (of4 (⟨s0, A0, n0, c0, x0, f0⟩ : Dy) (⟨s1, A1, n1, c1, x1, f1⟩ : Dy) d0 d0) from fun k hk => (HS.out k hk).box P3.out gz)
      replace P3 := hid (P3.out.store (of4 (⟨s0, A0, n0, c0, x0, f0⟩ : Dy) (⟨s1, A1, n1, c1, x1, f1⟩ : Dy) d0 d0))
      replace P2 := hid (P2.out.grown gz (by omega))
      replace K := hid (below_row K.out gz K.out.size (by omega))
      clear gz
      generalize mstore V2 (w.heap.size + 1 + 1) (of4 (⟨s0, A0, n0, c0, x0, f0⟩ : Dy) (⟨s1, A1, n1, c1, x1, f1⟩ : Dy) d0 d0) = V3 at *
      refine hK.out _ _ CF.out (fun hHeld => ?_)
      clear hK K'
      (try simp only [Act.put])
      refine wpAnyH_take (i := 12) (v := ?v5) rfl (by kernel_rfl) (by kernel_rfl) (by kernel_rfl) (fun _ _ _ h => h) (Or.inl ⟨by rfl, ?y5⟩) (by assumption) ?r5
      case y5 => (intro w0 hSw; (try dsimp only at hSw); (try simp only [List.getElem_toArray, List.getElem_cons_succ, List.getElem_cons_zero]); go_simp; try with_reducible rfl)
      (try simp only [Act.put, List.setIfInBounds_toArray, List.set_cons_zero, List.set_cons_succ, List.getElem_toArray, List.getElem_cons_succ, List.getElem_cons_zero])
      refine wpAnyH_done (by kernel_rfl) ?_ _
      go_wp2
      have HFr := hid (show FrM w.heap.size D (of4 (⟨s0, A0, n0, c0, x0, f0⟩ : Dy) (⟨s1, A1, n1, c1, x1, f1⟩ : Dy) (D 2) (D 3)) from all_of4 (P := fun k => ((of4 (⟨s0, A0, n0, c0, x0, f0⟩ : Dy) (⟨s1, A1, n1, c1, x1, f1⟩ : Dy) (D 2) (D 3)) k) = (D k) ∨ Fresh w.heap.size (.slice ((of4 (⟨s0, A0, n0, c0, x0, f0⟩ : Dy) (⟨s1, A1, n1, c1, x1, f1⟩ : Dy) (D 2) (D 3)) k).A ((of4 (⟨s0, A0, n0, c0, x0, f0⟩ : Dy) (⟨s1, A1, n1, c1, x1, f1⟩ : Dy) (D 2) (D 3)) k).n ((of4 (⟨s0, A0, n0, c0, x0, f0⟩ : Dy) (⟨s1, A1, n1, c1, x1, f1⟩ : Dy) (D 2) (D 3)) k).c)) (.inr Hf0.out) (.inr Hf1.out) (.inl rfl) (.inl rfl))
      refine ret_masses rfl rfl rfl rfl rfl P2.out P3.out ⟨H0, H1, fun _ => ⟨HH0.out, HH1.out⟩, _, _, 0, rfl, ⟨fun _ => .inl ⟨HOk.out, rfl⟩, fun hn => absurd HqD.out hn⟩, ⟨?_, ?_⟩, HFr, K.out⟩
      · rw [resM_ok rfl]; exact HK.out
      · rw [resM_ok rfl]; exact HS.out
    · have hmx := fun P w ts t => max_so (x := 0) (y := 10) (z := 10) rfl P w ts t
      have HNo := hid (show ¬ (Okay H0 ∧ Okay H1) from fun h => h1 h.2)
      clear h0 h1
      have g2 := grown_mstore Y1 (w.heap.size + 1) D0
      have V2 := hid (P2.out.store D0)
      have V3 := hid (P3.out.grown g2 (by omega))
      have K2 := hid (below_row K.out g2 K.out.size (by omega))
      have g3 := grown_mstore (mstore Y1 (w.heap.size + 1) D0) (w.heap.size + 1 + 1) D0
      have X2 := hid (V2.out.grown g3 (by omega))
      have X3 := hid (V3.out.store D0)
      have K3 := hid (below_row K2.out g3 K2.out.size (by omega))
      clear g2 g3
      go_wp2_with (first
        | (with_reducible refine wp_mzero rfl (.tmp 2) (.tmp 30) rfl (w.heap.size + 1) D0 rfl rfl P2.out ?_)
        | (with_reducible refine wp_mzero rfl (.tmp 3) (.tmp 31) rfl (w.heap.size + 1 + 1) D0 rfl rfl V3.out ?_)
        | fail)
      exact ret_masses rfl rfl rfl rfl rfl X2.out X3.out ⟨H0, H1, fun _ => ⟨HH0.out, HH1.out⟩, D0, D0, 10, rfl, ⟨fun _ => .inr ⟨HNo.out, rfl⟩, fun hn => absurd HqD.out hn⟩, ⟨(by rw [resM_bad (by decide)]; exact (mar_zero _).mrr), (by rw [resM_bad (by decide)]; exact (mar_zero _).mrr)⟩, FrM.zero _ _, K3.out⟩
    · have hmx := fun P w ts t => max_so (x := 10) (y := 0) (z := 10) rfl P w ts t
      have HNo := hid (show ¬ (Okay H0 ∧ Okay H1) from fun h => h0 h.1)
      clear h0 h1
      have g2 := grown_mstore Y1 (w.heap.size + 1) D0
      have V2 := hid (P2.out.store D0)
      have V3 := hid (P3.out.grown g2 (by omega))
      have K2 := hid (below_row K.out g2 K.out.size (by omega))
      have g3 := grown_mstore (mstore Y1 (w.heap.size + 1) D0) (w.heap.size + 1 + 1) D0
      have X2 := hid (V2.out.grown g3 (by omega))
      have X3 := hid (V3.out.store D0)
      have K3 := hid (below_row K2.out g3 K2.out.size (by omega))
      clear g2 g3
      go_wp2_with (first
        | (with_reducible refine wp_mzero rfl (.tmp 2) (.tmp 30) rfl (w.heap.size + 1) D0 rfl rfl P2.out ?_)
        | (with_reducible refine wp_mzero rfl (.tmp 3) (.tmp 31) rfl (w.heap.size + 1 + 1) D0 rfl rfl V3.out ?_)
        | fail)
      exact ret_masses rfl rfl rfl rfl rfl X2.out X3.out ⟨H0, H1, fun _ => ⟨HH0.out, HH1.out⟩, D0, D0, 10, rfl, ⟨fun _ => .inr ⟨HNo.out, rfl⟩, fun hn => absurd HqD.out hn⟩, ⟨(by rw [resM_bad (by decide)]; exact (mar_zero _).mrr), (by rw [resM_bad (by decide)]; exact (mar_zero _).mrr)⟩, FrM.zero _ _, K3.out⟩
    · have hmx := fun P w ts t => max_so (x := 10) (y := 10) (z := 10) rfl P w ts t
      have HNo := hid (show ¬ (Okay H0 ∧ Okay H1) from fun h => h0 h.1)
      clear h0 h1
      have g2 := grown_mstore Y1 (w.heap.size + 1) D0
      have V2 := hid (P2.out.store D0)
      have V3 := hid (P3.out.grown g2 (by omega))
      have K2 := hid (below_row K.out g2 K.out.size (by omega))
      have g3 := grown_mstore (mstore Y1 (w.heap.size + 1) D0) (w.heap.size + 1 + 1) D0
      have X2 := hid (V2.out.grown g3 (by omega))
      have X3 := hid (V3.out.store D0)
      have K3 := hid (below_row K2.out g3 K2.out.size (by omega))
      clear g2 g3
      go_wp2_with (first
        | (with_reducible refine wp_mzero rfl (.tmp 2) (.tmp 30) rfl (w.heap.size + 1) D0 rfl rfl P2.out ?_)
        | (with_reducible refine wp_mzero rfl (.tmp 3) (.tmp 31) rfl (w.heap.size + 1 + 1) D0 rfl rfl V3.out ?_)
        | fail)
      exact ret_masses rfl rfl rfl rfl rfl X2.out X3.out ⟨H0, H1, fun _ => ⟨HH0.out, HH1.out⟩, D0, D0, 10, rfl, ⟨fun _ => .inr ⟨HNo.out, rfl⟩, fun hn => absurd HqD.out hn⟩, ⟨(by rw [resM_bad (by decide)]; exact (mar_zero _).mrr), (by rw [resM_bad (by decide)]; exact (mar_zero _).mrr)⟩, FrM.zero _ _, K3.out⟩

end Go.Proofs.YtelalanhalbicaaDoor


namespace Go.Proofs.YtelalanhalbicaaDoor
open Go.RowKit Go.Shelf

theorem eof_dy (n : Int) {T : Int} (hT : (tp 4000 : Int) = T) (hn : -9223372036854775808 ≤ n ∧ n ≤ 9223372036854775807) (w : World) : Calls Tryd.prog 53 #[.int .i64 n] w fun e w' => ∃ d, e = .returned (dyv d) ∧ Hid (Drd w' True (n * T) d) ∧ Hid (Below w.heap.size w w') := by
  subst hT
  refine (eof_any n hn w).mono ?_
  rintro e w' ⟨v, rfl, HD, HB⟩
  obtain ⟨d, rfl, hO⟩ := HD.out.drd
  exact ⟨d, rfl, hO, HB⟩
/-- A mass of the document's. -/
def EMOne (w : World) (M : Nat → Int) (e : Ending) (w' : World) : Prop := ∃ D, e = .returned (.agg (mcells D)) ∧ Hid (Mrr w' (fun _ => True) M D) ∧ Hid (Below w.heap.size w w')
def EMGood (w : World) (M : Nat → Int) (e : Ending) (w' : World) : Prop := ∃ D, e = .returned (.tuple #[.agg (mcells D), .int .i64 0]) ∧ Hid (Mrr w' (fun _ => True) M D) ∧ Hid (Below w.heap.size w w')
set_option maxHeartbeats 1600000 in
theorem emseeded_first {x T : Int} (hT : (tp 4000 : Int) = T) (hx : -2147483647 ≤ x ∧ x ≤ 2147483647) (w : World) :
    Calls Tryd.prog 35 #[.int .i64 x, .bool true] w (EMOne w (of4 (x * T) T T (x * T))) := by
  have HT := hid hT
  clear hT
  have F0 := hid (fresh_mass w)
  obtain ⟨W, hW⟩ : ∃ W, W = w.alloc (.cells #[.bool false, .slice none 0 0, .int .i64 0, .bool false, .slice none 0 0, .int .i64 0, .bool false, .slice none 0 0, .int .i64 0, .bool false, .slice none 0 0, .int .i64 0] 26) := ⟨_, rfl⟩
  have HW := hid hW
  rw [← hW] at F0
  have K := hid (show Below w.heap.size w W from hW ▸ (Below.refl _ w).alloc (Nat.le_refl _) _)
  have BZ := hid (show w.heap.size + 1 ≤ W.heap.size by rw [hW]; simp)
  have hwx : IntKind.i64.wrap x = x := IntWalk.i64_in _ (by omega)
  clear hW
  go_enter Tryd.func35, Tryd.ntmps35
  go_upto_region 1 with fail
  rw [← HW.out]
  go_wp2_with fail
  refine (eof_dy x HT.out (by omega) _).mono ?_
  rintro e w0 ⟨a, rfl, Ha, hb⟩
  replace K := hid (K.out.trans (hb.out.mono K.out.size))
  replace F0 := hid (F0.out.below hb.out F0.out.lt)
  have S0 := hid (hb.out.size)
  obtain ⟨sa, Aa, na, ca, xa, fa⟩ := a
  clear hb
  go_wp2_with fail
  refine (eof_dy 1 HT.out (by omega) _).mono ?_
  rintro e w1 ⟨b, rfl, Hb, hb⟩
  replace K := hid (K.out.trans (hb.out.mono K.out.size))
  replace F0 := hid (F0.out.below hb.out F0.out.lt)
  replace Ha := hid (Ha.out.below hb.out)
  have S1 := hid (Nat.le_trans S0.out hb.out.size)
  obtain ⟨sb, Ab, nb, cb, xb, fb⟩ := b
  clear hb
  go_wp2_with fail
  refine (eof_dy x HT.out (by omega) _).mono ?_
  rintro e w2 ⟨c, rfl, Hc, hb⟩
  replace K := hid (K.out.trans (hb.out.mono K.out.size))
  replace F0 := hid (F0.out.below hb.out F0.out.lt)
  replace Ha := hid (Ha.out.below hb.out)
  replace Hb := hid (Hb.out.below hb.out)
  have S2 := hid (Nat.le_trans S1.out hb.out.size)
  obtain ⟨sc, Ac, nc, cc, xc, fc⟩ := c
  clear hb
  have HM : Hid (Mrr w2 (fun _ => True) (of4 (x * T) (1 * T) 0 (x * T)) (of4 ⟨sa, Aa, na, ca, xa, fa⟩ ⟨sb, Ab, nb, cb, xb, fb⟩ d0 ⟨sc, Ac, nc, cc, xc, fc⟩)) := hid (all_of4 (P := fun k => Drd w2 True (of4 (x * T) (1 * T) 0 (x * T) k) (of4 ⟨sa, Aa, na, ca, xa, fa⟩ ⟨sb, Ab, nb, cb, xb, fb⟩ d0 ⟨sc, Ac, nc, cc, xc, fc⟩ k)) Ha.out Hb.out (Dyr.zero _).drd Hc.out)
  clear Ha Hb Hc
  have G0 := hid (fresh_mass w2)
  have hbld : #[.bool sa, .slice Aa na ca, .int .i64 xa, .bool sb, .slice Ab nb cb, .int .i64 xb, .bool false, .slice none 0 0, .int .i64 0, .bool sc, .slice Ac nc cc, .int .i64 xc] = mcells (of4 ⟨sa, Aa, na, ca, xa, fa⟩ ⟨sb, Ab, nb, cb, xb, fb⟩ d0 ⟨sc, Ac, nc, cc, xc, fc⟩) := rfl
  have Hbld := hid hbld
  clear hbld
  go_upto_region 2 with (first
    | (with_reducible refine wp_mstore_ rfl (.tmp 5) (.tmp 11) rfl w2.heap.size D0 (of4 ⟨sa, Aa, na, ca, xa, fa⟩ ⟨sb, Ab, nb, cb, xb, fb⟩ d0 ⟨sc, Ac, nc, cc, xc, fc⟩) _ rfl rfl Hbld.out G0.out ?_)
    | fail)
  obtain ⟨W3, hW3⟩ : ∃ W, W = mstore (w2.alloc (.cells #[.bool false, .slice none 0 0, .int .i64 0, .bool false, .slice none 0 0, .int .i64 0, .bool false, .slice none 0 0, .int .i64 0, .bool false, .slice none 0 0, .int .i64 0] 26)) w2.heap.size (of4 ⟨sa, Aa, na, ca, xa, fa⟩ ⟨sb, Ab, nb, cb, xb, fb⟩ d0 ⟨sc, Ac, nc, cc, xc, fc⟩) := ⟨_, rfl⟩
  rw [← hW3]
  have P3 : Hid (Mbox W3 w2.heap.size (of4 ⟨sa, Aa, na, ca, xa, fa⟩ ⟨sb, Ab, nb, cb, xb, fb⟩ d0 ⟨sc, Ac, nc, cc, xc, fc⟩)) := hid (hW3 ▸ (new_mass w2 _).1)
  have hn : Hid (Below w2.heap.size w2 W3) := hid (hW3 ▸ (new_mass w2 _).2)
  clear hW3 G0
  replace K := hid (K.out.trans (hn.out.mono K.out.size))
  replace F0 := hid (F0.out.below hn.out F0.out.lt)
  replace HM := hid (HM.out.below hn.out)
  have S3 := hid (Nat.le_trans S2.out hn.out.size)
  clear hn Hbld
  go_wp2_with fail
  refine (eof_dy 1 HT.out (by omega) _).mono ?_
  rintro e w4 ⟨d, rfl, Hd, hb⟩
  replace K := hid (K.out.trans (hb.out.mono K.out.size))
  replace F0 := hid (F0.out.below hb.out F0.out.lt)
  replace HM := hid (HM.out.below hb.out)
  replace P3 := hid (P3.out.below hb.out P3.out.lt)
  obtain ⟨sd, Ad, nd, cd, xd, fd⟩ := d
  clear hb
  have b6 := P3.out.at_ 6 _ rfl
  have b7 := P3.out.at_ 7 _ rfl
  have b8 := P3.out.at_ 8 _ rfl
  have g6 := P3.out.frozen 6
  have g7 := P3.out.frozen 7
  have g8 := P3.out.frozen 8
  have P5 := hid (P3.out.put (k := 2) (by omega) ⟨sd, Ad, nd, cd, xd, fd⟩)
  have hlt := F0.out.lt
  have F5 := hid (F0.out.mput_far (g := w2.heap.size) (k := 2) (d := ⟨sd, Ad, nd, cd, xd, fd⟩) (by have := S2.out; have := BZ.out; omega))
  have K5 := hid (below_mput (g := w2.heap.size) (k := 2) (d := ⟨sd, Ad, nd, cd, xd, fd⟩) K.out (by have := S2.out; have := BZ.out; omega))
  have HM5 : Hid (∀ k, k < 4 → Drd (mput w4 w2.heap.size 2 ⟨sd, Ad, nd, cd, xd, fd⟩) True (of4 (x * T) T T (x * T) k) (updD (of4 ⟨sa, Aa, na, ca, xa, fa⟩ ⟨sb, Ab, nb, cb, xb, fb⟩ d0 ⟨sc, Ac, nc, cc, xc, fc⟩) 2 ⟨sd, Ad, nd, cd, xd, fd⟩ k)) := hid (by
    have hM := HM.out
    have hd := Hd.out
    have gm := grown_mput w4 w2.heap.size 2 ⟨sd, Ad, nd, cd, xd, fd⟩
    have h0 := (hM 0 (by omega)).box P3.out gm
    have h1 := (hM 1 (by omega)).box P3.out gm
    have h3 := (hM 3 (by omega)).box P3.out gm
    have h2 := hd.box P3.out gm
    rw [Int.one_mul] at h2
    have h1 : Drd (mput w4 w2.heap.size 2 ⟨sd, Ad, nd, cd, xd, fd⟩) True (1 * T) _ := h1
    rw [Int.one_mul] at h1
    exact all_of4 (P := fun k => Drd (mput w4 w2.heap.size 2 ⟨sd, Ad, nd, cd, xd, fd⟩) True (of4 (x * T) T T (x * T) k) (updD (of4 ⟨sa, Aa, na, ca, xa, fa⟩ ⟨sb, Ab, nb, cb, xb, fb⟩ d0 ⟨sc, Ac, nc, cc, xc, fc⟩) 2 ⟨sd, Ad, nd, cd, xd, fd⟩ k)) h0 h1 h2 h3)
  clear hlt
  go_upto_region 4 with fail
  change Code.wp _ _ _ _ (mput w4 w2.heap.size 2 ⟨sd, Ad, nd, cd, xd, fd⟩)
  generalize mput w4 w2.heap.size 2 ⟨sd, Ad, nd, cd, xd, fd⟩ = W5 at *
  clear b6 b7 b8 g6 g7 g8
  go_wp2_with (first
    | (with_reducible refine wp_mload rfl (.tmp 5) rfl w2.heap.size (updD (of4 ⟨sa, Aa, na, ca, xa, fa⟩ ⟨sb, Ab, nb, cb, xb, fb⟩ d0 ⟨sc, Ac, nc, cc, xc, fc⟩) 2 ⟨sd, Ad, nd, cd, xd, fd⟩) rfl P5.out ?_)
    | (with_reducible refine wp_mstore rfl (.tmp 4) (.tmp 15) rfl w.heap.size D0 (updD (of4 ⟨sa, Aa, na, ca, xa, fa⟩ ⟨sb, Ab, nb, cb, xb, fb⟩ d0 ⟨sc, Ac, nc, cc, xc, fc⟩) 2 ⟨sd, Ad, nd, cd, xd, fd⟩) rfl rfl F5.out ?_)
    | fail)
  have g9 := grown_mstore W5 w.heap.size (updD (of4 ⟨sa, Aa, na, ca, xa, fa⟩ ⟨sb, Ab, nb, cb, xb, fb⟩ d0 ⟨sc, Ac, nc, cc, xc, fc⟩) 2 ⟨sd, Ad, nd, cd, xd, fd⟩)
  exact bodyPost_ret (mass_cell rfl _ _ w.heap.size _ rfl (F5.out.store _)) rfl ⟨_, rfl, (fun k hk => (HM5.out k hk).box F5.out g9), below_row K5.out g9 K5.out.size (Nat.le_refl _)⟩

set_option maxHeartbeats 1600000 in
theorem emseeded_later {x T : Int} (hT : (tp 4000 : Int) = T) (hx : -2147483647 ≤ x ∧ x ≤ 2147483647) (w : World) :
    Calls Tryd.prog 35 #[.int .i64 x, .bool false] w (EMOne w (of4 (x * T) T 0 (x * T))) := by
  have HT := hid hT
  clear hT
  have F0 := hid (fresh_mass w)
  obtain ⟨W, hW⟩ : ∃ W, W = w.alloc (.cells #[.bool false, .slice none 0 0, .int .i64 0, .bool false, .slice none 0 0, .int .i64 0, .bool false, .slice none 0 0, .int .i64 0, .bool false, .slice none 0 0, .int .i64 0] 26) := ⟨_, rfl⟩
  have HW := hid hW
  rw [← hW] at F0
  have K := hid (show Below w.heap.size w W from hW ▸ (Below.refl _ w).alloc (Nat.le_refl _) _)
  have BZ := hid (show w.heap.size + 1 ≤ W.heap.size by rw [hW]; simp)
  have hwx : IntKind.i64.wrap x = x := IntWalk.i64_in _ (by omega)
  clear hW
  go_enter Tryd.func35, Tryd.ntmps35
  go_upto_region 1 with fail
  rw [← HW.out]
  go_wp2_with fail
  refine (eof_dy x HT.out (by omega) _).mono ?_
  rintro e w0 ⟨a, rfl, Ha, hb⟩
  replace K := hid (K.out.trans (hb.out.mono K.out.size))
  replace F0 := hid (F0.out.below hb.out F0.out.lt)
  have S0 := hid (hb.out.size)
  obtain ⟨sa, Aa, na, ca, xa, fa⟩ := a
  clear hb
  go_wp2_with fail
  refine (eof_dy 1 HT.out (by omega) _).mono ?_
  rintro e w1 ⟨b, rfl, Hb, hb⟩
  replace K := hid (K.out.trans (hb.out.mono K.out.size))
  replace F0 := hid (F0.out.below hb.out F0.out.lt)
  replace Ha := hid (Ha.out.below hb.out)
  have S1 := hid (Nat.le_trans S0.out hb.out.size)
  obtain ⟨sb, Ab, nb, cb, xb, fb⟩ := b
  clear hb
  go_wp2_with fail
  refine (eof_dy x HT.out (by omega) _).mono ?_
  rintro e w2 ⟨c, rfl, Hc, hb⟩
  replace K := hid (K.out.trans (hb.out.mono K.out.size))
  replace F0 := hid (F0.out.below hb.out F0.out.lt)
  replace Ha := hid (Ha.out.below hb.out)
  replace Hb := hid (Hb.out.below hb.out)
  have S2 := hid (Nat.le_trans S1.out hb.out.size)
  obtain ⟨sc, Ac, nc, cc, xc, fc⟩ := c
  clear hb
  have HM : Hid (Mrr w2 (fun _ => True) (of4 (x * T) (1 * T) 0 (x * T)) (of4 ⟨sa, Aa, na, ca, xa, fa⟩ ⟨sb, Ab, nb, cb, xb, fb⟩ d0 ⟨sc, Ac, nc, cc, xc, fc⟩)) := hid (all_of4 (P := fun k => Drd w2 True (of4 (x * T) (1 * T) 0 (x * T) k) (of4 ⟨sa, Aa, na, ca, xa, fa⟩ ⟨sb, Ab, nb, cb, xb, fb⟩ d0 ⟨sc, Ac, nc, cc, xc, fc⟩ k)) Ha.out Hb.out (Dyr.zero _).drd Hc.out)
  clear Ha Hb Hc
  have G0 := hid (fresh_mass w2)
  have hbld : #[.bool sa, .slice Aa na ca, .int .i64 xa, .bool sb, .slice Ab nb cb, .int .i64 xb, .bool false, .slice none 0 0, .int .i64 0, .bool sc, .slice Ac nc cc, .int .i64 xc] = mcells (of4 ⟨sa, Aa, na, ca, xa, fa⟩ ⟨sb, Ab, nb, cb, xb, fb⟩ d0 ⟨sc, Ac, nc, cc, xc, fc⟩) := rfl
  have Hbld := hid hbld
  clear hbld
  go_upto_region 2 with (first
    | (with_reducible refine wp_mstore_ rfl (.tmp 5) (.tmp 11) rfl w2.heap.size D0 (of4 ⟨sa, Aa, na, ca, xa, fa⟩ ⟨sb, Ab, nb, cb, xb, fb⟩ d0 ⟨sc, Ac, nc, cc, xc, fc⟩) _ rfl rfl Hbld.out G0.out ?_)
    | fail)
  obtain ⟨W3, hW3⟩ : ∃ W, W = mstore (w2.alloc (.cells #[.bool false, .slice none 0 0, .int .i64 0, .bool false, .slice none 0 0, .int .i64 0, .bool false, .slice none 0 0, .int .i64 0, .bool false, .slice none 0 0, .int .i64 0] 26)) w2.heap.size (of4 ⟨sa, Aa, na, ca, xa, fa⟩ ⟨sb, Ab, nb, cb, xb, fb⟩ d0 ⟨sc, Ac, nc, cc, xc, fc⟩) := ⟨_, rfl⟩
  rw [← hW3]
  have P3 : Hid (Mbox W3 w2.heap.size (of4 ⟨sa, Aa, na, ca, xa, fa⟩ ⟨sb, Ab, nb, cb, xb, fb⟩ d0 ⟨sc, Ac, nc, cc, xc, fc⟩)) := hid (hW3 ▸ (new_mass w2 _).1)
  have hn : Hid (Below w2.heap.size w2 W3) := hid (hW3 ▸ (new_mass w2 _).2)
  clear hW3 G0
  replace K := hid (K.out.trans (hn.out.mono K.out.size))
  replace F0 := hid (F0.out.below hn.out F0.out.lt)
  replace HM := hid (HM.out.below hn.out)
  have S3 := hid (Nat.le_trans S2.out hn.out.size)
  clear hn Hbld
  have HM5 : Hid (∀ k, k < 4 → Drd W3 True (of4 (x * T) T 0 (x * T) k) ((of4 ⟨sa, Aa, na, ca, xa, fa⟩ ⟨sb, Ab, nb, cb, xb, fb⟩ d0 ⟨sc, Ac, nc, cc, xc, fc⟩) k)) := hid (by
    have hM := HM.out
    rw [Int.one_mul] at hM
    exact hM)
  go_wp2_with (first
    | (with_reducible refine wp_mload rfl (.tmp 5) rfl w2.heap.size (of4 ⟨sa, Aa, na, ca, xa, fa⟩ ⟨sb, Ab, nb, cb, xb, fb⟩ d0 ⟨sc, Ac, nc, cc, xc, fc⟩) rfl P3.out ?_)
    | (with_reducible refine wp_mstore rfl (.tmp 4) (.tmp 15) rfl w.heap.size D0 (of4 ⟨sa, Aa, na, ca, xa, fa⟩ ⟨sb, Ab, nb, cb, xb, fb⟩ d0 ⟨sc, Ac, nc, cc, xc, fc⟩) rfl rfl F0.out ?_)
    | fail)
  have g9 := grown_mstore W3 w.heap.size (of4 ⟨sa, Aa, na, ca, xa, fa⟩ ⟨sb, Ab, nb, cb, xb, fb⟩ d0 ⟨sc, Ac, nc, cc, xc, fc⟩)
  exact bodyPost_ret (mass_cell rfl _ _ w.heap.size _ rfl (F0.out.store _)) rfl ⟨_, rfl, (fun k hk => (HM5.out k hk).box F0.out g9), below_row K.out g9 K.out.size (Nat.le_refl _)⟩

/-- Seed, of a value that may be. -/
theorem emseed_ok {x : Int} {b : Bool} {M : Nat → Int} {w : World} (hc : ∀ w, Calls Tryd.prog 35 #[.int .i64 x, .bool b] w (EMOne w M)) (hx : -2147483647 ≤ x ∧ x ≤ 2147483647) :
    Calls Tryd.prog 14 #[.int .i64 x, .bool b] w (EMGood w M) := by
  have HC := hid hc
  clear hc
  have F0 := hid (fresh_mass w)
  have c1 : ¬ x < -2147483647 := by omega
  have c2 : ¬ 2147483647 < x := by omega
  go_enter Tryd.func14, Tryd.ntmps14
  go_wp2_with fail
  refine (HC.out _).mono ?_
  rintro e w1 ⟨D, rfl, HD, hb⟩
  have F1 := hid (F0.out.below hb.out F0.out.lt)
  have K := hid (((Below.refl w.heap.size w).alloc (Nat.le_refl _) _).trans (hb.out.mono (by simp)))
  have g := grown_mstore w1 w.heap.size D
  have HF : Hid (Mrr (mstore w1 w.heap.size D) (fun _ => True) M D) := hid (fun k hk => (HD.out k hk).box F1.out g)
  have hs := F1.out.lt
  have K2 := hid (below_row K.out g (by omega) (Nat.le_refl _))
  clear g hb F0 K hs
  go_wp2_with (first
    | (with_reducible refine wp_mstore rfl (.tmp 4) (.tmp 15) rfl w.heap.size D0 D rfl rfl F1.out ?_)
    | fail)
  exact ret_mass rfl rfl rfl rfl (F1.out.store D) ⟨_, rfl, HF.out, K2.out⟩
theorem emseed_first {x T : Int} (hT : (tp 4000 : Int) = T) (hx : -2147483647 ≤ x ∧ x ≤ 2147483647) (w : World) :
    Calls Tryd.prog 14 #[.int .i64 x, .bool true] w (EMGood w (of4 (x * T) T T (x * T))) := emseed_ok (emseeded_first hT hx) hx
theorem emseed_later {x T : Int} (hT : (tp 4000 : Int) = T) (hx : -2147483647 ≤ x ∧ x ≤ 2147483647) (w : World) :
    Calls Tryd.prog 14 #[.int .i64 x, .bool false] w (EMGood w (of4 (x * T) T 0 (x * T))) := emseed_ok (emseeded_later hT hx) hx
theorem emseed_bad {x : Int} (hx : ¬ (-2147483647 ≤ x ∧ x ≤ 2147483647)) (b : Bool) (w : World) :
    Calls Tryd.prog 14 #[.int .i64 x, .bool b] w fun e w' => e = .returned (.tuple #[.agg (mcells D0), .int .i64 2]) ∧ Hid (Below w.heap.size w w') := by
  have F0 := hid (fresh_mass w)
  have hcase : x < -2147483647 ∨ (¬ x < -2147483647 ∧ 2147483647 < x) := by omega
  rcases hcase with h | ⟨h, h2⟩
  all_goals
    go_enter Tryd.func14, Tryd.ntmps14
    go_wp2_with (first
      | (with_reducible refine wp_mzero rfl (.tmp 4) (.tmp 12) rfl w.heap.size D0 rfl rfl F0.out ?_)
      | fail)
    exact ret_mass rfl rfl rfl rfl (F0.out.store D0) ⟨rfl, (new_mass w D0).2⟩

end Go.Proofs.YtelalanhalbicaaDoor

