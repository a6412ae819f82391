/- ChooseOnce, walked over the program's Some and Draws. -/
import Derived.Test.YtdemhghflanncaaHbeg
namespace Go.Proofs.Ytdemhghflanncaa
open Go.RowKit Go.Shelf Go.Lib

set_option maxHeartbeats 6400000 in
set_option maxRecDepth 100000 in
theorem honce_walk (CA : HAliveOk) (DS : SomeOk) (DD : DrawsOk) {w : World} {nc cc nd cd : Nat} {Ac Ad : Option Addr} {k : List De} {r : List Nat} (o p : Int) (hc : Ds w w.heap.size Ac nc cc k) (hd : Us w w.heap.size Ad nd cd r) :
    Calls Try.prog 6 #[cav o p (.slice Ac nc cc), .slice Ad nd cd] w fun e w' => e = .returned (.bool true) ∧ Below w.heap.size w w' := by
  have mixed : Try.prog.follows .mixedOrders = true := by kernel_rfl
  have HL := hid hc.len
  have HR := hid hd.len
  have hcap := hc.cap
  have hcap2 := hd.cap
  obtain ⟨W0, hW⟩ : ∃ W, W = w.alloc (.cells #[.int .i64 o, .int .i64 p, .slice Ac nc cc] 29) := ⟨_, rfl⟩
  have B0 := hid (show Below w.heap.size w W0 from hW ▸ (Below.refl _ w).alloc (Nat.le_refl _) _)
  have X0 := hid (show Cbox W0 w.heap.size o p (.slice Ac nc cc) from hW ▸ heap_alloc_new w _)
  have D0 := hid ((hc.below B0.out).mono B0.out.size)
  have U0 := hid ((hd.below B0.out).mono B0.out.size)
  have HW := hid hW
  clear hW hc hd
  unfold cav
  go_enter Try.func6, Try.ntmps6
  go_upto_region 1 with fail
  rw [← HW.out]
  clear HW
  go_wp2_with fail
  refine (CA W0).mono ?_
  rintro e w1 ⟨rfl, hb⟩
  have X1 := hid (X0.out.below hb.out X0.out.lt)
  have E1 := hid ((D0.out.below hb.out).mono hb.out.size)
  have U1 := hid ((U0.out.below hb.out).mono hb.out.size)
  have B1 := hid (B0.out.trans (hb.out.mono B0.out.size))
  clear X0 D0 U0 B0 hb
  by_cases h64 : 64 < nd
  · have hz1 : (nd : Int) > 64 := by omega
    go_wp2
    go_ret
    exact ⟨rfl, B1.out⟩
  have hz1 : ¬ (nd : Int) > 64 := by omega
  have CS := hid (DS w1 o p _ nc cc _ nd cd Ac Ad k r E1.out U1.out (Nat.le_refl _) (Nat.le_refl _))
  have hr64 : r.length ≤ 64 := by rw [HR.out]; omega
  have x0 := X1.out.c0
  have x1 := X1.out.c1
  have x2 := X1.out.c2
  rcases sm_cases o p k r hr64 with ⟨e1, e2, hq⟩ | ⟨e1, e2, hq⟩
  case inr =>
    rw [e1, e2] at CS
    unfold cav at CS
    clear e1 e2 hq hr64
    go_wp2_with fail
    refine CS.out.mono ?_
    rintro e w2 ⟨A2, n2, c2, rfl, h2⟩
    obtain rfl : n2 = 0 := h2.out.1.len.symm
    go_wp2
    go_ret
    exact ⟨rfl, B1.out.trans (h2.out.2.mono B1.out.size)⟩
  case inl =>
    have hI := may_ids hq
    have hk6 : nc ≤ 6 := by
      obtain ⟨_, _, _, a4, a5, _⟩ := hq
      have := HL.out
      omega
    obtain ⟨L, hL⟩ : ∃ L, L = chs k r := ⟨_, rfl⟩
    obtain ⟨R, hR⟩ : ∃ R, R = red k r := ⟨_, rfl⟩
    have HLn := hid (show L.length = min r.length k.length from by rw [hL]; exact chs_length r k)
    have HRn := hid (show R.length = min r.length k.length from by rw [hR]; exact red_length r k)
    have HLI := hid (show Ids L from by rw [hL]; exact chs_ids r k hI)
    have hdr : drs k L = some R := by rw [hL, hR]; exact drs_chs r k hI
    have HDE := hid (show dwE o p k L = 0 from by unfold dwE; rw [if_pos hq, hdr]; rfl)
    have HDL := hid (show dwL o p k L = R from by unfold dwL; rw [if_pos hq, hdr]; rfl)
    have HRR := hid (show ∀ i x, R[i]? = some x → ∃ d, r[i]? = some d ∧ x ≤ d ∧ x < k.length - i from fun i x h => by rw [hR] at h; exact red_get r k i x h)
    have hcr : chs k R = L := by rw [hR, hL]; exact chs_red r k
    have HS2 : Hid (smE o p k R = 0 ∧ smL o p k R = L) := hid (by
      rcases sm_cases o p k R (by rw [HRn.out]; omega) with ⟨f1, f2, _⟩ | ⟨_, _, f3⟩
      · exact ⟨f1, f2.trans hcr⟩
      · exact absurd hq f3)
    rw [← hL] at e2
    rw [e1, e2] at CS
    unfold cav at CS
    clear e1 e2 hq hr64 hI hL hR hdr hcr
    go_wp2_with fail
    refine CS.out.mono ?_
    rintro e w2 ⟨A2, n2, c2, rfl, h2⟩
    have D2 := hid h2.out.1
    have X2 := hid (X1.out.below h2.out.2 X1.out.lt)
    have B2 := hid (bh_then (Below.refl _ w1) h2.out.2)
    clear CS h2 x0 x1 x2
    have hmn : min (nd : Int) (nc : Int) = (n2 : Int) := by
      have := D2.out.len
      have := HLn.out
      have := HL.out
      have := HR.out
      omega
    have hc2 := D2.out.cap
    have hnn : ((n2 : Int) == (n2 : Int)) = true := by simp
    have x2 := X2.out.c2
    go_upto_block 0 with fail
    go_cut [8, 9] from 47 to 68 (fun _ _ wx => Hid (Below w2.heap.size w2 wx))
    case first =>
      clear x2
      go_wp2_with fail
      go_loopg [8, 9] n2 (fun gg s8 _ wr => ∃ i : Nat, i ≤ n2 ∧ n2 - i ≤ gg ∧ s8 = .int .i64 i ∧ Hid (Below w2.heap.size w2 wr))
      case atStart => exact ⟨0, Nat.zero_le _, by omega, rfl, hid (Below.refl _ w2)⟩
      case round =>
        obtain ⟨i, hi, hg, rfl, BW⟩ := hrel
        by_cases hlt : i < n2
        case neg =>
          have hz : ¬ (i : Int) < (n2 : Int) := by omega
          obtain rfl : i = n2 := by omega
          go_wp2
          go_meet
          exact BW
        have hz : (i : Int) < (n2 : Int) := by omega
        obtain ⟨a, ha⟩ := D2.out.get hlt
        have HA := hid ha
        clear ha
        go_upto_block 1 with fail
        go_cut [9] from 53 to 68 (fun _ wx => Hid (Below w2.heap.size w2 wx))
        case first =>
          go_wp2_with fail
          go_loopg [9] i (fun gg s9 wx => ∃ j : Nat, j ≤ i ∧ i - j ≤ gg ∧ s9 = .int .i64 j ∧ Hid (Below w2.heap.size w2 wx))
          case atStart => exact ⟨0, Nat.zero_le _, by omega, rfl, BW⟩
          case round =>
            clear BW
            obtain ⟨j, hj, hg2, rfl, BX⟩ := hrel
            by_cases hji : j < i
            case neg =>
              have hjz : ¬ (j : Int) < (i : Int) := by omega
              obtain rfl : j = i := by omega
              go_wp2
              go_meet
              exact BX
            have hjz : (j : Int) < (i : Int) := by omega
            obtain ⟨b, hb⟩ := D2.out.get (show j < n2 by omega)
            have hne : a.1 ≠ b.1 := ids_apart HLI.out HA.out hb (by omega)
            obtain ⟨g, off, hAe, _, hc⟩ := (D2.out.below BX.out).at_ (by omega)
            obtain ⟨c1, _⟩ := hc i a HA.out
            obtain ⟨c3, _⟩ := hc j b hb
            subst hAe
            obtain ⟨a1, a2⟩ := a
            obtain ⟨b1, b2⟩ := b
            change wr.cell? ⟨g, off + i * 2, none⟩ = some (.int .i64 a1) at c1
            change wr.cell? ⟨g, off + j * 2, none⟩ = some (.int .i64 b1) at c3
            change a1 ≠ b1 at hne
            have hneb : (a1 == b1) = false := beq_eq_false_iff_ne.2 hne
            have hned : decide (a1 = b1) = false := decide_eq_false hne
            have hjn : (j : Int) < (n2 : Int) := by omega
            clear hc hb
            go_wp2_with fail
            go_quiet_o (fail)
            go_wp2
            go_roundg (i - (j + 1))
            case measure => omega
            case rel => exact ⟨j + 1, by omega, by omega, by go_num, hid (below_drewN BX.out _)⟩
        case rest =>
          go_wp2
          go_roundg (n2 - (i + 1))
          case measure => omega
          case rel => exact ⟨i + 1, by omega, by omega, by go_num, hcut⟩
    case rest =>
      have BV := hcut
      have BC := hid (bh_then B2.out BV.out)
      have XV := hid (X2.out.below BV.out X2.out.lt)
      have DV := hid (ds_on D2.out BV.out)
      have CD := hid (DD wc o p _ nc cc _ n2 c2 Ac A2 k L (E1.out.below BC.out) DV.out BC.out.size (Nat.le_refl _))
      rw [HDE.out, HDL.out] at CD
      unfold cav at CD
      clear x2 hcut
      have x0 := XV.out.c0
      have x1 := XV.out.c1
      have x2 := XV.out.c2
      have HN2 := hid D2.out.len
      clear D2 X2 B2 BV
      go_wp2_with fail
      refine CD.out.mono ?_
      rintro e w5 ⟨A5, n5, c5, rfl, h5⟩
      obtain rfl : n5 = n2 := h5.out.1.len.symm.trans (HRn.out.trans (HLn.out.symm.trans HN2.out))
      have U5 := hid h5.out.1
      have B5 := hid (bh_then BC.out h5.out.2)
      have X5 := hid (XV.out.below h5.out.2 XV.out.lt)
      have D5 := hid (ds_on DV.out h5.out.2)
      have hc5 := U5.out.cap
      have CS := hid (DS w5 o p _ nc cc _ n5 c5 Ac A5 k R (E1.out.below B5.out) U5.out B5.out.size (Nat.le_refl _))
      rw [HS2.out.1, HS2.out.2] at CS
      unfold cav at CS
      clear CD h5 XV DV BC x0 x1 x2
      have x0 := X5.out.c0
      have x1 := X5.out.c1
      have x2 := X5.out.c2
      go_wp2_with fail
      refine CS.out.mono ?_
      rintro e w6 ⟨A6, n6, c6, rfl, h6⟩
      have D6 := hid (ds_on D5.out h6.out.2)
      have B6 := hid (bh_then B5.out h6.out.2)
      have X6 := hid (X5.out.below h6.out.2 X5.out.lt)
      have U6 := hid ((U5.out.below h6.out.2).mono h6.out.2.size)
      have CE := hid (dsame_any h6.out.1 D6.out (Nat.le_refl _) (Nat.le_refl _))
      rw [decide_eq_true rfl] at CE
      clear CS h6 X5 U5 D5 B5 x0 x1 x2
      go_wp2_with fail
      refine CE.out.mono ?_
      rintro e w7 ⟨rfl, h7⟩
      have B7 := hid (bh_then B6.out h7.out)
      have X7 := hid (X6.out.below h7.out X6.out.lt)
      have U7 := hid ((U6.out.below h7.out).mono h7.out.size)
      clear CE h7 X6 U6 B6 D6
      go_wp2
      go_loopg [14] n5 (fun gg s14 wr => ∃ i : Nat, i ≤ n5 ∧ n5 - i ≤ gg ∧ s14 = .int .i64 i ∧ Hid (Below w7.heap.size w7 wr))
      case atStart => exact ⟨0, Nat.zero_le _, by omega, rfl, hid (Below.refl _ w7)⟩
      case round =>
        obtain ⟨i, hi, hg, rfl, BW⟩ := hrel
        by_cases hlt : i < n5
        case neg =>
          have hz : ¬ (i : Int) < (n5 : Int) := by omega
          obtain rfl : i = n5 := by omega
          go_wp2
          go_ret
          exact ⟨rfl, B1.out.trans ((B7.out.trans (BW.out.mono B7.out.size)).mono B1.out.size)⟩
        have hz : (i : Int) < (n5 : Int) := by omega
        obtain ⟨x, hx⟩ := U7.out.get hlt
        obtain ⟨d, hd, hxd, hxk⟩ := HRR.out i x hx
        have hdn := (List.getElem?_eq_some_iff.1 hd).1
        rw [HR.out] at hdn
        rw [HL.out] at hxk
        obtain ⟨g, off, rfl, _, hc⟩ := (U7.out.below BW.out).at_ (by omega)
        have c1 := hc i x hx
        have B8 := hid (B7.out.trans (BW.out.mono B7.out.size))
        obtain ⟨g2, off2, rfl, _, hc2⟩ := (U1.out.below B8.out).at_ (by omega)
        have c3 := hc2 i d hd
        have X8 := hid (X7.out.below BW.out X7.out.lt)
        have x2 := X8.out.c2
        have hdz : (i : Int) < (nd : Int) := by omega
        have hgt : ¬ (x : Int) > (d : Int) := by omega
        have hgd : decide ((d : Int) < (x : Int)) = false := decide_eq_false (by omega)
        have hw1 : IntKind.i64.wrap ((nc : Int) - (i : Int)) = (nc : Int) - (i : Int) := by rw [IntKind.wrap_i64]; omega
        have hw2 : IntKind.u64.wrap ((nc : Int) - (i : Int)) = (nc : Int) - (i : Int) := by rw [IntKind.wrap_u64]; omega
        have hge : ¬ (x : Int) ≥ (nc : Int) - (i : Int) := by omega
        have hged : decide ((nc : Int) - (i : Int) ≤ (x : Int)) = false := decide_eq_false (by omega)
        clear hc hc2 hx hd
        go_wp2_with fail
        go_quiet (fail)
        go_wp2
        go_roundg (n5 - (i + 1))
        case measure => omega
        case rel => exact ⟨i + 1, by omega, by omega, by go_num, hid (below_drewN BW.out _)⟩
end Go.Proofs.Ytdemhghflanncaa
