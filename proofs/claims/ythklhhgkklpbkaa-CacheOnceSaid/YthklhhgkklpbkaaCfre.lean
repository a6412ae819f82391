/- CacheFresh, walked, over the contracts of the program's Merge and Check. -/
import Derived.Test.YthklhhgkklpbkaaCoff
namespace Go.Proofs.Ythklhhgkklpbkaa
open Go.RowKit Go.Shelf Go.Lib

/-- x makes d a kept one. -/
def keeps (d x : De) : Bool := x.1 == d.1 && decide (d.2 ≤ x.2)
theorem any_next {P : De → Bool} {l : List De} {j : Nat} {e : De} (h : l[j]? = some e) : (l.take (j + 1)).any P = ((l.take j).any P || P e) := by
  rw [List.take_add_one, h, List.any_append]
  simp
theorem frE_ok {a b : De} (ha : bad a = false) (hb : bad b = false) : frE a b = 0 := by unfold frE; rw [ha, hb]; rfl
theorem frB_ok {a b : De} (ha : bad a = false) (hb : bad b = false) : frB a b = fr a b := by unfold frB; rw [ha, hb]; rfl

set_option maxHeartbeats 12800000 in
set_option maxRecDepth 100000 in
theorem fresh_walk (CA : AliveOk) (DM : MergeOk) (DK : CheckOk) {w : World} {nc cc nl cl : Nat} {Ac Al : Option Addr} {k l : List De} (o p : Int) (hc : Ds w w.heap.size Ac nc cc k) (hl : Ds w w.heap.size Al nl cl l) :
    Calls Try.prog 6 #[cav o p (.slice Ac nc cc), .slice Al nl cl] w fun e w' => e = .returned (.bool true) ∧ Below w.heap.size w w' := by
  have mixed : Try.prog.follows .mixedOrders = true := by kernel_rfl
  have HL := hid hc.len
  have HM := hid hl.len
  have hcap := hc.cap
  have hcap2 := hl.cap
  obtain ⟨W0, hW⟩ : ∃ W, W = w.alloc (.cells #[.int .i64 o, .int .i64 p, .slice Ac nc cc] 24) := ⟨_, rfl⟩
  have B0 := hid (show Below w.heap.size w W0 from hW ▸ (Below.refl _ w).alloc (Nat.le_refl _) _)
  have X0 := hid (show Cbox W0 w.heap.size o p (.slice Ac nc cc) from hW ▸ heap_alloc_new w _)
  have D0 := hid ((hc.below B0.out).mono B0.out.size)
  have Dl := hid ((hl.below B0.out).mono B0.out.size)
  have HW := hid hW
  clear hW hc hl
  unfold cav
  by_cases h60 : 60 < nl
  · have hz : (nl : Int) > 60 := by omega
    go_enter Try.func6, Try.ntmps6
    go_upto_region 1 with fail
    rw [← HW.out]
    go_wp2_with fail
    refine (CA _).mono ?_
    rintro e w1 ⟨rfl, hb⟩
    go_wp2
    go_ret
    exact ⟨rfl, B0.out.trans (hb.out.mono B0.out.size)⟩
  have hz : ¬ (nl : Int) > 60 := by omega
  obtain ⟨x, hx⟩ : ∃ x, x = mgE o p k l := ⟨_, rfl⟩
  by_cases hx0 : x = 0
  case neg =>
    obtain ⟨e1, e2, e3⟩ := mg_bad hx.symm hx0
    have He := hid (And.intro hx.symm (And.intro e1 (And.intro e2 e3)))
    clear hx e1 e2 e3
    go_enter Try.func6, Try.ntmps6
    go_upto_region 1 with fail
    rw [← HW.out]
    clear HW
    go_wp2_with fail
    refine (CA _).mono ?_
    rintro e w1 ⟨rfl, Bn⟩
    have X0' := hid (X0.out.below Bn.out X0.out.lt)
    clear X0
    have X0 := X0'
    clear X0'
    have D0' := hid ((D0.out.below Bn.out).mono Bn.out.size)
    clear D0
    have D0 := D0'
    clear D0'
    have Dl' := hid ((Dl.out.below Bn.out).mono Bn.out.size)
    clear Dl
    have Dl := Dl'
    clear Dl'
    have B1 := hid (B0.out.trans (Bn.out.mono B0.out.size))
    clear B0
    clear Bn
    have x2_0 := X0.out.c0
    have x2_1 := X0.out.c1
    have x2_2 := X0.out.c2
    have hM2 := hid (DM w1 o p _ _ _ _ _ _ _ _ _ _ D0.out Dl.out (Nat.le_refl _) (Nat.le_refl _))
    rw [He.out.1, He.out.2.1, He.out.2.2.1, He.out.2.2.2] at hM2
    unfold cav at hM2
    go_wp2_with fail
    refine hM2.out.mono ?_
    rintro e w2 ⟨A2, n2, c2, rfl, hv2⟩
    clear hM2 x2_0 x2_1 x2_2
    go_upto_region 5 with fail
    have Bn2 := hid (hv2.out.2.1.alloc hv2.out.2.1.size (.cells #[.int .i64 0, .int .i64 0, .slice A2 n2 c2] 24))
    have X2 := hid (show Cbox (w2.alloc (.cells #[.int .i64 0, .int .i64 0, .slice A2 n2 c2] 24)) w2.heap.size 0 0 (.slice A2 n2 c2) from heap_alloc_new w2 _)
    have D2 := hid ((hv2.out.1.below ((Below.refl w2.heap.size w2).alloc (Nat.le_refl _) (.cells #[.int .i64 0, .int .i64 0, .slice A2 n2 c2] 24))).mono (by simp : w2.heap.size ≤ (w2.alloc (.cells #[.int .i64 0, .int .i64 0, .slice A2 n2 c2] 24)).heap.size))
    clear hv2
    generalize w2.alloc (.cells #[.int .i64 0, .int .i64 0, .slice A2 n2 c2] 24) = W2 at Bn2 X2 D2 ⊢
    have X0' := hid (X0.out.below Bn2.out X0.out.lt)
    clear X0
    have X0 := X0'
    clear X0'
    have D0' := hid ((D0.out.below Bn2.out).mono Bn2.out.size)
    clear D0
    have D0 := D0'
    clear D0'
    have Dl' := hid ((Dl.out.below Bn2.out).mono Bn2.out.size)
    clear Dl
    have Dl := Dl'
    clear Dl'
    have B3 := hid (B1.out.trans (Bn2.out.mono B1.out.size))
    clear B1
    clear Bn2
    have hn0 := D2.out.len
    have hc2 := X2.out.c2
    obtain rfl : n2 = 0 := by simpa using hn0.symm
    clear hn0
    go_wp2_with fail
    go_ret
    exact ⟨rfl, B3.out⟩
  subst hx0
  obtain ⟨z1, z2, z3⟩ := mg_zero hx.symm
  obtain ⟨_, a2, a3, a4⟩ := mg_good z1 z2 z3
  have y1 := cmay_tkn z1 z2
  obtain ⟨r, hr⟩ : ∃ r, r = tkn o p.toNat k l := ⟨_, rfl⟩
  have hr6 : r.length ≤ 6 := by rw [hr]; exact tkn_len z1
  have hk0 : cchk o p r = 0 := by unfold cchk; rw [hr, if_pos y1]
  obtain ⟨s, hs⟩ : ∃ s, s = k ++ l := ⟨_, rfl⟩
  have hbad : Hid (∀ d, d ∈ s → bad d = false) := hid (fun d hd => by
    obtain ⟨_, _, _, _, _, h6, _⟩ := z1
    rw [hs] at hd
    rcases List.mem_append.1 hd with h | h
    · simpa using List.any_eq_false.1 (chk_zero.1 h6).2 d h
    · simpa using List.any_eq_false.1 (chk_zero.1 z2).2 d h)
  have hbadr : Hid (∀ d, d ∈ r → bad d = false) := hid (fun d hd => hbad.out d (hs ▸ tkn_mem (hr ▸ hd)))
  have HT : Hid (∀ d, d ∈ s → d.1 ≠ o → r.any (keeps d) = false → (r.length : Int) = p ∧ ∀ x, x ∈ r → fr d x = false) := hid (fun d hd hne hn => by
    obtain ⟨h1, h2⟩ := tkn_out (own := o) (cap := p.toNat) (l := k) (m := l) (hs ▸ hd) hne (fun x hx hi => by
      have h3 := List.any_eq_false.1 hn x (hr ▸ hx)
      unfold keeps at h3
      rw [show (x.1 == d.1) = true by simpa using hi] at h3
      simp at h3
      exact h3)
    obtain ⟨_, _, h3, _⟩ := z1
    rw [← hr] at h1 h2
    exact ⟨by omega, h2⟩)
  have hp1 : 1 ≤ p := z1.2.2.1
  have hsl : Hid (s.length = nc + nl) := hid (by rw [hs, List.length_append, HL.out, HM.out])
  have hk6 := may_len z1
  have hkl : nc + nl ≤ 100 := by have := HL.out; omega
  rw [← hr] at a4
  have He := hid (And.intro hx.symm (And.intro a2 (And.intro a3 a4)))
  have Hk := hid hk0
  have HS := hid hs
  clear hx z1 z2 z3 a2 a3 a4 y1 hr hk0 hs hk6
  go_enter Try.func6, Try.ntmps6
  go_upto_region 1 with fail
  rw [← HW.out]
  clear HW
  go_wp2_with fail
  refine (CA _).mono ?_
  rintro e w1 ⟨rfl, Bn⟩
  have X0' := hid (X0.out.below Bn.out X0.out.lt)
  clear X0
  have X0 := X0'
  clear X0'
  have D0' := hid ((D0.out.below Bn.out).mono Bn.out.size)
  clear D0
  have D0 := D0'
  clear D0'
  have Dl' := hid ((Dl.out.below Bn.out).mono Bn.out.size)
  clear Dl
  have Dl := Dl'
  clear Dl'
  have B4 := hid (B0.out.trans (Bn.out.mono B0.out.size))
  clear B0
  clear Bn
  have x2_0 := X0.out.c0
  have x2_1 := X0.out.c1
  have x2_2 := X0.out.c2
  have hM5 := hid (DM w1 o p _ _ _ _ _ _ _ _ _ _ D0.out Dl.out (Nat.le_refl _) (Nat.le_refl _))
  rw [He.out.1, He.out.2.1, He.out.2.2.1, He.out.2.2.2] at hM5
  unfold cav at hM5
  go_wp2_with fail
  refine hM5.out.mono ?_
  rintro e w5 ⟨A5, n5, c5, rfl, hv5⟩
  clear hM5 x2_0 x2_1 x2_2
  go_upto_region 5 with fail
  have Bn5 := hid (hv5.out.2.1.alloc hv5.out.2.1.size (.cells #[.int .i64 o, .int .i64 p, .slice A5 n5 c5] 24))
  have X5 := hid (show Cbox (w5.alloc (.cells #[.int .i64 o, .int .i64 p, .slice A5 n5 c5] 24)) w5.heap.size o p (.slice A5 n5 c5) from heap_alloc_new w5 _)
  have D5 := hid ((hv5.out.1.below ((Below.refl w5.heap.size w5).alloc (Nat.le_refl _) (.cells #[.int .i64 o, .int .i64 p, .slice A5 n5 c5] 24))).mono (by simp : w5.heap.size ≤ (w5.alloc (.cells #[.int .i64 o, .int .i64 p, .slice A5 n5 c5] 24)).heap.size))
  clear hv5
  generalize w5.alloc (.cells #[.int .i64 o, .int .i64 p, .slice A5 n5 c5] 24) = W5 at Bn5 X5 D5 ⊢
  have X0' := hid (X0.out.below Bn5.out X0.out.lt)
  clear X0
  have X0 := X0'
  clear X0'
  have D0' := hid ((D0.out.below Bn5.out).mono Bn5.out.size)
  clear D0
  have D0 := D0'
  clear D0'
  have Dl' := hid ((Dl.out.below Bn5.out).mono Bn5.out.size)
  clear Dl
  have Dl := Dl'
  clear Dl'
  have B6 := hid (B4.out.trans (Bn5.out.mono B4.out.size))
  clear B4
  clear Bn5
  have x2_0 := X0.out.c0
  have x2_1 := X0.out.c1
  have x2_2 := X0.out.c2
  have x6_0 := X5.out.c0
  have x6_1 := X5.out.c1
  have x6_2 := X5.out.c2
  have hK := hid (DK W5 o p _ _ _ _ _ D5.out (Nat.le_refl _))
  rw [Hk.out] at hK
  unfold cav at hK
  go_wp2_with fail
  refine hK.out.mono ?_
  rintro e w97 ⟨rfl, Bm⟩
  clear hK x2_0 x2_1 x2_2 x6_0 x6_1 x6_2
  have X0' := hid (X0.out.below Bm.out X0.out.lt)
  clear X0
  have X0 := X0'
  clear X0'
  have X5' := hid (X5.out.below Bm.out X5.out.lt)
  clear X5
  have X5 := X5'
  clear X5'
  have D0' := hid ((D0.out.below Bm.out).mono Bm.out.size)
  clear D0
  have D0 := D0'
  clear D0'
  have D5' := hid ((D5.out.below Bm.out).mono Bm.out.size)
  clear D5
  have D5 := D5'
  clear D5'
  have Dl' := hid ((Dl.out.below Bm.out).mono Bm.out.size)
  clear Dl
  have Dl := Dl'
  clear Dl'
  have B7 := hid (B6.out.trans (Bm.out.mono B6.out.size))
  clear B6
  clear Bm
  have x2_0 := X0.out.c0
  have x2_1 := X0.out.c1
  have x2_2 := X0.out.c2
  have x6_0 := X5.out.c0
  have x6_1 := X5.out.c1
  have x6_2 := X5.out.c2
  have HE := hid (od_at (heap_alloc_new w97 (.cells #[] 29)) (Nat.le_refl w97.heap.size))
  have F1 := hid (D0.out.below ((Below.refl _ w97).alloc (Nat.le_refl _) (.cells #[] 29)))
  have F2 := hid (Dl.out.below ((Below.refl _ w97).alloc (Nat.le_refl _) (.cells #[] 29)))
  have hsz := hid (show w97.heap.size ≤ (w97.alloc (.cells #[] 29)).heap.size by simp)
  have xe := (X0.out.alloc (.cells #[] 29)).c2
  go_upto_region 10 with (first | (at_builtin; refine list_appD rfl (.tmp 55) (.tmp 57) rfl (v := .slice (some ⟨w97.heap.size, 0, none⟩) 0 0) (B := w97.heap.size) (l := []) (r := k) rfl rfl HE.out F1.out (by simp only [List.length_nil]; omega) hsz.out ?_; intro v58 w58 HT1) | (at_builtin; refine list_appD rfl (.tmp 58) (.tmp 59) rfl (v := v58) (B := w97.heap.size) (l := [] ++ k) (r := l) rfl rfl HT1.out.own (F2.out.below ((HT1.out.below (own_new (Nat.le_refl _)) hsz.out))) (by have := HL.out; simp only [List.nil_append]; omega) (Nat.le_trans hsz.out HT1.out.grown.size) ?_; intro v60 w60 HT2) | fail)
  have BX := hid (((Below.refl w97.heap.size w97).alloc (Nat.le_refl _) (.cells #[] 29)).trans ((HT1.out.below (own_new (Nat.le_refl _)) hsz.out).trans (HT2.out.below (fun k hk => (own_lt HT1.out.own k hk).1) (Nat.le_trans hsz.out HT1.out.grown.size))))
  have HO60 : Hid (Od w60 w97.heap.size v60 s) := hid (by rw [HS.out]; have := HT2.out.own; rwa [List.nil_append] at this)
  clear HT1 HT2 HE F1 F2 hsz xe x2_0 x2_1 x2_2 x6_0 x6_1 x6_2
  obtain ⟨A60, c60, hv60, hD60, _, _⟩ := HO60.out.form
  rw [hsl.out] at hv60 hD60
  obtain ⟨N, hN⟩ : ∃ N, N = nc + nl := ⟨_, rfl⟩
  rw [← hN] at hv60 hD60
  subst hv60
  have hcs := hD60.cap
  have DS60 := hid hD60
  have hN100 : N ≤ 100 := by omega
  clear hD60 HO60 hN hsl
  have X0' := hid (X0.out.below BX.out X0.out.lt)
  clear X0
  have X0 := X0'
  clear X0'
  have X5' := hid (X5.out.below BX.out X5.out.lt)
  clear X5
  have X5 := X5'
  clear X5'
  have D0' := hid ((D0.out.below BX.out).mono BX.out.size)
  clear D0
  have D0 := D0'
  clear D0'
  have D5' := hid ((D5.out.below BX.out).mono BX.out.size)
  clear D5
  have D5 := D5'
  clear D5'
  have Dl' := hid ((Dl.out.below BX.out).mono BX.out.size)
  clear Dl
  have Dl := Dl'
  clear Dl'
  have B8 := hid (B7.out.trans (BX.out.mono B7.out.size))
  clear B7
  clear BX
  have hnr := D5.out.len
  have hcapr := D5.out.cap
  have HNR := hid hnr
  have hr6' : n5 ≤ 6 := by omega
  clear hnr
  go_wp2_with fail
  go_loopg [9, 10, 11, 12, 13] N (fun gg s9 _ _ _ _ wr => ∃ j : Nat, j ≤ N ∧ N - j ≤ gg ∧ s9 = .int .i64 j ∧ Hid (Below w60.heap.size w60 wr))
  case atStart => exact ⟨0, Nat.zero_le _, by omega, rfl, hid (Below.refl _ _)⟩
  case round =>
    obtain ⟨j, hj, hg, rfl, BW⟩ := hrel
    by_cases hlt : j < N
    case neg =>
      have hltz : ¬ (j : Int) < (N : Int) := by omega
      obtain rfl : j = N := by omega
      go_wp2
      go_ret
      exact ⟨rfl, B8.out.trans (BW.out.mono B8.out.size)⟩
    have hltz : (j : Int) < (N : Int) := by omega
    have x2_0 := (X0.out.below BW.out X0.out.lt).c0
    have x2_1 := (X0.out.below BW.out X0.out.lt).c1
    have x6_2 := (X5.out.below BW.out X5.out.lt).c2
    obtain ⟨d, hd⟩ := DS60.out.get hlt
    obtain ⟨b, off, hAb, hbB, hcc⟩ := (DS60.out.below BW.out).at_ (by omega)
    subst hAb
    obtain ⟨c1, c2⟩ := hcc j d hd
    have HD := hid (List.mem_of_getElem? hd)
    clear hcc hd
    obtain ⟨d1, d2⟩ := d
    change wr.cell? ⟨b, off + j * 2, none⟩ = some (.int .i64 d1) at c1
    change wr.cell? ⟨b, off + j * 2 + 1, none⟩ = some (.int .i64 d2) at c2
    obtain ⟨q0, hq0⟩ : ∃ q, (d1 == o) = q := ⟨_, rfl⟩
    obtain ⟨q, hq⟩ : ∃ q, q = (q0 || r.any (keeps (d1, d2))) := ⟨_, rfl⟩
    go_upto_region 13 with fail
    go_quiet (fail)
    go_upto_block 2 with fail
    have hbw := Nat.lt_of_lt_of_le hbB BW.out.size
    go_cut [10, 11] from 75 to 107 (fun s10 _ wx => s10 = .bool q ∧ Hid (Below wr.heap.size wr wx))
    case first =>
      have HQ := hid hq
      clear hq
      go_wp2_with fail
      go_loopg [10, 11] n5 (fun gg s10 s11 wx => ∃ i : Nat, i ≤ n5 ∧ n5 - i ≤ gg ∧ s11 = .int .i64 i ∧ s10 = .bool (q0 || (r.take i).any (keeps (d1, d2))) ∧ Hid (Below wr.heap.size wr wx))
      case atStart => exact ⟨0, Nat.zero_le _, by omega, rfl, by simp, hid (below_drewN (Below.refl _ wr) _)⟩
      case round =>
        obtain ⟨i, hi, hg2, rfl, rfl, BZ⟩ := hrel
        have BWZ := hid (BW.out.trans (BZ.out.mono BW.out.size))
        clear x2_0 x2_1 x6_2
        have x6_2 := (X5.out.below BWZ.out X5.out.lt).c2
        by_cases hin : i < n5
        case neg =>
          have hinz : ¬ (i : Int) < (n5 : Int) := by omega
          have hE : (q0 || (r.take i).any (keeps (d1, d2))) = q := by
            rw [HQ.out, List.take_of_length_le (by rw [HNR.out]; omega)]
          rw [hE]
          go_wp2
          go_meet
          exact ⟨rfl, BZ⟩
        have hinz : (i : Int) < (n5 : Int) := by omega
        obtain ⟨e, he⟩ := D5.out.get hin
        obtain ⟨b', off', hAb', hbB', hcc'⟩ := (D5.out.below BWZ.out).at_ (by omega)
        subst hAb'
        obtain ⟨g1, g2⟩ := hcc' i e he
        have HN := hid (any_next (P := keeps (d1, d2)) he)
        have k1 := (BZ.out.cell (p := ⟨b, off + j * 2, none⟩) hbw).trans c1
        have k2 := (BZ.out.cell (p := ⟨b, off + j * 2 + 1, none⟩) hbw).trans c2
        clear hcc' he c1 c2
        obtain ⟨e1, e2⟩ := e
        by_cases h1 : e1 = d1
        · by_cases h2 : e2 ≥ d2
          · have hP : Hid ((q0 || (r.take (i + 1)).any (keeps (d1, d2))) = true) := hid (by rw [HN.out]; unfold keeps; simp [h1]; omega)
            subst h1
            clear HN
            go_wp2_with fail
            go_quiet (fail)
            go_wp2
            go_roundg (n5 - (i + 1))
            case measure => omega
            case rel => exact ⟨i + 1, by omega, by omega, by go_num, congrArg Value.bool hP.out.symm, hid (below_drewN BZ.out _)⟩
          · have hP : Hid ((q0 || (r.take (i + 1)).any (keeps (d1, d2))) = (q0 || (r.take i).any (keeps (d1, d2)))) := hid (by rw [HN.out, show keeps (d1, d2) (e1, e2) = false from by unfold keeps; simp; omega, Bool.or_false])
            subst h1
            clear HN
            go_wp2_with fail
            go_quiet (fail)
            go_wp2
            go_roundg (n5 - (i + 1))
            case measure => omega
            case rel => exact ⟨i + 1, by omega, by omega, by go_num, congrArg Value.bool hP.out.symm, hid (below_drewN BZ.out _)⟩
        · have hP : Hid ((q0 || (r.take (i + 1)).any (keeps (d1, d2))) = (q0 || (r.take i).any (keeps (d1, d2)))) := hid (by rw [HN.out, show keeps (d1, d2) (e1, e2) = false from by unfold keeps; simp [h1], Bool.or_false])
          clear HN
          go_wp2_with fail
          go_quiet (fail)
          go_wp2
          go_roundg (n5 - (i + 1))
          case measure => omega
          case rel => exact ⟨i + 1, by omega, by omega, by go_num, congrArg Value.bool hP.out.symm, hid (below_drewN BZ.out _)⟩
    case rest =>
      obtain ⟨rfl, BZ⟩ := hcut
      have BWc := hid (BW.out.trans (BZ.out.mono BW.out.size))
      have HQ := hid hq
      clear hq x2_0 x2_1 x6_2
      cases q with
      | true =>
        go_wp2
        go_roundg (N - (j + 1))
        case measure => omega
        case rel => exact ⟨j + 1, by omega, by omega, by go_num, BWc⟩
      | false =>
        have hq1 : q0 = false := by
          have h1 := HQ.out
          cases q0 with
          | true => simp at h1
          | false => rfl
        have hq2 : r.any (keeps (d1, d2)) = false := by
          have h1 := HQ.out
          rw [hq1] at h1
          simpa using h1.symm
        have hdo : d1 ≠ o := by
          rw [hq1] at hq0
          simpa using hq0
        obtain ⟨hrp, hfr⟩ := HT.out (d1, d2) HD.out hdo hq2
        rw [HNR.out] at hrp
        have hn1 : 1 ≤ n5 := by omega
        obtain ⟨m, hm⟩ : ∃ m, n5 = m + 1 := ⟨n5 - 1, by omega⟩
        obtain ⟨e, he⟩ := D5.out.get (show m < n5 by omega)
        obtain ⟨b', off', hAb', hbB', hcc'⟩ := (D5.out.below BWc.out).at_ (by omega)
        subst hAb'
        obtain ⟨g1, g2⟩ := hcc' m e he
        have CR := hid (fun X : World => dFresher_any (d1, d2) e X)
        rw [frE_ok (hbad.out _ HD.out) (hbadr.out _ (List.mem_of_getElem? he)), frB_ok (hbad.out _ HD.out) (hbadr.out _ (List.mem_of_getElem? he)), hfr e (List.mem_of_getElem? he)] at CR
        have k1 := (BZ.out.cell (p := ⟨b, off + j * 2, none⟩) hbw).trans c1
        have k2 := (BZ.out.cell (p := ⟨b, off + j * 2 + 1, none⟩) hbw).trans c2
        have hw1 : IntKind.i64.wrap ((n5 : Int) - 1) = (m : Int) := by rw [IntKind.wrap_i64]; omega
        have hm0 : (0 : Int) ≤ (m : Int) := by omega
        have hmn : (m : Int) < (n5 : Int) := by omega
        have hnp : ¬ (n5 : Int) < p := by omega
        have hnz : ((n5 : Int) == 0) = false := by simp; omega
        obtain ⟨e1, e2⟩ := e
        change wc.cell? ⟨b', off' + m * 2, none⟩ = some (.int .i64 e1) at g1
        change wc.cell? ⟨b', off' + m * 2 + 1, none⟩ = some (.int .i64 e2) at g2
        change Hid (∀ X, Calls Try.prog _ #[.agg #[.int .i64 d1, .int .i64 d2], .agg #[.int .i64 e1, .int .i64 e2]] X _) at CR
        have x2_1 := (X0.out.below BWc.out X0.out.lt).c1
        have x6 := hid (X5.out.below BWc.out X5.out.lt)
        have x6_2 := x6.out.c2
        have hb1 := Nat.lt_of_lt_of_le hbw BZ.out.size
        have hb2 := Nat.lt_of_lt_of_le hbB' BWc.out.size
        have CG := hid (fun X (hb : Below wc.heap.size wc X) => And.intro (x6.out.below hb x6.out.lt).c2 (And.intro ((hb.cell (p := ⟨b, off + j * 2, none⟩) hb1).trans k1) (And.intro ((hb.cell (p := ⟨b, off + j * 2 + 1, none⟩) hb1).trans k2) (And.intro ((hb.cell (p := ⟨b', off' + m * 2, none⟩) hb2).trans g1) ((hb.cell (p := ⟨b', off' + m * 2 + 1, none⟩) hb2).trans g2)))))
        have HBz : Hid (Below wc.heap.size wc wc.drew) := hid (Below.refl wc.heap.size wc).drew
        clear hq2 hdo hfr hrp hm he hcc' c1 c2 hq0 hq1 hn1
        go_upto_region 22 with fail
        clear k1 k2 g1 g2 x2_1 x6_2
        go_region_held3 (fun X => X.cell? ⟨w5.heap.size, 2, none⟩ = some (.slice (some ⟨b', off', none⟩) n5 c5) ∧ X.cell? ⟨b, off + j * 2, none⟩ = some (.int .i64 d1) ∧ X.cell? ⟨b, off + j * 2 + 1, none⟩ = some (.int .i64 d2) ∧ X.cell? ⟨b', off' + m * 2, none⟩ = some (.int .i64 e1) ∧ X.cell? ⟨b', off' + m * 2 + 1, none⟩ = some (.int .i64 e2))
          (exact CG.out _ HBz.out)
          (first
          | (go_at_call 24
             with_reducible refine (CR.out _).mono ?_
             rintro e' w' ⟨rfl, hb⟩
             have HBz := hid (HBz.out.trans (hb.out.mono HBz.out.size))))
        all_goals
          go_wp2
          go_roundg (N - (j + 1))
          case measure => omega
          case rel => exact ⟨j + 1, by omega, by omega, by go_num, hid (BWc.out.trans (HBz.out.mono BWc.out.size))⟩
end Go.Proofs.Ythklhhgkklpbkaa
