/- DescBest, walked: its loops, and the law. -/
import Derived.Test.YtelalanhalbicaaKord
namespace Go.Proofs.Ytelalanhalbicaa
open Go.RowKit Go.Shelf Go.Lib

theorem bst_le (l : List De) : (bst l).length ≤ l.length := by
  unfold bst
  split
  · exact top_length_le l
  · exact Nat.zero_le _
theorem empty_new (w : World) {B : Nat} (hB : B ≤ w.heap.size) : Od (w.alloc (.cells #[] 26)) B (.slice (some ⟨w.heap.size, 0, none⟩) 0 0) [] := od_at (heap_alloc_new w _) hB

set_option maxHeartbeats 6400000 in
set_option maxRecDepth 100000 in
theorem bes_walk {w : World} {n c m d : Nat} {A D : Option Addr} {l r : List De} (h : Ds w w.heap.size A n c l) (k : Ds w w.heap.size D m d r) :
    Calls Try.prog 6 #[.slice A n c, .slice D m d] w fun e w' => e = .returned (.bool true) ∧ Below w.heap.size w w' := by
  have mixed : Try.prog.follows .mixedOrders = true := by kernel_rfl
  have CA := hid (alive_any w)
  have H := hid h
  have K := hid k
  have hm := h.max
  have hm2 := k.max
  have hcap := h.cap
  have hcap2 := k.cap
  have HL := hid h.len
  have HR := hid k.len
  clear h k
  by_cases hbig : 64 < n
  case pos =>
    have hz : (64 : Int) < (n : Int) := by omega
    go_enter Try.func6, Try.ntmps6
    go_wp2_with fail
    refine CA.out.mono ?_
    rintro e w1 ⟨rfl, hb1⟩
    go_wp2
    go_ret
    exact ⟨rfl, hb1.out⟩
  have hz : ¬ (64 : Int) < (n : Int) := by omega
  have hs : IntKind.i64.wrap (64 - (n : Int)) = ((64 - n : Nat) : Int) := by rw [IntKind.wrap_i64]; omega
  by_cases hbig2 : 64 - n < m
  case pos =>
    have hz2 : ((64 - n : Nat) : Int) < (m : Int) := by omega
    generalize 64 - n = p at hs hz2
    go_enter Try.func6, Try.ntmps6
    go_wp2_with fail
    refine CA.out.mono ?_
    rintro e w1 ⟨rfl, hb1⟩
    go_wp2
    go_ret
    exact ⟨rfl, hb1.out⟩
  have hz2 : ¬ ((64 - n : Nat) : Int) < (m : Int) := by omega
  have hnm : n + m ≤ 64 := by omega
  obtain ⟨p, hp⟩ : ∃ p, p = 64 - n := ⟨_, rfl⟩
  rw [← hp] at hs hz2
  clear hp hbig hbig2
  have HNM := hid hnm
  obtain ⟨e1, he1⟩ : ∃ e, e = chk (l ++ r) := ⟨_, rfl⟩
  obtain ⟨X1, hX1⟩ : ∃ e, e = bst (l ++ r) := ⟨_, rfl⟩
  obtain ⟨Y1, hY1⟩ : ∃ e, e = bst (r ++ l) := ⟨_, rfl⟩
  obtain ⟨g1, hg1⟩ : ∃ e, e = chk X1 := ⟨_, rfl⟩
  obtain ⟨Z1, hZ1⟩ : ∃ e, e = bst X1 := ⟨_, rfl⟩
  obtain ⟨h1, hh1⟩ : ∃ e, e = chk l := ⟨_, rfl⟩
  obtain ⟨P1, hP1⟩ : ∃ e, e = bst l := ⟨_, rfl⟩
  obtain ⟨i1, hi1⟩ : ∃ e, e = chk (P1 ++ r) := ⟨_, rfl⟩
  obtain ⟨Q1, hQ1⟩ : ∃ e, e = bst (P1 ++ r) := ⟨_, rfl⟩
  have HP := hid (show P1.length ≤ n by rw [hP1, ← HL.out]; exact bst_le l)
  have HN1 := hid (show (l ++ r).length = n + m by rw [List.length_append, HL.out, HR.out])
  have HN2 := hid (show (r ++ l).length = n + m by rw [List.length_append, HL.out, HR.out, Nat.add_comm])
  have HE1 := hid he1
  have HX1 := hid hX1
  have HY1 := hid hY1
  have HG1 := hid hg1
  have HZ1 := hid hZ1
  have HH1 := hid hh1
  have HP1 := hid hP1
  have HI1 := hid hi1
  have HQ1 := hid hQ1
  obtain ⟨N, hN⟩ : ∃ N, n + m = N := ⟨_, rfl⟩
  have HNN := hid hN
  rw [hN] at HN1 HN2
  clear he1 hX1 hY1 hg1 hZ1 hh1 hP1 hi1 hQ1 hnm hN
  go_enter Try.func6, Try.ntmps6
  go_wp2_with fail
  refine CA.out.mono ?_
  rintro e w1 ⟨rfl, hb1⟩
  have Bw1 := hid hb1.out
  clear hb1
  have HE := hid (empty_new w1 (Nat.le_refl _))
  have F1 := hid ((H.out.below Bw1.out).below ((Below.refl _ w1).alloc (by first | exact Bw1.out.size | exact Nat.le_refl _) (.cells #[] 26)))
  have F2 := hid ((K.out.below Bw1.out).below ((Below.refl _ w1).alloc (by first | exact Bw1.out.size | exact Nat.le_refl _) (.cells #[] 26)))
  have hsz := hid (show w1.heap.size ≤ (w1.alloc (.cells #[] 26)).heap.size by simp)
  go_upto_region 5 with (first | (at_builtin; refine list_appD rfl (.tmp 38) (.tmp 39) rfl (v := .slice (some ⟨w1.heap.size, 0, none⟩) 0 0) (B := w1.heap.size) (l := []) (r := l) rfl rfl HE.out F1.out (by have := HNM.out; simp only [List.length_nil]; omega) hsz.out ?_; intro v40 w40 HT1) | (at_builtin; refine list_appD rfl (.tmp 40) (.tmp 41) rfl (v := v40) (B := w1.heap.size) (l := [] ++ l) (r := r) rfl rfl HT1.out.own (F2.out.below (HT1.out.below (own_new (Nat.le_refl _)) hsz.out |>.mono Bw1.out.size)) (by have := HNM.out; have := HL.out; simp only [List.nil_append]; omega) (Nat.le_trans hsz.out HT1.out.grown.size) ?_; intro v42 w42 HT2) | fail)
  have Cw42 := hid (((Below.refl w1.heap.size w1).alloc (Nat.le_refl _) (.cells #[] 26)).trans ((HT1.out.below (own_new (Nat.le_refl _)) hsz.out).trans (HT2.out.below (fun k hk => (own_lt HT1.out.own k hk).1) (Nat.le_trans hsz.out HT1.out.grown.size))))
  have Bw42 := hid (Bw1.out.trans (Cw42.out.mono Bw1.out.size))
  have Ov42 := hid HT2.out.own
  rw [List.nil_append] at Ov42
  clear HT1 HT2 HE F1 F2 hsz
  have HE := hid (empty_new w42 (Nat.le_refl _))
  have F1 := hid ((K.out.below Bw42.out).below ((Below.refl _ w42).alloc (by first | exact Bw42.out.size | exact Nat.le_refl _) (.cells #[] 26)))
  have F2 := hid ((H.out.below Bw42.out).below ((Below.refl _ w42).alloc (by first | exact Bw42.out.size | exact Nat.le_refl _) (.cells #[] 26)))
  have hsz := hid (show w42.heap.size ≤ (w42.alloc (.cells #[] 26)).heap.size by simp)
  go_upto_region 6 with (first | (at_builtin; refine list_appD rfl (.tmp 43) (.tmp 44) rfl (v := .slice (some ⟨w42.heap.size, 0, none⟩) 0 0) (B := w42.heap.size) (l := []) (r := r) rfl rfl HE.out F1.out (by have := HNM.out; simp only [List.length_nil]; omega) hsz.out ?_; intro v45 w45 HT1) | (at_builtin; refine list_appD rfl (.tmp 45) (.tmp 46) rfl (v := v45) (B := w42.heap.size) (l := [] ++ r) (r := l) rfl rfl HT1.out.own (F2.out.below (HT1.out.below (own_new (Nat.le_refl _)) hsz.out |>.mono Bw42.out.size)) (by have := HNM.out; have := HR.out; simp only [List.nil_append]; omega) (Nat.le_trans hsz.out HT1.out.grown.size) ?_; intro v47 w47 HT2) | fail)
  have Cw47 := hid (((Below.refl w42.heap.size w42).alloc (Nat.le_refl _) (.cells #[] 26)).trans ((HT1.out.below (own_new (Nat.le_refl _)) hsz.out).trans (HT2.out.below (fun k hk => (own_lt HT1.out.own k hk).1) (Nat.le_trans hsz.out HT1.out.grown.size))))
  have Bw47 := hid (Bw42.out.trans (Cw47.out.mono Bw42.out.size))
  have Ov47 := hid HT2.out.own
  rw [List.nil_append] at Ov47
  clear HT1 HT2 HE F1 F2 hsz
  obtain ⟨A6, c6, rfl, D6, _, _⟩ := (Ov42.out.below Cw47.out).form
  obtain ⟨A7, c7, rfl, D7, _, _⟩ := Ov47.out.form
  rw [HN1.out] at D6 ⊢
  rw [HN2.out] at D7 ⊢
  have D6 := hid D6
  have D7 := hid D7
  clear Ov42 Ov47
  have C1 := hid (best_any D6.out (Nat.le_refl _))
  rw [← HE1.out, ← HX1.out] at C1
  go_wp2_with fail
  refine C1.out.mono ?_
  rintro e y1 ⟨vx, rfl, hx⟩
  have By1 := hid (Bw47.out.trans (hx.out.2.mono Bw47.out.size))
  have Ox := hid hx.out.1
  replace D6 := hid (D6.out.below hx.out.2)
  replace D7 := hid (D7.out.below hx.out.2)
  have S1 := hid hx.out.2.size
  clear hx C1
  have C2 := hid (best_any D7.out S1.out)
  rw [chk_swap l r, ← HE1.out, ← HY1.out] at C2
  go_wp2_with fail
  refine C2.out.mono ?_
  rintro e y2 ⟨vy, rfl, hy⟩
  have By2 := hid (By1.out.trans (hy.out.2.mono By1.out.size))
  have Oy := hid hy.out.1
  replace Ox := hid (Ox.out.below hy.out.2)
  replace D6 := hid (D6.out.below (hy.out.2.mono S1.out))
  replace S1 := hid (Nat.le_trans S1.out hy.out.2.size)
  clear hy C2 D7
  obtain ⟨Ax, cx, rfl, Dx, _, _⟩ := Ox.out.form
  have C3 := hid (best_any Dx (Nat.le_refl _))
  rw [← HG1.out, ← HZ1.out] at C3
  obtain ⟨nx, hnx⟩ : ∃ nx, nx = X1.length := ⟨_, rfl⟩
  have HNX := hid hnx
  rw [← hnx] at C3 Dx ⊢
  have Dx := hid Dx
  clear hnx Ox
  go_wp2_with fail
  refine C3.out.mono ?_
  rintro e y3 ⟨vz, rfl, hz⟩
  have By3 := hid (By2.out.trans (hz.out.2.mono By2.out.size))
  have Oz := hid hz.out.1
  replace Oy := hid (Oy.out.below hz.out.2)
  replace Dx := hid ((Dx.out.below hz.out.2).mono hz.out.2.size)
  replace D6 := hid ((D6.out.mono S1.out).below hz.out.2)
  replace S1 := hid hz.out.2.size
  clear hz C3
  have C4 := hid (best_any (H.out.below By3.out) By3.out.size)
  rw [← HH1.out, ← HP1.out] at C4
  go_wp2_with fail
  refine C4.out.mono ?_
  rintro e y4 ⟨vp, rfl, hp⟩
  have By4 := hid (By3.out.trans (hp.out.2.mono By3.out.size))
  have Op := hid hp.out.1
  replace Oz := hid (Oz.out.below hp.out.2)
  replace Oy := hid (Oy.out.below hp.out.2)
  replace Dx := hid ((Dx.out.below hp.out.2).mono hp.out.2.size)
  replace D6 := hid ((D6.out.mono S1.out).below hp.out.2)
  replace S1 := hid hp.out.2.size
  clear hp C4
  obtain ⟨Ap, cp, rfl, Dp, _, _⟩ := Op.out.form
  obtain ⟨np, hnp⟩ : ∃ np, np = P1.length := ⟨_, rfl⟩
  have HNP := hid hnp
  rw [← hnp] at Dp ⊢
  clear hnp Op
  have HE := hid (empty_new y4 (Nat.le_refl _))
  have F1 := hid (Dp.below ((Below.refl _ y4).alloc (by first | exact By4.out.size | exact Nat.le_refl _) (.cells #[] 26)))
  have F2 := hid ((K.out.below By4.out).below ((Below.refl _ y4).alloc (by first | exact By4.out.size | exact Nat.le_refl _) (.cells #[] 26)))
  have hsz := hid (show y4.heap.size ≤ (y4.alloc (.cells #[] 26)).heap.size by simp)
  go_wp2_with (first | (at_builtin; refine list_appD rfl (.tmp 69) (.tmp 70) rfl (v := .slice (some ⟨y4.heap.size, 0, none⟩) 0 0) (B := y4.heap.size) (l := []) (r := P1) rfl rfl HE.out F1.out (by have := HNM.out; have := HP.out; have := HNP.out; simp only [List.length_nil]; omega) hsz.out ?_; intro v71 w71 HT1) | (at_builtin; refine list_appD rfl (.tmp 71) (.tmp 72) rfl (v := v71) (B := y4.heap.size) (l := [] ++ P1) (r := r) rfl rfl HT1.out.own (F2.out.below (HT1.out.below (own_new (Nat.le_refl _)) hsz.out |>.mono By4.out.size)) (by have := HNM.out; have := HP.out; simp only [List.nil_append]; omega) (Nat.le_trans hsz.out HT1.out.grown.size) ?_; intro v73 w73 HT2) | fail)
  have Cw73 := hid (((Below.refl y4.heap.size y4).alloc (Nat.le_refl _) (.cells #[] 26)).trans ((HT1.out.below (own_new (Nat.le_refl _)) hsz.out).trans (HT2.out.below (fun k hk => (own_lt HT1.out.own k hk).1) (Nat.le_trans hsz.out HT1.out.grown.size))))
  have Bw73 := hid (By4.out.trans (Cw73.out.mono By4.out.size))
  have Ov73 := hid HT2.out.own
  rw [List.nil_append] at Ov73
  clear HT1 HT2 HE F1 F2 hsz
  obtain ⟨A73, c73, rfl, D73, _, _⟩ := Ov73.out.form
  have C5 := hid (best_any D73 (Nat.le_refl _))
  rw [← HI1.out, ← HQ1.out] at C5
  generalize (P1 ++ r).length = n73 at C5 ⊢
  clear D73 Ov73
  refine C5.out.mono ?_
  rintro e y5 ⟨vq, rfl, hq⟩
  have Cy5 := hid (Cw73.out.trans (hq.out.2.mono Cw73.out.size))
  have By5 := hid (By4.out.trans (Cy5.out.mono By4.out.size))
  have Oq := hid hq.out.1
  replace Oz := hid (Oz.out.below Cy5.out)
  replace Oy := hid (Oy.out.below Cy5.out)
  replace Dx := hid ((Dx.out.below Cy5.out).mono Cy5.out.size)
  replace D6 := hid ((D6.out.mono S1.out).below Cy5.out)
  replace S1 := hid Cy5.out.size
  clear hq C5 Cy5 Cw73 Cw47 Cw42 Bw42 Bw47 Bw73 Dp By1 By2 By3 By4
  obtain ⟨Ay, cy, rfl, Dy, _, _⟩ := Oy.out.form
  obtain ⟨Az, cz, rfl, Dz, _, _⟩ := Oz.out.form
  obtain ⟨Aq, cq, rfl, Dq, _, _⟩ := Oq.out.form
  have Dy := hid Dy
  have Dz := hid Dz
  have Dq := hid Dq
  clear Oy Oz Oq
  generalize hyl : Y1.length = ny at *
  generalize hzl : Z1.length = nz at *
  generalize hql : Q1.length = nq at *
  clear hyl hzl hql
  by_cases h0 : e1 = 0
  case neg =>
    obtain rfl : nx = 0 := by
      rw [HNX.out, HX1.out, show bst (l ++ r) = [] from if_neg (fun e => h0 (HE1.out.trans e))]
      rfl
    clear D6 Dx Dy Dz Dq HNX S1
    go_wp2
    go_ret
    exact ⟨rfl, By5.out⟩
  subst h0
  have hz0 := HE1.out.symm
  have hX : X1 = top (l ++ r) := HX1.out.trans (bst_top hz0)
  obtain rfl : g1 = 0 := by rw [HG1.out, hX]; exact chk_top hz0
  obtain rfl : h1 = 0 := by rw [HH1.out]; exact chk_left hz0
  have hP : P1 = top l := HP1.out.trans (bst_top (chk_left hz0))
  obtain rfl : i1 = 0 := by rw [HI1.out, hP]; exact chk_join hz0
  obtain rfl : Y1 = X1 := by rw [HY1.out, hX, bst_top ((chk_swap l r).trans hz0), top_swap]
  obtain rfl : Z1 = Y1 := by rw [HZ1.out, hX, bst_top (chk_top hz0), top_top]
  obtain rfl : Q1 = Z1 := by rw [HQ1.out, hX, hP, bst_top (chk_join hz0), top_join]
  have HXT := hid hX
  have CS1 := hid (dsame_any Dx.out Dy.out (Nat.le_refl _) (Nat.le_refl _))
  have CS2 := hid (fun X (hb : Below y5.heap.size y5 X) => dsame_any (Dx.out.below hb) (Dz.out.below hb) hb.size hb.size)
  have CS3 := hid (fun X (hb : Below y5.heap.size y5 X) => dsame_any (Dx.out.below hb) (Dq.out.below hb) hb.size hb.size)
  rw [show decide (Q1 = Q1) = true from decide_eq_true rfl] at CS1 CS2 CS3
  clear hX hP hz0 HE1 HX1 HG1 HH1 HP1 HI1 HY1 HZ1 HQ1 Dy Dz Dq
  go_wp2_with fail
  refine CS1.out.mono ?_
  rintro e z1 ⟨rfl, hb1⟩
  go_wp2_with fail
  refine (CS2.out _ hb1.out).mono ?_
  rintro e z2 ⟨rfl, hb2⟩
  have hb2 := hid (hb1.out.trans (hb2.out.mono hb1.out.size))
  go_wp2_with fail
  refine (CS3.out _ hb2.out).mono ?_
  rintro e z3 ⟨rfl, hb3⟩
  have hb3 := hid (hb2.out.trans (hb3.out.mono hb2.out.size))
  replace Dx := hid ((Dx.out.below hb3.out).mono hb3.out.size)
  replace D6 := hid (((D6.out.mono S1.out).below hb3.out).mono hb3.out.size)
  have Bz := hid (By5.out.trans (hb3.out.mono By5.out.size))
  clear CS1 CS2 CS3 hb1 hb2 hb3 S1 CA H K
  have hcx := Dx.out.cap
  have hc6 := D6.out.cap
  have hmx := Dx.out.max
  have hm6 := D6.out.max
  go_wp2
  go_loopg [18, 19, 20] N (fun gg s18 _ _ wr => ∃ kk : Nat, kk ≤ N ∧ N - kk ≤ gg ∧ s18 = .int .i64 kk ∧ Hid (Below z3.heap.size z3 wr))
  case atStart => exact ⟨0, Nat.zero_le _, by omega, rfl, hid (Below.refl _ z3)⟩
  case round =>
    obtain ⟨kk, hkk, hg, rfl, BW⟩ := hrel
    by_cases hlt : kk < N
    case neg =>
      have hltz : ¬ (kk : Int) < (N : Int) := by omega
      obtain rfl : kk = N := by omega
      go_wp2
      go_ret
      exact ⟨rfl, Bz.out.trans (BW.out.mono Bz.out.size)⟩
    have hltz : (kk : Int) < (N : Int) := by omega
    obtain ⟨d, hd⟩ := D6.out.get hlt
    have Hd := hid hd
    clear hd
    obtain ⟨b, off, rfl, hbB, hc⟩ := (D6.out.below BW.out).at_ (by omega)
    obtain ⟨c1, c2⟩ := hc kk d Hd.out
    clear hc
    obtain ⟨d1, d2⟩ := d
    change wr.cell? ⟨b, off + kk * 2, none⟩ = some (.int .i64 d1) at c1
    change wr.cell? ⟨b, off + kk * 2 + 1, none⟩ = some (.int .i64 d2) at c2
    have hbw : b < wr.heap.size := Nat.lt_of_lt_of_le hbB BW.out.size
    have HCC : Hid (∀ X, Below wr.heap.size wr X → X.cell? ⟨b, off + kk * 2, none⟩ = some (.int .i64 d1) ∧ X.cell? ⟨b, off + kk * 2 + 1, none⟩ = some (.int .i64 d2)) := hid fun X hb =>
      ⟨(hb.cell (p := ⟨b, off + kk * 2, none⟩) hbw).trans c1, (hb.cell (p := ⟨b, off + kk * 2 + 1, none⟩) hbw).trans c2⟩
    clear c1 c2
    go_upto_block 2 with fail
    go_cut [19, 20] (fun s19 _ wx => s19 = .int .i64 1 ∧ Hid (Below wr.heap.size wr wx))
    case first =>
      go_wp2_with fail
      go_loopg [19, 20] nx (fun gg s19 s20 wx => ∃ j q : Nat, j ≤ nx ∧ nx - j ≤ gg ∧ s20 = .int .i64 j ∧ s19 = .int .i64 q ∧ q ≤ j ∧ Hid (q = kin d1 (Q1.take j)) ∧ Hid (Below wr.heap.size wr wx))
      case atStart => exact ⟨0, 0, Nat.zero_le _, by omega, rfl, rfl, Nat.le_refl _, hid (by simp [kin]), hid (Below.refl _ wr)⟩
      case round =>
        obtain ⟨j, q, hj, hg2, rfl, rfl, hqj, HQ, BX⟩ := hrel
        by_cases hjn : j < nx
        case neg =>
          have hjz : ¬ (j : Int) < (nx : Int) := by omega
          obtain rfl : j = nx := by omega
          obtain rfl : q = 1 := by
            rw [HQ.out, List.take_of_length_le (by rw [HNX.out]; exact Nat.le_refl _), HXT.out]
            exact kin_top (d := (d1, d2)) (List.mem_of_getElem? Hd.out)
          go_wp2
          go_meet
          exact ⟨rfl, BX⟩
        have hjz : (j : Int) < (nx : Int) := by omega
        obtain ⟨e, he⟩ := Dx.out.get hjn
        obtain ⟨b3, off3, rfl, hb3, hc3⟩ := ((Dx.out.below BW.out).below (BX.out.mono BW.out.size)).at_ (by omega)
        obtain ⟨c3, c4⟩ := hc3 j e he
        have He := hid he
        clear hc3 he
        obtain ⟨e1, e2⟩ := e
        change wr.cell? ⟨b3, off3 + j * 2, none⟩ = some (.int .i64 e1) at c3
        change wr.cell? ⟨b3, off3 + j * 2 + 1, none⟩ = some (.int .i64 e2) at c4
        obtain ⟨c1, c2⟩ := HCC.out wr BX.out
        by_cases hed : e1 = d1
        case neg =>
          have hed2 : (e1 == d1) = false := by simpa using hed
          have HQ2 := hid (kin_miss (i := d1) He.out hed)
          go_wp2_with fail
          go_quiet (fail)
          go_wp2
          go_roundg (nx - (j + 1))
          case measure => omega
          case rel => exact ⟨j + 1, q, by omega, by omega, by go_num, rfl, by omega, hid (by rw [HQ2.out]; exact HQ.out), hid (below_drewN BX.out _)⟩
        subst hed
        have HQ2 := hid (kin_hit (i := e1) He.out rfl)
        have hmem := HXT.out ▸ List.mem_of_getElem? He.out
        obtain ⟨hin, hbest⟩ := mem_top.1 hmem
        have hge := hbest _ (List.mem_of_getElem? Hd.out) rfl
        have hlt2 : ¬ e2 < d2 := by
          have : d2 ≤ e2 := hge
          omega
        have hltd : decide (e2 < d2) = false := decide_eq_false hlt2
        have hcp := cnt_pos hin
        have CC := hid (fun X (hb : Below wr.heap.size wr X) => count_any (e1, e2) (((D6.out.below BW.out).below (BX.out.mono BW.out.size)).mono (Nat.le_trans BW.out.size BX.out.size) |>.below hb) hb.size)
        generalize cnt (e1, e2) (l ++ r) = u at hcp CC
        have hu : ((u : Int) == 0) = false := by simp; omega
        change Hid (∀ X, Below wr.heap.size wr X → Calls Try.prog _ #[_, .agg #[.int .i64 e1, .int .i64 e2]] X _) at CC
        have HS := hid BX.out.size
        have hbw2 : b < wr.heap.size := Nat.lt_of_lt_of_le hbw BX.out.size
        have hb32 : b3 < wr.heap.size := Nat.lt_of_lt_of_le (Nat.lt_of_lt_of_le hb3 BW.out.size) BX.out.size
        have CF : Hid (∀ X, Below wr.heap.size wr X → X.cell? ⟨b3, off3 + j * 2, none⟩ = some (.int .i64 e1) ∧ X.cell? ⟨b3, off3 + j * 2 + 1, none⟩ = some (.int .i64 e2) ∧ X.cell? ⟨b, off + kk * 2 + 1, none⟩ = some (.int .i64 d2)) := hid fun X hb =>
          ⟨(hb.cell (p := ⟨b3, off3 + j * 2, none⟩) hb32).trans c3, (hb.cell (p := ⟨b3, off3 + j * 2 + 1, none⟩) hb32).trans c4, (hb.cell (p := ⟨b, off + kk * 2 + 1, none⟩) hbw2).trans c2⟩
        clear hmem hin hbest hge hcp
        go_wp2_with fail
        go_quiet (fail)
        go_upto_region 24 with fail
        generalize hwd : World.drewN wr _ = wd
        have HBz : Hid (Below wr.heap.size wr wd.drew) := hid (by rw [← hwd]; exact (below_drewN (Below.refl wr.heap.size wr) _).drew)
        clear hwd
        go_wp2_with fail
        go_region_held3 (fun X => X.cell? ⟨b3, off3 + j * 2, none⟩ = some (.int .i64 e1) ∧ X.cell? ⟨b3, off3 + j * 2 + 1, none⟩ = some (.int .i64 e2) ∧ X.cell? ⟨b, off + kk * 2 + 1, none⟩ = some (.int .i64 d2))
          (exact CF.out _ HBz.out)
          (first
          | (go_at_call 19
             with_reducible refine (CC.out _ HBz.out).mono ?_
             rintro e' w' ⟨rfl, hb⟩
             have HBz := hid (HBz.out.trans (hb.out.mono HBz.out.size))))
        all_goals
          go_wp2
          go_roundg (nx - (j + 1))
          case measure => omega
          case rel => exact ⟨j + 1, q + 1, by omega, by omega, by go_num, by go_num, by omega, hid (by rw [HQ2.out, HQ.out]), hid (BX.out.trans (HBz.out.mono HS.out))⟩
    case rest =>
      obtain ⟨rfl, BX⟩ := hcut
      go_wp2
      go_roundg (N - (kk + 1))
      case measure => omega
      case rel => exact ⟨kk + 1, by omega, by omega, by go_num, hid (BW.out.trans (BX.out.mono BW.out.size))⟩
end Go.Proofs.Ytelalanhalbicaa
