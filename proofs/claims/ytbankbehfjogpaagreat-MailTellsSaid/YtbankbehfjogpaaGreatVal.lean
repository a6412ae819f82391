/- A walk along a mail of a kind. -/
/- A walk along a mail of a kind. -/
/- A walk along a mail of a kind. -/
/- A walk along a mail of a kind. -/
/- A walk along a mail, of whatever kind. -/
/- Package field: what is taken, and of which bytes: numbers. -/
import Derived.Test.YtbankbehfjogpaaGreatVak
import Derived.Test.YtbankbehfjogpaaGreatVag
namespace Go.Proofs.YtbankbehfjogpaaGreat
open Go.RowKit Go.Shelf Go.Lib
set_option maxRecDepth 100000
set_option maxHeartbeats 64000000 in
theorem along_k3 {σ : Type} {W : Walker σ} {G : Nat → Prop} {Ba B : Nat} {I : σ → World → Prop} {Dv : World → Dy → Prop} {fn ff fd : Nat} {bd : Array Value} (K : Wlk W G Ba B I Dv fn ff fd bd)
    {s : σ} {w : World} (hs : I s w) (hB : B ≤ w.heap.size) {m : Md} {M : Ml} (ha : Arg w Ba m M) (hk : AlOk W s M) (hkk : M.kd = 3) :
    Calls Tryz.prog 21 #[wkv fn ff fd bd, .agg (mdc m)] w fun e w' =>
      ∃ m', e = .returned (.agg (mdc m')) ∧ Hid (Out Dv w' w.heap.size m' (alongP W s M).1) ∧ Hid (I (alongP W s M).2 w') ∧ Hid (Ex G w w') := by
  obtain ⟨w1, hw1⟩ : ∃ w1, w1 = ((w.alloc (.cells #[.func (.func fn) bd #[], .func (.func ff) bd #[], .func (.func fd) bd #[]] 57)).alloc (.cells (mdc m) 31)).alloc (.cells (mdc (Mz 0)) 31) := ⟨_, rfl⟩
  obtain ⟨w2, hw2⟩ : ∃ w2, w2 = pstore (w1.alloc (.cells (mdc (Mz 0)) 31)) (w.heap.size + 1 + 1 + 1) (Mz m.kd) := ⟨_, rfl⟩
  have hs1 : w1.heap.size = w.heap.size + 1 + 1 + 1 := by rw [hw1]; simp
  have HA0 := hid (along_head K hs hB ha hw1 hw2)
  have x1 : Pbox w1 (w.heap.size + 1) m := hw1 ▸ new31 w _ _ _
  have C0 := hid x1.c0
  have HM := hid ha
  have HK := hid hk
  have CW := hid (show ∀ (o : Md) (O : Ml) (s1 : σ) (X : World), Hid (Alg G I Dv fn ff fd bd w m o O s1 X) → ∀ (n z : Nat) (zi : Int), (z : Int) = zi → n < 4294967296 → 1 ≤ z → z ≤ 4 → _ from fun o O s1 X h n z zi hzi hn h1 h4 => whole_any K h.out.st (Nat.le_trans hB (Nat.le_trans (by omega) h.out.sz)) n z zi hzi hn h1 h4)
  have XN := hid (show Pbox (w1.alloc (.cells (mdc (Mz 0)) 31)) (w.heap.size + 1 + 1 + 1) (Mz 0) from hs1 ▸ new0 w1 _)
  have HW1 := hid hw1
  have HW2 := hid hw2
  have HS1 := hid hs1
  have en := K.en
  have ef := K.ef
  have ed := K.ed
  have efr : m.fr = ((M.fr.toNat : Nat) : Int) := by have := ha.fr; have := hk.fr; omega
  have etu : m.tu = ((M.tu.toNat : Nat) : Int) := by have := ha.tu; have := hk.tu; omega
  have eep : m.ep = ((M.ep.toNat : Nat) : Int) := by have := ha.ep; have := hk.ep; omega
  have enu : m.nu = ((M.nu.toNat : Nat) : Int) := by have := ha.nu; have := hk.nu; omega
  have eab : m.ab = ((M.ab.toNat : Nat) : Int) := by have := ha.ab; have := hk.ab; omega
  have lfr : M.fr.toNat < 4294967296 := by have := hk.fr; omega
  have ltu : M.tu.toNat < 4294967296 := by have := hk.tu; omega
  have lep : M.ep.toNat < 4294967296 := by have := hk.ep; omega
  have lnu : M.nu.toNat < 4294967296 := by have := hk.nu; omega
  have lab : M.ab.toNat < 4294967296 := by have := hk.ab; omega
  have EFR := hid efr
  have ETU := hid etu
  have EEP := hid eep
  have ENU := hid enu
  have EAB := hid eab
  have HKD := hid ha.kd
  have hkd := hk.kd
  clear hw1 hw2 hs ha hk hs1 x1 efr etu eep enu eab
  go_enter Tryz.func21, Tryz.ntmps21
  go_upto_region 1 with fail
  change Code.wp _ _ _ _ (((w.alloc (.cells #[.func (.func fn) bd #[], .func (.func ff) bd #[], .func (.func fd) bd #[]] 57)).alloc (.cells (mdc m) 31)).alloc (.cells (mdc (Mz 0)) 31))
  rw [← HW1.out]
  have c0 := C0.out
  have hs1 := HS1.out
  go_upto_region 2 with (first | (refine wp_pstore rfl (.tmp 5) (.tmp 8) (by with_reducible rfl) (w.heap.size + 1 + 1 + 1) (Mz 0) (Mz m.kd) (by rfl) (by rfl) XN.out ?_) | fail)
  change Code.wp _ _ _ _ (pstore (w1.alloc (.cells (mdc (Mz 0)) 31)) (w.heap.size + 1 + 1 + 1) (Mz m.kd))
  rw [← HW2.out]
  clear c0 C0 HW1 HW2 hs1 XN
  have CD := hid (show ∀ (o : Md) (O : Ml) (s1 : σ) (X : World), Hid (Alg G I Dv fn ff fd bd w m o O s1 X) → ∀ (k : Nat), k < 4 → ∀ d, DV (m.D k) d → _ from fun o O s1 X h k hk4 d hd => K.dyad s1 X (m.D k) d h.out.st (Nat.le_trans hB (Nat.le_trans (by omega) h.out.sz)) hd ((HM.out.rd k hk4).below (h.out.ex.below (Nat.le_trans K.ab hB) (fun b hb => (K.gB b hb).1))))
  obtain ⟨n1, hn1⟩ : ∃ n1, n1 = M.fr.toNat := ⟨_, rfl⟩
  obtain ⟨n2, hn2⟩ : ∃ n2, n2 = M.tu.toNat := ⟨_, rfl⟩
  obtain ⟨n3, hn3⟩ : ∃ n3, n3 = M.ep.toNat := ⟨_, rfl⟩
  obtain ⟨n4, hn4⟩ : ∃ n4, n4 = M.nu.toNat := ⟨_, rfl⟩
  obtain ⟨n5, hn5⟩ : ∃ n5, n5 = M.ab.toNat := ⟨_, rfl⟩
  rw [← hn1] at EFR lfr
  rw [← hn2] at ETU ltu
  rw [← hn3] at EEP lep
  rw [← hn4] at ENU lnu
  rw [← hn5] at EAB lab
  have ln1 := lfr
  have ln2 := ltu
  have ln3 := lep
  have ln4 := lnu
  have ln5 := lab
  have HN1 := hid hn1
  have HN2 := hid hn2
  have HN3 := hid hn3
  have HN4 := hid hn4
  have HN5 := hid hn5
  clear hn1 hn2 hn3 hn4 hn5 lfr ltu lep lnu lab
  have x0 := HA0.out.wk.c0
  have x1 := HA0.out.wk.c1
  have x2 := HA0.out.wk.c2
  have m1 := HA0.out.ar.c1
  rw [EFR.out] at m1
  go_wp2_with fail
  refine (CW.out _ _ _ _ HA0 n1 1 1 rfl ln1 (by decide) (by decide)).mono ?_
  rintro e X1 ⟨U1, rfl, hU1, hI1, hE1⟩
  obtain ⟨s1, hs1⟩ : ∃ s1, s1 = (W.nf s n1 1).2 := ⟨_, rfl⟩
  rw [← hs1] at hI1
  have HS1 := hid hs1
  have HU1 := hid hU1.out.1
  clear hs1 hU1
  have HB1 := hid (HA0.out.call K hB hI1.out hE1.out)
  have HA1 := hid (HB1.out.put K hB (Wr.set _ _ 1 (.int .i64 (U1 : Int))) (o' := (⟨m.kd, U1, 0, 0, 0, 0, D0, false, none, 0, 0, false, 0, 0, none, 0, 0⟩ : Md)) (O' := (⟨M.kd, U1, 0, 0, 0, 0, d0z, d0z, d0z, d0z, false, [], false, 0, 0, []⟩ : Ml)) (HB1.out.ou.put1 1 _ _ rfl) { HB1.out.rp with fr := rfl })
  clear hI1 hE1
  clear x0 x1 x2 m1
  have x0 := HB1.out.wk.c0
  have x1 := HB1.out.wk.c1
  have x2 := HB1.out.wk.c2
  have z1 := HB1.out.ou.frozen 1
  have y1 := HB1.out.ou.c1
  have m2 := HB1.out.ar.c2
  rw [ETU.out] at m2
  go_wp2_with fail
  refine (CW.out _ _ _ _ HA1 n2 1 1 rfl ln2 (by decide) (by decide)).mono ?_
  rintro e X2 ⟨U2, rfl, hU2, hI2, hE2⟩
  obtain ⟨s2, hs2⟩ : ∃ s2, s2 = (W.nf s1 n2 1).2 := ⟨_, rfl⟩
  rw [← hs2] at hI2
  have HS2 := hid hs2
  have HU2 := hid hU2.out.1
  clear hs2 hU2
  have HB2 := hid (HA1.out.call K hB hI2.out hE2.out)
  have HA2 := hid (HB2.out.put K hB (Wr.set _ _ 2 (.int .i64 (U2 : Int))) (o' := (⟨m.kd, U1, U2, 0, 0, 0, D0, false, none, 0, 0, false, 0, 0, none, 0, 0⟩ : Md)) (O' := (⟨M.kd, U1, U2, 0, 0, 0, d0z, d0z, d0z, d0z, false, [], false, 0, 0, []⟩ : Ml)) (HB2.out.ou.put1 2 _ _ rfl) { HB2.out.rp with tu := rfl })
  clear hI2 hE2
  clear x0 x1 x2 z1 y1 m2
  have x0 := HB2.out.wk.c0
  have x1 := HB2.out.wk.c1
  have x2 := HB2.out.wk.c2
  have z2 := HB2.out.ou.frozen 2
  have y2 := HB2.out.ou.c2
  have m3 := HB2.out.ar.c3
  rw [EEP.out] at m3
  go_wp2_with fail
  refine (CW.out _ _ _ _ HA2 n3 2 2 rfl ln3 (by decide) (by decide)).mono ?_
  rintro e X3 ⟨U3, rfl, hU3, hI3, hE3⟩
  obtain ⟨s3, hs3⟩ : ∃ s3, s3 = (W.nf s2 n3 2).2 := ⟨_, rfl⟩
  rw [← hs3] at hI3
  have HS3 := hid hs3
  have HU3 := hid hU3.out.1
  clear hs3 hU3
  have HB3 := hid (HA2.out.call K hB hI3.out hE3.out)
  have HA3 := hid (HB3.out.put K hB (Wr.set _ _ 3 (.int .i64 (U3 : Int))) (o' := (⟨m.kd, U1, U2, U3, 0, 0, D0, false, none, 0, 0, false, 0, 0, none, 0, 0⟩ : Md)) (O' := (⟨M.kd, U1, U2, U3, 0, 0, d0z, d0z, d0z, d0z, false, [], false, 0, 0, []⟩ : Ml)) (HB3.out.ou.put1 3 _ _ rfl) { HB3.out.rp with ep := rfl })
  clear hI3 hE3
  clear x0 x1 x2 z2 y2 m3
  have x0 := HB3.out.wk.c0
  have x1 := HB3.out.wk.c1
  have x2 := HB3.out.wk.c2
  have z3 := HB3.out.ou.frozen 3
  have y3 := HB3.out.ou.c3
  have m4 := HB3.out.ar.c4
  rw [ENU.out] at m4
  go_wp2_with fail
  refine (CW.out _ _ _ _ HA3 n4 3 3 rfl ln4 (by decide) (by decide)).mono ?_
  rintro e X4 ⟨U4, rfl, hU4, hI4, hE4⟩
  obtain ⟨s4, hs4⟩ : ∃ s4, s4 = (W.nf s3 n4 3).2 := ⟨_, rfl⟩
  rw [← hs4] at hI4
  have HS4 := hid hs4
  have HU4 := hid hU4.out.1
  clear hs4 hU4
  have HB4 := hid (HA3.out.call K hB hI4.out hE4.out)
  have HA4 := hid (HB4.out.put K hB (Wr.set _ _ 4 (.int .i64 (U4 : Int))) (o' := (⟨m.kd, U1, U2, U3, U4, 0, D0, false, none, 0, 0, false, 0, 0, none, 0, 0⟩ : Md)) (O' := (⟨M.kd, U1, U2, U3, U4, 0, d0z, d0z, d0z, d0z, false, [], false, 0, 0, []⟩ : Ml)) (HB4.out.ou.put1 4 _ _ rfl) { HB4.out.rp with nu := rfl })
  clear hI4 hE4
  clear x0 x1 x2 z3 y3 m4
  have x0 := HB4.out.wk.c0
  have x1 := HB4.out.wk.c1
  have x2 := HB4.out.wk.c2
  have z4 := HB4.out.ou.frozen 4
  have y4 := HB4.out.ou.c4
  have m0 := HB4.out.ar.c0
  rw [HKD.out, hkk] at m0
  have m5 := HB4.out.ar.c5
  rw [EAB.out] at m5
  go_wp2_with fail
  refine (CW.out _ _ _ _ HA4 n5 3 3 rfl ln5 (by decide) (by decide)).mono ?_
  rintro e X5 ⟨U5, rfl, hU5, hI5, hE5⟩
  obtain ⟨s5, hs5⟩ : ∃ s5, s5 = (W.nf s4 n5 3).2 := ⟨_, rfl⟩
  rw [← hs5] at hI5
  have HS5 := hid hs5
  have HU5 := hid hU5.out.1
  clear hs5 hU5
  have HB5 := hid (HA4.out.call K hB hI5.out hE5.out)
  have HA5 := hid (HB5.out.put K hB (Wr.set _ _ 5 (.int .i64 (U5 : Int))) (o' := (⟨m.kd, U1, U2, U3, U4, U5, D0, false, none, 0, 0, false, 0, 0, none, 0, 0⟩ : Md)) (O' := (⟨M.kd, U1, U2, U3, U4, U5, d0z, d0z, d0z, d0z, false, [], false, 0, 0, []⟩ : Ml)) (HB5.out.ou.put1 5 _ _ rfl) { HB5.out.rp with ab := rfl })
  clear hI5 hE5
  clear x0 x1 x2 z4 y4 m0 m5
  have x0 := HB5.out.wk.c0
  have x1 := HB5.out.wk.c1
  have x2 := HB5.out.wk.c2
  have z5 := HB5.out.ou.frozen 5
  have y5 := HB5.out.ou.c5
  have m12 := HB5.out.ar.c12
  have m13 := HB5.out.ar.c13
  have m14 := HB5.out.ar.c14
  go_wp2_with fail
  refine (CD.out _ _ _ _ HA5 2 (by decide) _ HM.out.C).mono ?_
  rintro e X6 ⟨E6, rfl, hU6, hD6, hI6, hE6⟩
  obtain ⟨s6, hs6⟩ : ∃ s6, s6 = (W.df s5 M.C).2 := ⟨_, rfl⟩
  rw [← hs6] at hI6
  have HS6 := hid hs6
  obtain ⟨d6, hd6⟩ : ∃ d6, d6 = (W.df s5 M.C).1 := ⟨_, rfl⟩
  rw [← hd6] at hU6
  have HU6 := hid hd6
  clear hs6 hd6
  have HB6 := hid (HA5.out.call K hB hI6.out hE6.out)
  have HA6 := hid (HB6.out.put K hB (((Wr.set _ _ 12 _).trans (Wr.set _ _ 13 _)).trans (Wr.set _ _ 14 _)) (o' := (⟨m.kd, U1, U2, U3, U4, U5, (updD D0 2 E6), false, none, 0, 0, false, 0, 0, none, 0, 0⟩ : Md)) (O' := (⟨M.kd, U1, U2, U3, U4, U5, d0z, d0z, d6, d0z, false, [], false, 0, 0, []⟩ : Ml)) (HB6.out.ou.put3 12 13 14 _ _ _ _ rfl) { HB6.out.rp with C := hU6.out, dv := dv_upd HB6.out.rp.dv hD6.out })
  clear hI6 hE6
  clear x0 x1 x2 z5 y5 m12 m13 m14
  have x0 := HB6.out.wk.c0
  have x1 := HB6.out.wk.c1
  have x2 := HB6.out.wk.c2
  have z12 := HB6.out.ou.frozen 12
  have y12 := HB6.out.ou.c12
  have z13 := HB6.out.ou.frozen 13
  have y13 := HB6.out.ou.c13
  have z14 := HB6.out.ou.frozen 14
  have y14 := HB6.out.ou.c14
  have m15 := HB6.out.ar.c15
  have m16 := HB6.out.ar.c16
  have m17 := HB6.out.ar.c17
  go_wp2_with fail
  refine (CD.out _ _ _ _ HA6 3 (by decide) _ HM.out.A).mono ?_
  rintro e X7 ⟨E7, rfl, hU7, hD7, hI7, hE7⟩
  obtain ⟨s7, hs7⟩ : ∃ s7, s7 = (W.df s6 M.A).2 := ⟨_, rfl⟩
  rw [← hs7] at hI7
  have HS7 := hid hs7
  obtain ⟨d7, hd7⟩ : ∃ d7, d7 = (W.df s6 M.A).1 := ⟨_, rfl⟩
  rw [← hd7] at hU7
  have HU7 := hid hd7
  clear hs7 hd7
  have HB7 := hid (HA6.out.call K hB hI7.out hE7.out)
  have HA7 := hid (HB7.out.put K hB (((Wr.set _ _ 15 _).trans (Wr.set _ _ 16 _)).trans (Wr.set _ _ 17 _)) (o' := (⟨m.kd, U1, U2, U3, U4, U5, (updD (updD D0 2 E6) 3 E7), false, none, 0, 0, false, 0, 0, none, 0, 0⟩ : Md)) (O' := (⟨M.kd, U1, U2, U3, U4, U5, d0z, d0z, d6, d7, false, [], false, 0, 0, []⟩ : Ml)) (HB7.out.ou.put3 15 16 17 _ _ _ _ rfl) { HB7.out.rp with A := hU7.out, dv := dv_upd HB7.out.rp.dv hD7.out })
  clear hI7 hE7
  clear x0 x1 x2 z12 y12 z13 y13 z14 y14 m15 m16 m17
  have x0 := HB7.out.wk.c0
  have x1 := HB7.out.wk.c1
  have x2 := HB7.out.wk.c2
  have z15 := HB7.out.ou.frozen 15
  have y15 := HB7.out.ou.c15
  have z16 := HB7.out.ou.frozen 16
  have y16 := HB7.out.ou.c16
  have z17 := HB7.out.ou.frozen 17
  have y17 := HB7.out.ou.c17
  go_upto_region 23 with fail
  have HD := hid (HA7.out.done K hB)
  have HP := hid HA7.out.ou
  have HZ := hid HA7.out.zr
  clear x0 x1 x2 z15 y15 z16 y16 z17 y17
  go_wp2_with (first | (refine wp_pload rfl (.tmp 5) (by with_reducible rfl) (w.heap.size + 1 + 1 + 1) _ (by rfl) HP.out ?_) | (refine wp_pstore rfl (.tmp 4) (.tmp 110) (by with_reducible rfl) (w.heap.size + 1 + 1) (Mz 0) _ (by rfl) (by rfl) HZ.out ?_) | fail)
  obtain ⟨q1, q2, q3, q4⟩ := HD.out
  have hh := headP_eq (M := M) HN1.out HN2.out HN3.out HN4.out HU1.out HS1.out HU2.out HS2.out HU3.out HS3.out HU4.out HS4.out
  have HQ : alongP W s M = ((⟨M.kd, U1, U2, U3, U4, U5, d0z, d0z, d6, d7, false, [], false, 0, 0, []⟩ : Ml), s7) := by
    unfold alongP kindP hedP
    rw [hh, if_neg (by omega), if_neg (by omega), if_pos hkk]
    rw [HS7.out, HU7.out, HS6.out, HU6.out, HS5.out, HU5.out, HN5.out]
    try rfl
  refine ret_mail1 rfl (by rfl) rfl q1 ⟨_, rfl, hid ?_, hid ?_, hid q4⟩
  · rw [HQ]
    exact q2
  · rw [HQ]
    exact q3
open Go.RowKit Go.Shelf Go.Lib
set_option maxRecDepth 100000
set_option maxHeartbeats 64000000 in
theorem along_k4 {σ : Type} {W : Walker σ} {G : Nat → Prop} {Ba B : Nat} {I : σ → World → Prop} {Dv : World → Dy → Prop} {fn ff fd : Nat} {bd : Array Value} (K : Wlk W G Ba B I Dv fn ff fd bd)
    {s : σ} {w : World} (hs : I s w) (hB : B ≤ w.heap.size) {m : Md} {M : Ml} (ha : Arg w Ba m M) (hk : AlOk W s M) (hkk : M.kd = 4) :
    Calls Tryz.prog 21 #[wkv fn ff fd bd, .agg (mdc m)] w fun e w' =>
      ∃ m', e = .returned (.agg (mdc m')) ∧ Hid (Out Dv w' w.heap.size m' (alongP W s M).1) ∧ Hid (I (alongP W s M).2 w') ∧ Hid (Ex G w w') := by
  obtain ⟨w1, hw1⟩ : ∃ w1, w1 = ((w.alloc (.cells #[.func (.func fn) bd #[], .func (.func ff) bd #[], .func (.func fd) bd #[]] 57)).alloc (.cells (mdc m) 31)).alloc (.cells (mdc (Mz 0)) 31) := ⟨_, rfl⟩
  obtain ⟨w2, hw2⟩ : ∃ w2, w2 = pstore (w1.alloc (.cells (mdc (Mz 0)) 31)) (w.heap.size + 1 + 1 + 1) (Mz m.kd) := ⟨_, rfl⟩
  have hs1 : w1.heap.size = w.heap.size + 1 + 1 + 1 := by rw [hw1]; simp
  have HA0 := hid (along_head K hs hB ha hw1 hw2)
  have x1 : Pbox w1 (w.heap.size + 1) m := hw1 ▸ new31 w _ _ _
  have C0 := hid x1.c0
  have HM := hid ha
  have HK := hid hk
  have CW := hid (show ∀ (o : Md) (O : Ml) (s1 : σ) (X : World), Hid (Alg G I Dv fn ff fd bd w m o O s1 X) → ∀ (n z : Nat) (zi : Int), (z : Int) = zi → n < 4294967296 → 1 ≤ z → z ≤ 4 → _ from fun o O s1 X h n z zi hzi hn h1 h4 => whole_any K h.out.st (Nat.le_trans hB (Nat.le_trans (by omega) h.out.sz)) n z zi hzi hn h1 h4)
  have XN := hid (show Pbox (w1.alloc (.cells (mdc (Mz 0)) 31)) (w.heap.size + 1 + 1 + 1) (Mz 0) from hs1 ▸ new0 w1 _)
  have HW1 := hid hw1
  have HW2 := hid hw2
  have HS1 := hid hs1
  have en := K.en
  have ef := K.ef
  have ed := K.ed
  have efr : m.fr = ((M.fr.toNat : Nat) : Int) := by have := ha.fr; have := hk.fr; omega
  have etu : m.tu = ((M.tu.toNat : Nat) : Int) := by have := ha.tu; have := hk.tu; omega
  have eep : m.ep = ((M.ep.toNat : Nat) : Int) := by have := ha.ep; have := hk.ep; omega
  have enu : m.nu = ((M.nu.toNat : Nat) : Int) := by have := ha.nu; have := hk.nu; omega
  have eab : m.ab = ((M.ab.toNat : Nat) : Int) := by have := ha.ab; have := hk.ab; omega
  have lfr : M.fr.toNat < 4294967296 := by have := hk.fr; omega
  have ltu : M.tu.toNat < 4294967296 := by have := hk.tu; omega
  have lep : M.ep.toNat < 4294967296 := by have := hk.ep; omega
  have lnu : M.nu.toNat < 4294967296 := by have := hk.nu; omega
  have lab : M.ab.toNat < 4294967296 := by have := hk.ab; omega
  have EFR := hid efr
  have ETU := hid etu
  have EEP := hid eep
  have ENU := hid enu
  have EAB := hid eab
  have HKD := hid ha.kd
  have hkd := hk.kd
  clear hw1 hw2 hs ha hk hs1 x1 efr etu eep enu eab
  go_enter Tryz.func21, Tryz.ntmps21
  go_upto_region 1 with fail
  change Code.wp _ _ _ _ (((w.alloc (.cells #[.func (.func fn) bd #[], .func (.func ff) bd #[], .func (.func fd) bd #[]] 57)).alloc (.cells (mdc m) 31)).alloc (.cells (mdc (Mz 0)) 31))
  rw [← HW1.out]
  have c0 := C0.out
  have hs1 := HS1.out
  go_upto_region 2 with (first | (refine wp_pstore rfl (.tmp 5) (.tmp 8) (by with_reducible rfl) (w.heap.size + 1 + 1 + 1) (Mz 0) (Mz m.kd) (by rfl) (by rfl) XN.out ?_) | fail)
  change Code.wp _ _ _ _ (pstore (w1.alloc (.cells (mdc (Mz 0)) 31)) (w.heap.size + 1 + 1 + 1) (Mz m.kd))
  rw [← HW2.out]
  clear c0 C0 HW1 HW2 hs1 XN
  have CD := hid (show ∀ (o : Md) (O : Ml) (s1 : σ) (X : World), Hid (Alg G I Dv fn ff fd bd w m o O s1 X) → ∀ (k : Nat), k < 4 → ∀ d, DV (m.D k) d → _ from fun o O s1 X h k hk4 d hd => K.dyad s1 X (m.D k) d h.out.st (Nat.le_trans hB (Nat.le_trans (by omega) h.out.sz)) hd ((HM.out.rd k hk4).below (h.out.ex.below (Nat.le_trans K.ab hB) (fun b hb => (K.gB b hb).1))))
  obtain ⟨n1, hn1⟩ : ∃ n1, n1 = M.fr.toNat := ⟨_, rfl⟩
  obtain ⟨n2, hn2⟩ : ∃ n2, n2 = M.tu.toNat := ⟨_, rfl⟩
  obtain ⟨n3, hn3⟩ : ∃ n3, n3 = M.ep.toNat := ⟨_, rfl⟩
  obtain ⟨n4, hn4⟩ : ∃ n4, n4 = M.nu.toNat := ⟨_, rfl⟩
  obtain ⟨n5, hn5⟩ : ∃ n5, n5 = M.ab.toNat := ⟨_, rfl⟩
  rw [← hn1] at EFR lfr
  rw [← hn2] at ETU ltu
  rw [← hn3] at EEP lep
  rw [← hn4] at ENU lnu
  rw [← hn5] at EAB lab
  have ln1 := lfr
  have ln2 := ltu
  have ln3 := lep
  have ln4 := lnu
  have ln5 := lab
  have HN1 := hid hn1
  have HN2 := hid hn2
  have HN3 := hid hn3
  have HN4 := hid hn4
  have HN5 := hid hn5
  clear hn1 hn2 hn3 hn4 hn5 lfr ltu lep lnu lab
  have x0 := HA0.out.wk.c0
  have x1 := HA0.out.wk.c1
  have x2 := HA0.out.wk.c2
  have m1 := HA0.out.ar.c1
  rw [EFR.out] at m1
  go_wp2_with fail
  refine (CW.out _ _ _ _ HA0 n1 1 1 rfl ln1 (by decide) (by decide)).mono ?_
  rintro e X1 ⟨U1, rfl, hU1, hI1, hE1⟩
  obtain ⟨s1, hs1⟩ : ∃ s1, s1 = (W.nf s n1 1).2 := ⟨_, rfl⟩
  rw [← hs1] at hI1
  have HS1 := hid hs1
  have HU1 := hid hU1.out.1
  clear hs1 hU1
  have HB1 := hid (HA0.out.call K hB hI1.out hE1.out)
  have HA1 := hid (HB1.out.put K hB (Wr.set _ _ 1 (.int .i64 (U1 : Int))) (o' := (⟨m.kd, U1, 0, 0, 0, 0, D0, false, none, 0, 0, false, 0, 0, none, 0, 0⟩ : Md)) (O' := (⟨M.kd, U1, 0, 0, 0, 0, d0z, d0z, d0z, d0z, false, [], false, 0, 0, []⟩ : Ml)) (HB1.out.ou.put1 1 _ _ rfl) { HB1.out.rp with fr := rfl })
  clear hI1 hE1
  clear x0 x1 x2 m1
  have x0 := HB1.out.wk.c0
  have x1 := HB1.out.wk.c1
  have x2 := HB1.out.wk.c2
  have z1 := HB1.out.ou.frozen 1
  have y1 := HB1.out.ou.c1
  have m2 := HB1.out.ar.c2
  rw [ETU.out] at m2
  go_wp2_with fail
  refine (CW.out _ _ _ _ HA1 n2 1 1 rfl ln2 (by decide) (by decide)).mono ?_
  rintro e X2 ⟨U2, rfl, hU2, hI2, hE2⟩
  obtain ⟨s2, hs2⟩ : ∃ s2, s2 = (W.nf s1 n2 1).2 := ⟨_, rfl⟩
  rw [← hs2] at hI2
  have HS2 := hid hs2
  have HU2 := hid hU2.out.1
  clear hs2 hU2
  have HB2 := hid (HA1.out.call K hB hI2.out hE2.out)
  have HA2 := hid (HB2.out.put K hB (Wr.set _ _ 2 (.int .i64 (U2 : Int))) (o' := (⟨m.kd, U1, U2, 0, 0, 0, D0, false, none, 0, 0, false, 0, 0, none, 0, 0⟩ : Md)) (O' := (⟨M.kd, U1, U2, 0, 0, 0, d0z, d0z, d0z, d0z, false, [], false, 0, 0, []⟩ : Ml)) (HB2.out.ou.put1 2 _ _ rfl) { HB2.out.rp with tu := rfl })
  clear hI2 hE2
  clear x0 x1 x2 z1 y1 m2
  have x0 := HB2.out.wk.c0
  have x1 := HB2.out.wk.c1
  have x2 := HB2.out.wk.c2
  have z2 := HB2.out.ou.frozen 2
  have y2 := HB2.out.ou.c2
  have m3 := HB2.out.ar.c3
  rw [EEP.out] at m3
  go_wp2_with fail
  refine (CW.out _ _ _ _ HA2 n3 2 2 rfl ln3 (by decide) (by decide)).mono ?_
  rintro e X3 ⟨U3, rfl, hU3, hI3, hE3⟩
  obtain ⟨s3, hs3⟩ : ∃ s3, s3 = (W.nf s2 n3 2).2 := ⟨_, rfl⟩
  rw [← hs3] at hI3
  have HS3 := hid hs3
  have HU3 := hid hU3.out.1
  clear hs3 hU3
  have HB3 := hid (HA2.out.call K hB hI3.out hE3.out)
  have HA3 := hid (HB3.out.put K hB (Wr.set _ _ 3 (.int .i64 (U3 : Int))) (o' := (⟨m.kd, U1, U2, U3, 0, 0, D0, false, none, 0, 0, false, 0, 0, none, 0, 0⟩ : Md)) (O' := (⟨M.kd, U1, U2, U3, 0, 0, d0z, d0z, d0z, d0z, false, [], false, 0, 0, []⟩ : Ml)) (HB3.out.ou.put1 3 _ _ rfl) { HB3.out.rp with ep := rfl })
  clear hI3 hE3
  clear x0 x1 x2 z2 y2 m3
  have x0 := HB3.out.wk.c0
  have x1 := HB3.out.wk.c1
  have x2 := HB3.out.wk.c2
  have z3 := HB3.out.ou.frozen 3
  have y3 := HB3.out.ou.c3
  have m4 := HB3.out.ar.c4
  rw [ENU.out] at m4
  go_wp2_with fail
  refine (CW.out _ _ _ _ HA3 n4 3 3 rfl ln4 (by decide) (by decide)).mono ?_
  rintro e X4 ⟨U4, rfl, hU4, hI4, hE4⟩
  obtain ⟨s4, hs4⟩ : ∃ s4, s4 = (W.nf s3 n4 3).2 := ⟨_, rfl⟩
  rw [← hs4] at hI4
  have HS4 := hid hs4
  have HU4 := hid hU4.out.1
  clear hs4 hU4
  have HB4 := hid (HA3.out.call K hB hI4.out hE4.out)
  have HA4 := hid (HB4.out.put K hB (Wr.set _ _ 4 (.int .i64 (U4 : Int))) (o' := (⟨m.kd, U1, U2, U3, U4, 0, D0, false, none, 0, 0, false, 0, 0, none, 0, 0⟩ : Md)) (O' := (⟨M.kd, U1, U2, U3, U4, 0, d0z, d0z, d0z, d0z, false, [], false, 0, 0, []⟩ : Ml)) (HB4.out.ou.put1 4 _ _ rfl) { HB4.out.rp with nu := rfl })
  clear hI4 hE4
  clear x0 x1 x2 z3 y3 m4
  have x0 := HB4.out.wk.c0
  have x1 := HB4.out.wk.c1
  have x2 := HB4.out.wk.c2
  have z4 := HB4.out.ou.frozen 4
  have y4 := HB4.out.ou.c4
  have m0 := HB4.out.ar.c0
  rw [HKD.out, hkk] at m0
  have m5 := HB4.out.ar.c5
  rw [EAB.out] at m5
  go_wp2_with fail
  refine (CW.out _ _ _ _ HA4 n5 3 3 rfl ln5 (by decide) (by decide)).mono ?_
  rintro e X5 ⟨U5, rfl, hU5, hI5, hE5⟩
  obtain ⟨s5, hs5⟩ : ∃ s5, s5 = (W.nf s4 n5 3).2 := ⟨_, rfl⟩
  rw [← hs5] at hI5
  have HS5 := hid hs5
  have HU5 := hid hU5.out.1
  clear hs5 hU5
  have HB5 := hid (HA4.out.call K hB hI5.out hE5.out)
  have HA5 := hid (HB5.out.put K hB (Wr.set _ _ 5 (.int .i64 (U5 : Int))) (o' := (⟨m.kd, U1, U2, U3, U4, U5, D0, false, none, 0, 0, false, 0, 0, none, 0, 0⟩ : Md)) (O' := (⟨M.kd, U1, U2, U3, U4, U5, d0z, d0z, d0z, d0z, false, [], false, 0, 0, []⟩ : Ml)) (HB5.out.ou.put1 5 _ _ rfl) { HB5.out.rp with ab := rfl })
  clear hI5 hE5
  clear x0 x1 x2 z4 y4 m0 m5
  have x0 := HB5.out.wk.c0
  have x1 := HB5.out.wk.c1
  have x2 := HB5.out.wk.c2
  have z5 := HB5.out.ou.frozen 5
  have y5 := HB5.out.ou.c5
  go_upto_region 23 with fail
  have HD := hid (HA5.out.done K hB)
  have HP := hid HA5.out.ou
  have HZ := hid HA5.out.zr
  clear x0 x1 x2 z5 y5
  go_wp2_with (first | (refine wp_pload rfl (.tmp 5) (by with_reducible rfl) (w.heap.size + 1 + 1 + 1) _ (by rfl) HP.out ?_) | (refine wp_pstore rfl (.tmp 4) (.tmp 110) (by with_reducible rfl) (w.heap.size + 1 + 1) (Mz 0) _ (by rfl) (by rfl) HZ.out ?_) | fail)
  obtain ⟨q1, q2, q3, q4⟩ := HD.out
  have hh := headP_eq (M := M) HN1.out HN2.out HN3.out HN4.out HU1.out HS1.out HU2.out HS2.out HU3.out HS3.out HU4.out HS4.out
  have HQ : alongP W s M = ((⟨M.kd, U1, U2, U3, U4, U5, d0z, d0z, d0z, d0z, false, [], false, 0, 0, []⟩ : Ml), s5) := by
    unfold alongP kindP hedP
    rw [hh, if_neg (by omega), if_neg (by omega), if_neg (by omega), if_pos hkk]
    rw [HS5.out, HU5.out, HN5.out]
    try rfl
  refine ret_mail1 rfl (by rfl) rfl q1 ⟨_, rfl, hid ?_, hid ?_, hid q4⟩
  · rw [HQ]
    exact q2
  · rw [HQ]
    exact q3
open Go.RowKit Go.Shelf Go.Lib
set_option maxRecDepth 100000
set_option maxHeartbeats 64000000 in
theorem along_k5 {σ : Type} {W : Walker σ} {G : Nat → Prop} {Ba B : Nat} {I : σ → World → Prop} {Dv : World → Dy → Prop} {fn ff fd : Nat} {bd : Array Value} (K : Wlk W G Ba B I Dv fn ff fd bd)
    {s : σ} {w : World} (hs : I s w) (hB : B ≤ w.heap.size) {m : Md} {M : Ml} (ha : Arg w Ba m M) (hk : AlOk W s M) (hkk : M.kd = 5) :
    Calls Tryz.prog 21 #[wkv fn ff fd bd, .agg (mdc m)] w fun e w' =>
      ∃ m', e = .returned (.agg (mdc m')) ∧ Hid (Out Dv w' w.heap.size m' (alongP W s M).1) ∧ Hid (I (alongP W s M).2 w') ∧ Hid (Ex G w w') := by
  obtain ⟨w1, hw1⟩ : ∃ w1, w1 = ((w.alloc (.cells #[.func (.func fn) bd #[], .func (.func ff) bd #[], .func (.func fd) bd #[]] 57)).alloc (.cells (mdc m) 31)).alloc (.cells (mdc (Mz 0)) 31) := ⟨_, rfl⟩
  obtain ⟨w2, hw2⟩ : ∃ w2, w2 = pstore (w1.alloc (.cells (mdc (Mz 0)) 31)) (w.heap.size + 1 + 1 + 1) (Mz m.kd) := ⟨_, rfl⟩
  have hs1 : w1.heap.size = w.heap.size + 1 + 1 + 1 := by rw [hw1]; simp
  have HA0 := hid (along_head K hs hB ha hw1 hw2)
  have x1 : Pbox w1 (w.heap.size + 1) m := hw1 ▸ new31 w _ _ _
  have C0 := hid x1.c0
  have HM := hid ha
  have HK := hid hk
  have CW := hid (show ∀ (o : Md) (O : Ml) (s1 : σ) (X : World), Hid (Alg G I Dv fn ff fd bd w m o O s1 X) → ∀ (n z : Nat) (zi : Int), (z : Int) = zi → n < 4294967296 → 1 ≤ z → z ≤ 4 → _ from fun o O s1 X h n z zi hzi hn h1 h4 => whole_any K h.out.st (Nat.le_trans hB (Nat.le_trans (by omega) h.out.sz)) n z zi hzi hn h1 h4)
  have XN := hid (show Pbox (w1.alloc (.cells (mdc (Mz 0)) 31)) (w.heap.size + 1 + 1 + 1) (Mz 0) from hs1 ▸ new0 w1 _)
  have HW1 := hid hw1
  have HW2 := hid hw2
  have HS1 := hid hs1
  have en := K.en
  have ef := K.ef
  have ed := K.ed
  have efr : m.fr = ((M.fr.toNat : Nat) : Int) := by have := ha.fr; have := hk.fr; omega
  have etu : m.tu = ((M.tu.toNat : Nat) : Int) := by have := ha.tu; have := hk.tu; omega
  have eep : m.ep = ((M.ep.toNat : Nat) : Int) := by have := ha.ep; have := hk.ep; omega
  have enu : m.nu = ((M.nu.toNat : Nat) : Int) := by have := ha.nu; have := hk.nu; omega
  have eab : m.ab = ((M.ab.toNat : Nat) : Int) := by have := ha.ab; have := hk.ab; omega
  have lfr : M.fr.toNat < 4294967296 := by have := hk.fr; omega
  have ltu : M.tu.toNat < 4294967296 := by have := hk.tu; omega
  have lep : M.ep.toNat < 4294967296 := by have := hk.ep; omega
  have lnu : M.nu.toNat < 4294967296 := by have := hk.nu; omega
  have lab : M.ab.toNat < 4294967296 := by have := hk.ab; omega
  have EFR := hid efr
  have ETU := hid etu
  have EEP := hid eep
  have ENU := hid enu
  have EAB := hid eab
  have HKD := hid ha.kd
  have hkd := hk.kd
  clear hw1 hw2 hs ha hk hs1 x1 efr etu eep enu eab
  go_enter Tryz.func21, Tryz.ntmps21
  go_upto_region 1 with fail
  change Code.wp _ _ _ _ (((w.alloc (.cells #[.func (.func fn) bd #[], .func (.func ff) bd #[], .func (.func fd) bd #[]] 57)).alloc (.cells (mdc m) 31)).alloc (.cells (mdc (Mz 0)) 31))
  rw [← HW1.out]
  have c0 := C0.out
  have hs1 := HS1.out
  go_upto_region 2 with (first | (refine wp_pstore rfl (.tmp 5) (.tmp 8) (by with_reducible rfl) (w.heap.size + 1 + 1 + 1) (Mz 0) (Mz m.kd) (by rfl) (by rfl) XN.out ?_) | fail)
  change Code.wp _ _ _ _ (pstore (w1.alloc (.cells (mdc (Mz 0)) 31)) (w.heap.size + 1 + 1 + 1) (Mz m.kd))
  rw [← HW2.out]
  clear c0 C0 HW1 HW2 hs1 XN
  have CD := hid (show ∀ (o : Md) (O : Ml) (s1 : σ) (X : World), Hid (Alg G I Dv fn ff fd bd w m o O s1 X) → ∀ (k : Nat), k < 4 → ∀ d, DV (m.D k) d → _ from fun o O s1 X h k hk4 d hd => K.dyad s1 X (m.D k) d h.out.st (Nat.le_trans hB (Nat.le_trans (by omega) h.out.sz)) hd ((HM.out.rd k hk4).below (h.out.ex.below (Nat.le_trans K.ab hB) (fun b hb => (K.gB b hb).1))))
  obtain ⟨n1, hn1⟩ : ∃ n1, n1 = M.fr.toNat := ⟨_, rfl⟩
  obtain ⟨n2, hn2⟩ : ∃ n2, n2 = M.tu.toNat := ⟨_, rfl⟩
  obtain ⟨n3, hn3⟩ : ∃ n3, n3 = M.ep.toNat := ⟨_, rfl⟩
  obtain ⟨n4, hn4⟩ : ∃ n4, n4 = M.nu.toNat := ⟨_, rfl⟩
  obtain ⟨n5, hn5⟩ : ∃ n5, n5 = M.ab.toNat := ⟨_, rfl⟩
  rw [← hn1] at EFR lfr
  rw [← hn2] at ETU ltu
  rw [← hn3] at EEP lep
  rw [← hn4] at ENU lnu
  rw [← hn5] at EAB lab
  have ln1 := lfr
  have ln2 := ltu
  have ln3 := lep
  have ln4 := lnu
  have ln5 := lab
  have HN1 := hid hn1
  have HN2 := hid hn2
  have HN3 := hid hn3
  have HN4 := hid hn4
  have HN5 := hid hn5
  clear hn1 hn2 hn3 hn4 hn5 lfr ltu lep lnu lab
  have x0 := HA0.out.wk.c0
  have x1 := HA0.out.wk.c1
  have x2 := HA0.out.wk.c2
  have m1 := HA0.out.ar.c1
  rw [EFR.out] at m1
  go_wp2_with fail
  refine (CW.out _ _ _ _ HA0 n1 1 1 rfl ln1 (by decide) (by decide)).mono ?_
  rintro e X1 ⟨U1, rfl, hU1, hI1, hE1⟩
  obtain ⟨s1, hs1⟩ : ∃ s1, s1 = (W.nf s n1 1).2 := ⟨_, rfl⟩
  rw [← hs1] at hI1
  have HS1 := hid hs1
  have HU1 := hid hU1.out.1
  clear hs1 hU1
  have HB1 := hid (HA0.out.call K hB hI1.out hE1.out)
  have HA1 := hid (HB1.out.put K hB (Wr.set _ _ 1 (.int .i64 (U1 : Int))) (o' := (⟨m.kd, U1, 0, 0, 0, 0, D0, false, none, 0, 0, false, 0, 0, none, 0, 0⟩ : Md)) (O' := (⟨M.kd, U1, 0, 0, 0, 0, d0z, d0z, d0z, d0z, false, [], false, 0, 0, []⟩ : Ml)) (HB1.out.ou.put1 1 _ _ rfl) { HB1.out.rp with fr := rfl })
  clear hI1 hE1
  clear x0 x1 x2 m1
  have x0 := HB1.out.wk.c0
  have x1 := HB1.out.wk.c1
  have x2 := HB1.out.wk.c2
  have z1 := HB1.out.ou.frozen 1
  have y1 := HB1.out.ou.c1
  have m2 := HB1.out.ar.c2
  rw [ETU.out] at m2
  go_wp2_with fail
  refine (CW.out _ _ _ _ HA1 n2 1 1 rfl ln2 (by decide) (by decide)).mono ?_
  rintro e X2 ⟨U2, rfl, hU2, hI2, hE2⟩
  obtain ⟨s2, hs2⟩ : ∃ s2, s2 = (W.nf s1 n2 1).2 := ⟨_, rfl⟩
  rw [← hs2] at hI2
  have HS2 := hid hs2
  have HU2 := hid hU2.out.1
  clear hs2 hU2
  have HB2 := hid (HA1.out.call K hB hI2.out hE2.out)
  have HA2 := hid (HB2.out.put K hB (Wr.set _ _ 2 (.int .i64 (U2 : Int))) (o' := (⟨m.kd, U1, U2, 0, 0, 0, D0, false, none, 0, 0, false, 0, 0, none, 0, 0⟩ : Md)) (O' := (⟨M.kd, U1, U2, 0, 0, 0, d0z, d0z, d0z, d0z, false, [], false, 0, 0, []⟩ : Ml)) (HB2.out.ou.put1 2 _ _ rfl) { HB2.out.rp with tu := rfl })
  clear hI2 hE2
  clear x0 x1 x2 z1 y1 m2
  have x0 := HB2.out.wk.c0
  have x1 := HB2.out.wk.c1
  have x2 := HB2.out.wk.c2
  have z2 := HB2.out.ou.frozen 2
  have y2 := HB2.out.ou.c2
  have m3 := HB2.out.ar.c3
  rw [EEP.out] at m3
  go_wp2_with fail
  refine (CW.out _ _ _ _ HA2 n3 2 2 rfl ln3 (by decide) (by decide)).mono ?_
  rintro e X3 ⟨U3, rfl, hU3, hI3, hE3⟩
  obtain ⟨s3, hs3⟩ : ∃ s3, s3 = (W.nf s2 n3 2).2 := ⟨_, rfl⟩
  rw [← hs3] at hI3
  have HS3 := hid hs3
  have HU3 := hid hU3.out.1
  clear hs3 hU3
  have HB3 := hid (HA2.out.call K hB hI3.out hE3.out)
  have HA3 := hid (HB3.out.put K hB (Wr.set _ _ 3 (.int .i64 (U3 : Int))) (o' := (⟨m.kd, U1, U2, U3, 0, 0, D0, false, none, 0, 0, false, 0, 0, none, 0, 0⟩ : Md)) (O' := (⟨M.kd, U1, U2, U3, 0, 0, d0z, d0z, d0z, d0z, false, [], false, 0, 0, []⟩ : Ml)) (HB3.out.ou.put1 3 _ _ rfl) { HB3.out.rp with ep := rfl })
  clear hI3 hE3
  clear x0 x1 x2 z2 y2 m3
  have x0 := HB3.out.wk.c0
  have x1 := HB3.out.wk.c1
  have x2 := HB3.out.wk.c2
  have z3 := HB3.out.ou.frozen 3
  have y3 := HB3.out.ou.c3
  have m4 := HB3.out.ar.c4
  rw [ENU.out] at m4
  go_wp2_with fail
  refine (CW.out _ _ _ _ HA3 n4 3 3 rfl ln4 (by decide) (by decide)).mono ?_
  rintro e X4 ⟨U4, rfl, hU4, hI4, hE4⟩
  obtain ⟨s4, hs4⟩ : ∃ s4, s4 = (W.nf s3 n4 3).2 := ⟨_, rfl⟩
  rw [← hs4] at hI4
  have HS4 := hid hs4
  have HU4 := hid hU4.out.1
  clear hs4 hU4
  have HB4 := hid (HA3.out.call K hB hI4.out hE4.out)
  have HA4 := hid (HB4.out.put K hB (Wr.set _ _ 4 (.int .i64 (U4 : Int))) (o' := (⟨m.kd, U1, U2, U3, U4, 0, D0, false, none, 0, 0, false, 0, 0, none, 0, 0⟩ : Md)) (O' := (⟨M.kd, U1, U2, U3, U4, 0, d0z, d0z, d0z, d0z, false, [], false, 0, 0, []⟩ : Ml)) (HB4.out.ou.put1 4 _ _ rfl) { HB4.out.rp with nu := rfl })
  clear hI4 hE4
  clear x0 x1 x2 z3 y3 m4
  have x0 := HB4.out.wk.c0
  have x1 := HB4.out.wk.c1
  have x2 := HB4.out.wk.c2
  have z4 := HB4.out.ou.frozen 4
  have y4 := HB4.out.ou.c4
  have m0 := HB4.out.ar.c0
  rw [HKD.out, hkk] at m0
  have m18 := HB4.out.ar.c18
  have CF := hid (K.flag s4 _ m.wa HA4.out.st (Nat.le_trans hB (Nat.le_trans (by omega) HA4.out.sz)))
  go_wp2_with fail
  refine CF.out.mono ?_
  rintro e X5 ⟨U5, rfl, hU5, hI5, hE5⟩
  obtain ⟨s5, hs5⟩ : ∃ s5, s5 = (W.ff s4 M.wa).2 := ⟨_, rfl⟩
  have hwa := HM.out.wa
  rw [hwa] at hU5 hI5
  rw [← hs5] at hI5
  have HS5 := hid hs5
  have HU5 := hid hU5.out
  clear hs5 hU5 CF hwa
  have HB5 := hid (HA4.out.call K hB hI5.out hE5.out)
  have HA5 := hid (HB5.out.put K hB (Wr.set _ _ 18 (.bool U5)) (o' := (⟨m.kd, U1, U2, U3, U4, 0, D0, U5, none, 0, 0, false, 0, 0, none, 0, 0⟩ : Md)) (O' := (⟨M.kd, U1, U2, U3, U4, 0, d0z, d0z, d0z, d0z, U5, [], false, 0, 0, []⟩ : Ml)) (HB5.out.ou.put1 18 _ _ rfl) { HB5.out.rp with wa := rfl })
  clear hI5 hE5
  clear x0 x1 x2 z4 y4 m0 m18
  have x0 := HB5.out.wk.c0
  have x1 := HB5.out.wk.c1
  have x2 := HB5.out.wk.c2
  have z18 := HB5.out.ou.frozen 18
  have y18 := HB5.out.ou.c18
  have m19 := HB5.out.ar.c19
  obtain ⟨N, hN⟩ : ∃ N, N = (W.nf s5 m.n 1).1 := ⟨_, rfl⟩
  have hln := (HM.out.ls.len)
  have hN2 : N ≤ 1000 := by rw [hN]; exact HK.out.nfl _ _ (by rw [← hln]; exact HK.out.lsn)
  have CE := hid (weachD_any K HA5.out.st (Nat.le_trans hB (Nat.le_trans (by omega) HA5.out.sz)) (HM.out.ls.below (HA5.out.ex.below (Nat.le_trans K.ab hB) (fun b hb => (K.gB b hb).1))) HK.out.ls (by rw [← hln]; exact HK.out.lsn) hN hN2)
  have HLN := hid hln
  have HN' := hid hN
  clear hN hN2 hln
  go_wp2_with fail
  refine CE.out.mono ?_
  rintro e X6 ⟨v, rfl, hO6, hI6, hE6⟩
  obtain ⟨LA, Lc, rfl, hF, _, _⟩ := hO6.out.form
  clear hF
  obtain ⟨N', hN'⟩ : ∃ N', N' = (W.nf s5 M.ls.length 1).1 := ⟨_, rfl⟩
  obtain ⟨sm, hsm⟩ : ∃ sm, sm = (W.nf s5 M.ls.length 1).2 := ⟨_, rfl⟩
  rw [HN'.out, ← HLN.out, ← hN', ← hsm] at hO6 hI6
  obtain ⟨r, hr⟩ : ∃ r, r = (lisP W M.ls sm N').1 := ⟨_, rfl⟩
  obtain ⟨s6, hs6⟩ : ∃ s6, s6 = (lisP W M.ls sm N').2 := ⟨_, rfl⟩
  rw [HN'.out, ← HLN.out, ← hN', ← hsm, ← hr]
  rw [← hr] at hO6
  rw [← hs6] at hI6
  have HS6 := hid (show s6 = (lisP W M.ls (W.nf s5 M.ls.length 1).2 (W.nf s5 M.ls.length 1).1).2 from by rw [hs6, hsm, hN'])
  have HL6 := hid (show r = (lisP W M.ls (W.nf s5 M.ls.length 1).2 (W.nf s5 M.ls.length 1).1).1 from by rw [hr, hsm, hN'])
  obtain ⟨rl, hrl⟩ : ∃ rl, rl = r.length := ⟨_, rfl⟩
  have HO6 := hid (hO6.out.mono' HA5.out.sz)
  rw [← hrl] at HO6 ⊢
  clear hO6 hrl hr hs6 hsm hN' CE
  have HB6 := hid (HA5.out.call K hB hI6.out hE6.out)
  have HA6 := hid (HB6.out.put K hB (Wr.set _ _ 19 (.slice LA rl Lc)) (o' := (⟨m.kd, U1, U2, U3, U4, 0, D0, U5, LA, rl, Lc, false, 0, 0, none, 0, 0⟩ : Md)) (O' := (⟨M.kd, U1, U2, U3, U4, 0, d0z, d0z, d0z, d0z, U5, r, false, 0, 0, []⟩ : Ml)) (HB6.out.ou.put1 19 _ _ rfl) { HB6.out.rp with ls := HO6.out })
  clear hI6 hE6
  clear x0 x1 x2 z18 y18 m19
  have x0 := HB6.out.wk.c0
  have x1 := HB6.out.wk.c1
  have x2 := HB6.out.wk.c2
  have z19 := HB6.out.ou.frozen 19
  have y19 := HB6.out.ou.c19
  go_upto_region 23 with fail
  have HD := hid (HA6.out.done K hB)
  have HP := hid HA6.out.ou
  have HZ := hid HA6.out.zr
  clear x0 x1 x2 z19 y19
  go_wp2_with (first | (refine wp_pload rfl (.tmp 5) (by with_reducible rfl) (w.heap.size + 1 + 1 + 1) _ (by rfl) HP.out ?_) | (refine wp_pstore rfl (.tmp 4) (.tmp 110) (by with_reducible rfl) (w.heap.size + 1 + 1) (Mz 0) _ (by rfl) (by rfl) HZ.out ?_) | fail)
  obtain ⟨q1, q2, q3, q4⟩ := HD.out
  have hh := headP_eq (M := M) HN1.out HN2.out HN3.out HN4.out HU1.out HS1.out HU2.out HS2.out HU3.out HS3.out HU4.out HS4.out
  have HQ : alongP W s M = ((⟨M.kd, U1, U2, U3, U4, 0, d0z, d0z, d0z, d0z, U5, r, false, 0, 0, []⟩ : Ml), s6) := by
    unfold alongP kindP hedP
    rw [hh, if_neg (by omega), if_neg (by omega), if_neg (by omega), if_neg (by omega), if_pos hkk]
    rw [HS6.out, HL6.out, HS5.out, HU5.out]
    try rfl
  refine ret_mail1 rfl (by rfl) rfl q1 ⟨_, rfl, hid ?_, hid ?_, hid q4⟩
  · rw [HQ]
    exact q2
  · rw [HQ]
    exact q3
open Go.RowKit Go.Shelf Go.Lib
set_option maxRecDepth 100000
set_option maxHeartbeats 64000000 in
theorem along_k6 {σ : Type} {W : Walker σ} {G : Nat → Prop} {Ba B : Nat} {I : σ → World → Prop} {Dv : World → Dy → Prop} {fn ff fd : Nat} {bd : Array Value} (K : Wlk W G Ba B I Dv fn ff fd bd)
    {s : σ} {w : World} (hs : I s w) (hB : B ≤ w.heap.size) {m : Md} {M : Ml} (ha : Arg w Ba m M) (hk : AlOk W s M) (hkk : M.kd = 6) :
    Calls Tryz.prog 21 #[wkv fn ff fd bd, .agg (mdc m)] w fun e w' =>
      ∃ m', e = .returned (.agg (mdc m')) ∧ Hid (Out Dv w' w.heap.size m' (alongP W s M).1) ∧ Hid (I (alongP W s M).2 w') ∧ Hid (Ex G w w') := by
  obtain ⟨w1, hw1⟩ : ∃ w1, w1 = ((w.alloc (.cells #[.func (.func fn) bd #[], .func (.func ff) bd #[], .func (.func fd) bd #[]] 57)).alloc (.cells (mdc m) 31)).alloc (.cells (mdc (Mz 0)) 31) := ⟨_, rfl⟩
  obtain ⟨w2, hw2⟩ : ∃ w2, w2 = pstore (w1.alloc (.cells (mdc (Mz 0)) 31)) (w.heap.size + 1 + 1 + 1) (Mz m.kd) := ⟨_, rfl⟩
  have hs1 : w1.heap.size = w.heap.size + 1 + 1 + 1 := by rw [hw1]; simp
  have HA0 := hid (along_head K hs hB ha hw1 hw2)
  have x1 : Pbox w1 (w.heap.size + 1) m := hw1 ▸ new31 w _ _ _
  have C0 := hid x1.c0
  have HM := hid ha
  have HK := hid hk
  have CW := hid (show ∀ (o : Md) (O : Ml) (s1 : σ) (X : World), Hid (Alg G I Dv fn ff fd bd w m o O s1 X) → ∀ (n z : Nat) (zi : Int), (z : Int) = zi → n < 4294967296 → 1 ≤ z → z ≤ 4 → _ from fun o O s1 X h n z zi hzi hn h1 h4 => whole_any K h.out.st (Nat.le_trans hB (Nat.le_trans (by omega) h.out.sz)) n z zi hzi hn h1 h4)
  have XN := hid (show Pbox (w1.alloc (.cells (mdc (Mz 0)) 31)) (w.heap.size + 1 + 1 + 1) (Mz 0) from hs1 ▸ new0 w1 _)
  have HW1 := hid hw1
  have HW2 := hid hw2
  have HS1 := hid hs1
  have en := K.en
  have ef := K.ef
  have ed := K.ed
  have efr : m.fr = ((M.fr.toNat : Nat) : Int) := by have := ha.fr; have := hk.fr; omega
  have etu : m.tu = ((M.tu.toNat : Nat) : Int) := by have := ha.tu; have := hk.tu; omega
  have eep : m.ep = ((M.ep.toNat : Nat) : Int) := by have := ha.ep; have := hk.ep; omega
  have enu : m.nu = ((M.nu.toNat : Nat) : Int) := by have := ha.nu; have := hk.nu; omega
  have eab : m.ab = ((M.ab.toNat : Nat) : Int) := by have := ha.ab; have := hk.ab; omega
  have lfr : M.fr.toNat < 4294967296 := by have := hk.fr; omega
  have ltu : M.tu.toNat < 4294967296 := by have := hk.tu; omega
  have lep : M.ep.toNat < 4294967296 := by have := hk.ep; omega
  have lnu : M.nu.toNat < 4294967296 := by have := hk.nu; omega
  have lab : M.ab.toNat < 4294967296 := by have := hk.ab; omega
  have EFR := hid efr
  have ETU := hid etu
  have EEP := hid eep
  have ENU := hid enu
  have EAB := hid eab
  have HKD := hid ha.kd
  have hkd := hk.kd
  clear hw1 hw2 hs ha hk hs1 x1 efr etu eep enu eab
  go_enter Tryz.func21, Tryz.ntmps21
  go_upto_region 1 with fail
  change Code.wp _ _ _ _ (((w.alloc (.cells #[.func (.func fn) bd #[], .func (.func ff) bd #[], .func (.func fd) bd #[]] 57)).alloc (.cells (mdc m) 31)).alloc (.cells (mdc (Mz 0)) 31))
  rw [← HW1.out]
  have c0 := C0.out
  have hs1 := HS1.out
  go_upto_region 2 with (first | (refine wp_pstore rfl (.tmp 5) (.tmp 8) (by with_reducible rfl) (w.heap.size + 1 + 1 + 1) (Mz 0) (Mz m.kd) (by rfl) (by rfl) XN.out ?_) | fail)
  change Code.wp _ _ _ _ (pstore (w1.alloc (.cells (mdc (Mz 0)) 31)) (w.heap.size + 1 + 1 + 1) (Mz m.kd))
  rw [← HW2.out]
  clear c0 C0 HW1 HW2 hs1 XN
  have CD := hid (show ∀ (o : Md) (O : Ml) (s1 : σ) (X : World), Hid (Alg G I Dv fn ff fd bd w m o O s1 X) → ∀ (k : Nat), k < 4 → ∀ d, DV (m.D k) d → _ from fun o O s1 X h k hk4 d hd => K.dyad s1 X (m.D k) d h.out.st (Nat.le_trans hB (Nat.le_trans (by omega) h.out.sz)) hd ((HM.out.rd k hk4).below (h.out.ex.below (Nat.le_trans K.ab hB) (fun b hb => (K.gB b hb).1))))
  obtain ⟨n1, hn1⟩ : ∃ n1, n1 = M.fr.toNat := ⟨_, rfl⟩
  obtain ⟨n2, hn2⟩ : ∃ n2, n2 = M.tu.toNat := ⟨_, rfl⟩
  obtain ⟨n3, hn3⟩ : ∃ n3, n3 = M.ep.toNat := ⟨_, rfl⟩
  obtain ⟨n4, hn4⟩ : ∃ n4, n4 = M.nu.toNat := ⟨_, rfl⟩
  obtain ⟨n5, hn5⟩ : ∃ n5, n5 = M.ab.toNat := ⟨_, rfl⟩
  rw [← hn1] at EFR lfr
  rw [← hn2] at ETU ltu
  rw [← hn3] at EEP lep
  rw [← hn4] at ENU lnu
  rw [← hn5] at EAB lab
  have ln1 := lfr
  have ln2 := ltu
  have ln3 := lep
  have ln4 := lnu
  have ln5 := lab
  have HN1 := hid hn1
  have HN2 := hid hn2
  have HN3 := hid hn3
  have HN4 := hid hn4
  have HN5 := hid hn5
  clear hn1 hn2 hn3 hn4 hn5 lfr ltu lep lnu lab
  have x0 := HA0.out.wk.c0
  have x1 := HA0.out.wk.c1
  have x2 := HA0.out.wk.c2
  have m1 := HA0.out.ar.c1
  rw [EFR.out] at m1
  go_wp2_with fail
  refine (CW.out _ _ _ _ HA0 n1 1 1 rfl ln1 (by decide) (by decide)).mono ?_
  rintro e X1 ⟨U1, rfl, hU1, hI1, hE1⟩
  obtain ⟨s1, hs1⟩ : ∃ s1, s1 = (W.nf s n1 1).2 := ⟨_, rfl⟩
  rw [← hs1] at hI1
  have HS1 := hid hs1
  have HU1 := hid hU1.out.1
  clear hs1 hU1
  have HB1 := hid (HA0.out.call K hB hI1.out hE1.out)
  have HA1 := hid (HB1.out.put K hB (Wr.set _ _ 1 (.int .i64 (U1 : Int))) (o' := (⟨m.kd, U1, 0, 0, 0, 0, D0, false, none, 0, 0, false, 0, 0, none, 0, 0⟩ : Md)) (O' := (⟨M.kd, U1, 0, 0, 0, 0, d0z, d0z, d0z, d0z, false, [], false, 0, 0, []⟩ : Ml)) (HB1.out.ou.put1 1 _ _ rfl) { HB1.out.rp with fr := rfl })
  clear hI1 hE1
  clear x0 x1 x2 m1
  have x0 := HB1.out.wk.c0
  have x1 := HB1.out.wk.c1
  have x2 := HB1.out.wk.c2
  have z1 := HB1.out.ou.frozen 1
  have y1 := HB1.out.ou.c1
  have m2 := HB1.out.ar.c2
  rw [ETU.out] at m2
  go_wp2_with fail
  refine (CW.out _ _ _ _ HA1 n2 1 1 rfl ln2 (by decide) (by decide)).mono ?_
  rintro e X2 ⟨U2, rfl, hU2, hI2, hE2⟩
  obtain ⟨s2, hs2⟩ : ∃ s2, s2 = (W.nf s1 n2 1).2 := ⟨_, rfl⟩
  rw [← hs2] at hI2
  have HS2 := hid hs2
  have HU2 := hid hU2.out.1
  clear hs2 hU2
  have HB2 := hid (HA1.out.call K hB hI2.out hE2.out)
  have HA2 := hid (HB2.out.put K hB (Wr.set _ _ 2 (.int .i64 (U2 : Int))) (o' := (⟨m.kd, U1, U2, 0, 0, 0, D0, false, none, 0, 0, false, 0, 0, none, 0, 0⟩ : Md)) (O' := (⟨M.kd, U1, U2, 0, 0, 0, d0z, d0z, d0z, d0z, false, [], false, 0, 0, []⟩ : Ml)) (HB2.out.ou.put1 2 _ _ rfl) { HB2.out.rp with tu := rfl })
  clear hI2 hE2
  clear x0 x1 x2 z1 y1 m2
  have x0 := HB2.out.wk.c0
  have x1 := HB2.out.wk.c1
  have x2 := HB2.out.wk.c2
  have z2 := HB2.out.ou.frozen 2
  have y2 := HB2.out.ou.c2
  have m3 := HB2.out.ar.c3
  rw [EEP.out] at m3
  go_wp2_with fail
  refine (CW.out _ _ _ _ HA2 n3 2 2 rfl ln3 (by decide) (by decide)).mono ?_
  rintro e X3 ⟨U3, rfl, hU3, hI3, hE3⟩
  obtain ⟨s3, hs3⟩ : ∃ s3, s3 = (W.nf s2 n3 2).2 := ⟨_, rfl⟩
  rw [← hs3] at hI3
  have HS3 := hid hs3
  have HU3 := hid hU3.out.1
  clear hs3 hU3
  have HB3 := hid (HA2.out.call K hB hI3.out hE3.out)
  have HA3 := hid (HB3.out.put K hB (Wr.set _ _ 3 (.int .i64 (U3 : Int))) (o' := (⟨m.kd, U1, U2, U3, 0, 0, D0, false, none, 0, 0, false, 0, 0, none, 0, 0⟩ : Md)) (O' := (⟨M.kd, U1, U2, U3, 0, 0, d0z, d0z, d0z, d0z, false, [], false, 0, 0, []⟩ : Ml)) (HB3.out.ou.put1 3 _ _ rfl) { HB3.out.rp with ep := rfl })
  clear hI3 hE3
  clear x0 x1 x2 z2 y2 m3
  have x0 := HB3.out.wk.c0
  have x1 := HB3.out.wk.c1
  have x2 := HB3.out.wk.c2
  have z3 := HB3.out.ou.frozen 3
  have y3 := HB3.out.ou.c3
  have m4 := HB3.out.ar.c4
  rw [ENU.out] at m4
  go_wp2_with fail
  refine (CW.out _ _ _ _ HA3 n4 3 3 rfl ln4 (by decide) (by decide)).mono ?_
  rintro e X4 ⟨U4, rfl, hU4, hI4, hE4⟩
  obtain ⟨s4, hs4⟩ : ∃ s4, s4 = (W.nf s3 n4 3).2 := ⟨_, rfl⟩
  rw [← hs4] at hI4
  have HS4 := hid hs4
  have HU4 := hid hU4.out.1
  clear hs4 hU4
  have HB4 := hid (HA3.out.call K hB hI4.out hE4.out)
  have HA4 := hid (HB4.out.put K hB (Wr.set _ _ 4 (.int .i64 (U4 : Int))) (o' := (⟨m.kd, U1, U2, U3, U4, 0, D0, false, none, 0, 0, false, 0, 0, none, 0, 0⟩ : Md)) (O' := (⟨M.kd, U1, U2, U3, U4, 0, d0z, d0z, d0z, d0z, false, [], false, 0, 0, []⟩ : Ml)) (HB4.out.ou.put1 4 _ _ rfl) { HB4.out.rp with nu := rfl })
  clear hI4 hE4
  clear x0 x1 x2 z3 y3 m4
  have x0 := HB4.out.wk.c0
  have x1 := HB4.out.wk.c1
  have x2 := HB4.out.wk.c2
  have z4 := HB4.out.ou.frozen 4
  have y4 := HB4.out.ou.c4
  have m0 := HB4.out.ar.c0
  rw [HKD.out, hkk] at m0
  have m20 := HB4.out.ar.c20
  have m21 := HB4.out.ar.c21
  have m22 := HB4.out.ar.c22
  obtain ⟨a1, ha1⟩ : ∃ a1, a1 = (M.mn + 2147483648).toNat := ⟨_, rfl⟩
  obtain ⟨a2, ha2⟩ : ∃ a2, a2 = (M.mx + 2147483648).toNat := ⟨_, rfl⟩
  have CE := hid (wedge_any K HA4.out.st (Nat.le_trans hB (Nat.le_trans (by omega) HA4.out.sz)) m.ha m.mn m.mx a1 a2 (by have := HM.out.mn; have := HK.out.mn; omega) (by have := HM.out.mx; have := HK.out.mx; omega) (by have := HK.out.mn; omega) (by have := HK.out.mx; omega))
  have HA1 := hid ha1
  have HA2 := hid ha2
  clear ha1 ha2
  go_wp2_with fail
  refine CE.out.mono ?_
  rintro e X5 ⟨U5, u, v, rfl, hP5, hI5, hE5⟩
  have hha := HM.out.ha
  rw [hha, HA1.out, HA2.out] at hP5 hI5
  obtain ⟨V1, V2, hV, _, _, hu, hv⟩ := hP5.out
  obtain ⟨s5, hs5⟩ : ∃ s5, s5 = (edgP W s4 M.ha (M.mn + 2147483648).toNat (M.mx + 2147483648).toNat).2 := ⟨_, rfl⟩
  rw [← hs5] at hI5
  have HS5 := hid hs5
  have HU5 := hid (show U5 = (edgP W s4 M.ha (M.mn + 2147483648).toNat (M.mx + 2147483648).toNat).1.1 from by rw [← hV])
  have HV5 := hid (show u = (((edgP W s4 M.ha (M.mn + 2147483648).toNat (M.mx + 2147483648).toNat).1.2.1 : Nat) : Int) - 2147483648 from by rw [← hV]; exact hu)
  have HV5' := hid (show v = (((edgP W s4 M.ha (M.mn + 2147483648).toNat (M.mx + 2147483648).toNat).1.2.2 : Nat) : Int) - 2147483648 from by rw [← hV]; exact hv)
  clear hs5 hP5 hV hu hv hha CE
  have HB5 := hid (HA4.out.call K hB hI5.out hE5.out)
  have HA5 := hid (HB5.out.put K hB (((Wr.set _ _ 20 _).trans (Wr.set _ _ 21 _)).trans (Wr.set _ _ 22 _)) (o' := (⟨m.kd, U1, U2, U3, U4, 0, D0, false, none, 0, 0, U5, u, v, none, 0, 0⟩ : Md)) (O' := (⟨M.kd, U1, U2, U3, U4, 0, d0z, d0z, d0z, d0z, false, [], U5, u, v, []⟩ : Ml)) (HB5.out.ou.put3 20 21 22 _ _ _ _ rfl) { HB5.out.rp with ha := rfl, mn := rfl, mx := rfl })
  clear hI5 hE5
  clear x0 x1 x2 z4 y4 m0 m20 m21 m22
  have x0 := HB5.out.wk.c0
  have x1 := HB5.out.wk.c1
  have x2 := HB5.out.wk.c2
  have z20 := HB5.out.ou.frozen 20
  have y20 := HB5.out.ou.c20
  have z21 := HB5.out.ou.frozen 21
  have y21 := HB5.out.ou.c21
  have z22 := HB5.out.ou.frozen 22
  have y22 := HB5.out.ou.c22
  have m23 := HB5.out.ar.c23
  obtain ⟨N, hN⟩ : ∃ N, N = (W.nf s5 m.k 1).1 := ⟨_, rfl⟩
  have hln := HM.out.tn
  have hN2 : N ≤ 1000 := by rw [hN]; exact HK.out.nfl _ _ (by rw [← hln]; exact HK.out.len)
  obtain ⟨tf, htf, htj⟩ := HM.out.tg
  have CE := hid (weachT_any K HA5.out.st (Nat.le_trans hB (Nat.le_trans (by omega) HA5.out.sz)) (htf.below (HA5.out.ex.below (Nat.le_trans K.ab hB) (fun b hb => (K.gB b hb).1))) hln htj (by rw [← hln]; exact HK.out.len) hN hN2)
  have HLN := hid hln
  have HN' := hid hN
  clear hN hN2 hln htf htj
  go_wp2_with fail
  refine CE.out.mono ?_
  rintro e X6 ⟨v', rfl, hO6, hI6, hE6⟩
  obtain ⟨LA, rl, Lc, rfl, hO', hF, _, _⟩ := hO6.out.form
  clear hF hO6
  have hO6 := hid hO'
  clear hO'
  obtain ⟨N', hN'⟩ : ∃ N', N' = (W.nf s5 M.le.length 1).1 := ⟨_, rfl⟩
  obtain ⟨sm, hsm⟩ : ∃ sm, sm = (W.nf s5 M.le.length 1).2 := ⟨_, rfl⟩
  rw [HN'.out, ← HLN.out, ← hN', ← hsm] at hO6 hI6
  obtain ⟨r, hr⟩ : ∃ r, r = (tgsP W M.le sm N').1 := ⟨_, rfl⟩
  obtain ⟨s6, hs6⟩ : ∃ s6, s6 = (tgsP W M.le sm N').2 := ⟨_, rfl⟩
  rw [← hr] at hO6
  rw [← hs6] at hI6
  have HS6 := hid (show s6 = (tgsP W M.le (W.nf s5 M.le.length 1).2 (W.nf s5 M.le.length 1).1).2 from by rw [hs6, hsm, hN'])
  have HL6 := hid (show r = (tgsP W M.le (W.nf s5 M.le.length 1).2 (W.nf s5 M.le.length 1).1).1 from by rw [hr, hsm, hN'])
  have HO6 := hid (hO6.out.mono HA5.out.sz)
  clear hO6 hr hs6 hsm hN' CE
  have HB6 := hid (HA5.out.call K hB hI6.out hE6.out)
  have HA6 := hid (HB6.out.put K hB (Wr.set _ _ 23 (.slice LA rl Lc)) (o' := (⟨m.kd, U1, U2, U3, U4, 0, D0, false, none, 0, 0, U5, u, v, LA, rl, Lc⟩ : Md)) (O' := (⟨M.kd, U1, U2, U3, U4, 0, d0z, d0z, d0z, d0z, false, [], U5, u, v, r⟩ : Ml)) (HB6.out.ou.put1 23 _ _ rfl) { HB6.out.rp with tg := HO6.out })
  clear hI6 hE6
  clear x0 x1 x2 z20 y20 z21 y21 z22 y22 m23
  have x0 := HB6.out.wk.c0
  have x1 := HB6.out.wk.c1
  have x2 := HB6.out.wk.c2
  have z23 := HB6.out.ou.frozen 23
  have y23 := HB6.out.ou.c23
  go_upto_region 23 with fail
  have HD := hid (HA6.out.done K hB)
  have HP := hid HA6.out.ou
  have HZ := hid HA6.out.zr
  clear x0 x1 x2 z23 y23
  go_wp2_with (first | (refine wp_pload rfl (.tmp 5) (by with_reducible rfl) (w.heap.size + 1 + 1 + 1) _ (by rfl) HP.out ?_) | (refine wp_pstore rfl (.tmp 4) (.tmp 110) (by with_reducible rfl) (w.heap.size + 1 + 1) (Mz 0) _ (by rfl) (by rfl) HZ.out ?_) | fail)
  obtain ⟨q1, q2, q3, q4⟩ := HD.out
  have hh := headP_eq (M := M) HN1.out HN2.out HN3.out HN4.out HU1.out HS1.out HU2.out HS2.out HU3.out HS3.out HU4.out HS4.out
  have HQ : alongP W s M = ((⟨M.kd, U1, U2, U3, U4, 0, d0z, d0z, d0z, d0z, false, [], U5, u, v, r⟩ : Ml), s6) := by
    unfold alongP kindP hedP
    rw [hh, if_neg (by omega), if_neg (by omega), if_neg (by omega), if_neg (by omega), if_neg (by omega), if_pos hkk]
    rw [HS6.out, HL6.out, HS5.out, HV5'.out, HV5.out, HU5.out]
    try rfl
  refine ret_mail1 rfl (by rfl) rfl q1 ⟨_, rfl, hid ?_, hid ?_, hid q4⟩
  · rw [HQ]
    exact q2
  · rw [HQ]
    exact q3
open Go.RowKit Go.Shelf Go.Lib
theorem along_any {σ : Type} {W : Walker σ} {G : Nat → Prop} {Ba B : Nat} {I : σ → World → Prop} {Dv : World → Dy → Prop} {fn ff fd : Nat} {bd : Array Value} (K : Wlk W G Ba B I Dv fn ff fd bd)
    {s : σ} {w : World} (hs : I s w) (hB : B ≤ w.heap.size) {m : Md} {M : Ml} (ha : Arg w Ba m M) (hk : AlOk W s M) :
    Calls Tryz.prog 21 #[wkv fn ff fd bd, .agg (mdc m)] w fun e w' =>
      ∃ m', e = .returned (.agg (mdc m')) ∧ Hid (Out Dv w' w.heap.size m' (alongP W s M).1) ∧ Hid (I (alongP W s M).2 w') ∧ Hid (Ex G w w') := by
  have h : M.kd = 1 ∨ M.kd = 2 ∨ M.kd = 3 ∨ M.kd = 4 ∨ M.kd = 5 ∨ M.kd = 6 ∨ (M.kd = 0 ∨ 6 < M.kd) := by omega
  rcases h with h | h | h | h | h | h | h
  · exact along_k1 K hs hB ha hk h
  · exact along_k2 K hs hB ha hk h
  · exact along_k3 K hs hB ha hk h
  · exact along_k4 K hs hB ha hk h
  · exact along_k5 K hs hB ha hk h
  · exact along_k6 K hs hB ha hk h
  · exact along_k0 K hs hB ha hk h
end Go.Proofs.YtbankbehfjogpaaGreat
namespace Go.Proofs.YtbankbehfjogpaaGreat
open Go.RowKit
set_option maxRecDepth 100000
def NRs (w : World) (A : Option Addr) (n c : Nat) (xs : List Nat) (p z : Int) (e : Ending) (w' : World) : Prop := ∃ A' n' c' V er, ∃ p' : Int, e = .returned (.tuple #[.agg #[.slice A' n' c', .int .i64 p'], .int .u64 ((V : Nat) : Int), .int .i64 er]) ∧
  Hid (er = nE n p z) ∧ Hid (er = 0 → A' = A ∧ n' = n ∧ c' = c) ∧ Hid (er ≠ 0 → A' = none ∧ n' = 0 ∧ c' = 0) ∧ Hid (p' = if er = 0 then p + z else 0) ∧ Hid (V = if er = 0 then bn ((xs.drop p.toNat).take z.toNat) else 0) ∧ Hid (Below w.heap.size w w')
theorem NRs.bad {w w' : World} {A : Option Addr} {n c : Nat} {xs : List Nat} {p z er : Int} (he : er = nE n p z) (h0 : er ≠ 0) (hb : Below w.heap.size w w') : NRs w A n c xs p z (.returned (.tuple #[.agg #[.slice none 0 0, .int .i64 0], .int .u64 0, .int .i64 er])) w' :=
  ⟨none, 0, 0, 0, er, 0, rfl, he, fun h => absurd h h0, fun _ => ⟨rfl, rfl, rfl⟩, by rw [if_neg h0]; exact rfl, by rw [if_neg h0]; exact rfl, hb⟩
set_option maxHeartbeats 3200000 in
theorem Number_s {w : World} {n c : Nat} {A : Option Addr} {xs : List Nat} (h : By w w.heap.size A n c xs) (p z : Int) :
    Calls Tryz.prog 65 #[.agg #[.slice A n c, .int .i64 p], .int .i64 z] w (NRs w A n c xs p z) := by
  obtain ⟨W, hW⟩ : ∃ W, W = (w.alloc (.cells #[.slice A n c, .int .i64 p] 63)).alloc (.cells #[.slice none 0 0, .int .i64 0] 63) := ⟨_, rfl⟩
  have B0 := hid (show Below w.heap.size w W from hW ▸ ((Below.refl w.heap.size w).alloc (Nat.le_refl _) _).alloc (by simp) _)
  have R0 : Hid (Rbox W 63 w.heap.size A n c p) := hid (hW ▸ (Below.heap_alloc _ _ _ (by simp)).trans (heap_alloc_new w _))
  have Z0 : Hid (Rbox W 63 (w.heap.size + 1) none 0 0 0) := hid (hW ▸ heap_alloc2_new w _ _)
  have HW := hid hW
  have HX := hid h
  have hmax := h.max
  clear hW h
  have C := mayRead_any A n c p W hmax
  have b0 := R0.out.c0
  have b1 := R0.out.c1
  by_cases h1 : 0 ≤ p ∧ p ≤ (n : Int)
  · rw [bool_of_dec h1] at C
    have HC := hid C
    obtain ⟨q, rfl⟩ : ∃ q : Nat, p = q := ⟨p.toNat, by omega⟩
    have CS := fun w => maySize_any z w
    by_cases h2 : 1 ≤ z ∧ z ≤ 8
    · obtain ⟨k, rfl⟩ : ∃ k : Nat, z = k := ⟨z.toNat, by omega⟩
      rw [bool_of_dec h2] at CS
      have HS := hid CS
      clear C CS
      go_enter Tryz.func65, Tryz.ntmps65
      go_upto_region 1 with fail
      rw [← HW.out]
      go_wp2_with fail
      refine HC.out.mono ?_
      rintro e w1 ⟨rfl, hb1⟩
      have R1 := hid (R0.out.below hb1.out R0.out.lt)
      have Z1 := hid (Z0.out.below hb1.out Z0.out.lt)
      have B1 := hid (B0.out.trans (hb1.out.mono B0.out.size))
      have e0 := R1.out.c0
      have e1 := R1.out.c1
      clear b0 b1
      go_wp2_with fail
      refine (HS.out _).mono ?_
      rintro e w2 ⟨rfl, rfl⟩
      have Z1lt := Z1.out.lt
      go_wp2_with fail
      have RR : Hid (Rbox (w1.alloc (.cells #[.slice A n c, .int .i64 (q : Int)] 141)) 141 w1.heap.size A n c (q : Int)) := heap_alloc_new w1 _
      have Ba := hid ((Below.refl w1.heap.size w1).alloc (Nat.le_refl _) (.cells #[.slice A n c, .int .i64 (q : Int)] 141))
      have hX2 := hid (HX.out.below (B1.out.trans (Ba.out.mono B1.out.size)))
      clear e0 e1
      by_cases hs : n < q + k
      · refine (next_short RR.out hs (by omega) (by omega) hmax).mono ?_
        rintro e w3 ⟨rfl, R3, hb3⟩
        have K3 := hid (Ba.out.trans (below_of_grown hb3.out (by simp)))
        have Z3 := hid (Z1.out.below K3.out Z1lt)
        have B3 := hid (B1.out.trans (K3.out.mono B1.out.size))
        have f0 := Z3.out.frozen 0
        have f1 := Z3.out.frozen 1
        have c0 := Z3.out.c0
        have c1 := Z3.out.c1
        have he : (40 : Int) = nE n q k := by unfold nE; rw [if_neg (by omega), if_neg (by omega), if_pos (by omega)]
        have HE := hid he
        clear he
        go_wp2
        refine ret_rest rfl rfl rfl rfl rfl ((Z3.out.set0 (D := none) (m := 0) (d := 0)).set1 0) ?_
        exact NRs.bad HE.out (by omega) ((B3.out.setCell (p := ⟨w.heap.size + 1, 0, none⟩) (by simp) _).setCell (p := ⟨w.heap.size + 1, 1, none⟩) (by simp) _)
      · refine (next_any RR.out hX2.out B1.out.size (by omega) (by omega)).mono ?_
        rintro e w3 ⟨rfl, R3, hb3⟩
        have K3 := hid (Ba.out.trans (below_of_grown hb3.out (by simp)))
        have Z3 := hid (Z1.out.below K3.out Z1lt)
        have B3 := hid (B1.out.trans (K3.out.mono B1.out.size))
        have f0 := Z3.out.frozen 0
        have f1 := Z3.out.frozen 1
        have c0 := Z3.out.c0
        have c1 := Z3.out.c1
        have r0 := R3.out.c0
        have r1 := R3.out.c1
        have he : (0 : Int) = nE n q k := by unfold nE; rw [if_neg (by omega), if_neg (by omega), if_neg (by omega)]
        have HE := hid he
        obtain ⟨V, hV⟩ : ∃ V, V = bn ((xs.drop q).take k) := ⟨_, rfl⟩
        rw [← hV]
        have HV := hid hV
        clear he hV
        go_wp2
        refine ret_rest rfl rfl rfl rfl rfl ((Z3.out.set0 (D := A) (m := n) (d := c)).set1 ((q + k : Nat) : Int)) ?_
        have B4 := (B3.out.setCell (p := ⟨w.heap.size + 1, 0, none⟩) (by simp) (.slice A n c)).setCell (p := ⟨w.heap.size + 1, 1, none⟩) (by simp) (.int .i64 ((q + k : Nat) : Int))
        exact ⟨A, n, c, V, 0, ((q + k : Nat) : Int), rfl, HE, fun _ => ⟨rfl, rfl, rfl⟩, fun h => absurd rfl h, by rw [if_pos rfl]; exact Int.natCast_add q k, by rw [if_pos rfl]; exact HV, B4⟩
    · rw [bool_of_not h2] at CS
      have HS := hid CS
      have HE : Hid ((2 : Int) = nE n q z) := hid (by unfold nE; rw [if_neg (by omega), if_pos h2])
      clear C CS h1 h2
      go_enter Tryz.func65, Tryz.ntmps65
      go_upto_region 1 with fail
      rw [← HW.out]
      go_wp2_with fail
      refine HC.out.mono ?_
      rintro e w1 ⟨rfl, hb1⟩
      have Z1 := hid (Z0.out.below hb1.out Z0.out.lt)
      have B1 := hid (B0.out.trans (hb1.out.mono B0.out.size))
      have f0 := Z1.out.frozen 0
      have f1 := Z1.out.frozen 1
      have c0 := Z1.out.c0
      have c1 := Z1.out.c1
      clear b0 b1
      go_wp2_with fail
      refine (HS.out _).mono ?_
      rintro e w2 ⟨rfl, rfl⟩
      go_wp2
      refine ret_rest rfl rfl rfl rfl rfl ((Z1.out.set0 (D := none) (m := 0) (d := 0)).set1 0) ?_
      exact NRs.bad HE.out (by omega) ((B1.out.setCell (p := ⟨w.heap.size + 1, 0, none⟩) (by simp) _).setCell (p := ⟨w.heap.size + 1, 1, none⟩) (by simp) _)
  · rw [bool_of_not h1] at C
    have HC := hid C
    have HE : Hid ((8 : Int) = nE n p z) := hid (by unfold nE; rw [if_pos h1])
    clear C h1
    go_enter Tryz.func65, Tryz.ntmps65
    go_upto_region 1 with fail
    rw [← HW.out]
    go_wp2_with fail
    refine HC.out.mono ?_
    rintro e w1 ⟨rfl, hb1⟩
    have Z1 := hid (Z0.out.below hb1.out Z0.out.lt)
    have B1 := hid (B0.out.trans (hb1.out.mono B0.out.size))
    have f0 := Z1.out.frozen 0
    have f1 := Z1.out.frozen 1
    have c0 := Z1.out.c0
    have c1 := Z1.out.c1
    clear b0 b1
    go_wp2
    refine ret_rest rfl rfl rfl rfl rfl ((Z1.out.set0 (D := none) (m := 0) (d := 0)).set1 0) ?_
    exact NRs.bad HE.out (by omega) ((B1.out.setCell (p := ⟨w.heap.size + 1, 0, none⟩) (by simp) _).setCell (p := ⟨w.heap.size + 1, 1, none⟩) (by simp) _)
end Go.Proofs.YtbankbehfjogpaaGreat
