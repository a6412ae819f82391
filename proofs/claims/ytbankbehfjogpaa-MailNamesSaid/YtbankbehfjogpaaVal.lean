/- A walk along a mail of a kind. -/
/- A walk along a mail of a kind. -/
/- A walk along a mail of a kind. -/
import Derived.Test.YtbankbehfjogpaaVak

namespace Go.Proofs.Ytbankbehfjogpaa
open Go.RowKit Go.Shelf Go.Lib
set_option maxRecDepth 100000

set_option maxHeartbeats 64000000 in
theorem along_k1 {σ : Type} {W : Walker σ} {G : Nat → Prop} {Ba B : Nat} {I : σ → World → Prop} {Dv : World → Dy → Prop} {fn ff fd : Nat} {bd : Array Value} (K : Wlk W G Ba B I Dv fn ff fd bd)
    {s : σ} {w : World} (hs : I s w) (hB : B ≤ w.heap.size) {m : Md} {M : Ml} (ha : Arg w Ba m M) (hk : AlOk W s M) (hkk : M.kd = 1) :
    Calls Try.prog 24 #[wkv fn ff fd bd, .agg (mdc m)] w fun e w' =>
      ∃ m', e = .returned (.agg (mdc m')) ∧ Hid (Out Dv w' w.heap.size m' (alongP W s M).1) ∧ Hid (I (alongP W s M).2 w') ∧ Hid (Ex G w w') := by
  obtain ⟨w1, hw1⟩ : ∃ w1, w1 = ((w.alloc (.cells #[.func (.func fn) bd #[], .func (.func ff) bd #[], .func (.func fd) bd #[]] 60)).alloc (.cells (mdc m) 31)).alloc (.cells (mdc (Mz 0)) 31) := ⟨_, rfl⟩
  obtain ⟨w2, hw2⟩ : ∃ w2, w2 = pstore (w1.alloc (.cells (mdc (Mz 0)) 31)) (w.heap.size + 1 + 1 + 1) (Mz m.kd) := ⟨_, rfl⟩
  have hs1 : w1.heap.size = w.heap.size + 1 + 1 + 1 := by rw [hw1]; simp
  have HA0 := hid (along_head K hs hB ha hw1 hw2)
  have x1 : Pbox w1 (w.heap.size + 1) m := hw1 ▸ new31 w _ _ _
  have C0 := hid x1.c0
  have HM := hid ha
  have HK := hid hk
  have CW := hid (show ∀ (o : Md) (O : Ml) (s1 : σ) (X : World), Hid (Alg G I Dv fn ff fd bd w m o O s1 X) → ∀ (n z : Nat) (zi : Int), (z : Int) = zi → n < 4294967296 → 1 ≤ z → z ≤ 4 → _ from fun o O s1 X h n z zi hzi hn h1 h4 => whole_any K h.out.st (Nat.le_trans hB (Nat.le_trans (by omega) h.out.sz)) n z zi hzi hn h1 h4)
  have XN := hid (show Pbox (w1.alloc (.cells (mdc (Mz 0)) 31)) (w.heap.size + 1 + 1 + 1) (Mz 0) from hs1 ▸ new0 w1 _)
  have HW1 := hid hw1
  have HW2 := hid hw2
  have HS1 := hid hs1
  have en := K.en
  have ef := K.ef
  have ed := K.ed
  have efr : m.fr = ((M.fr.toNat : Nat) : Int) := by have := ha.fr; have := hk.fr; omega
  have etu : m.tu = ((M.tu.toNat : Nat) : Int) := by have := ha.tu; have := hk.tu; omega
  have eep : m.ep = ((M.ep.toNat : Nat) : Int) := by have := ha.ep; have := hk.ep; omega
  have enu : m.nu = ((M.nu.toNat : Nat) : Int) := by have := ha.nu; have := hk.nu; omega
  have eab : m.ab = ((M.ab.toNat : Nat) : Int) := by have := ha.ab; have := hk.ab; omega
  have lfr : M.fr.toNat < 4294967296 := by have := hk.fr; omega
  have ltu : M.tu.toNat < 4294967296 := by have := hk.tu; omega
  have lep : M.ep.toNat < 4294967296 := by have := hk.ep; omega
  have lnu : M.nu.toNat < 4294967296 := by have := hk.nu; omega
  have lab : M.ab.toNat < 4294967296 := by have := hk.ab; omega
  have EFR := hid efr
  have ETU := hid etu
  have EEP := hid eep
  have ENU := hid enu
  have EAB := hid eab
  have HKD := hid ha.kd
  have hkd := hk.kd
  clear hw1 hw2 hs ha hk hs1 x1 efr etu eep enu eab
  go_enter Try.func24, Try.ntmps24
  go_upto_region 1 with fail
  change Code.wp _ _ _ _ (((w.alloc (.cells #[.func (.func fn) bd #[], .func (.func ff) bd #[], .func (.func fd) bd #[]] 60)).alloc (.cells (mdc m) 31)).alloc (.cells (mdc (Mz 0)) 31))
  rw [← HW1.out]
  have c0 := C0.out
  have hs1 := HS1.out
  go_upto_region 2 with (first | (refine wp_pstore rfl (.tmp 5) (.tmp 8) (by with_reducible rfl) (w.heap.size + 1 + 1 + 1) (Mz 0) (Mz m.kd) (by rfl) (by rfl) XN.out ?_) | fail)
  change Code.wp _ _ _ _ (pstore (w1.alloc (.cells (mdc (Mz 0)) 31)) (w.heap.size + 1 + 1 + 1) (Mz m.kd))
  rw [← HW2.out]
  clear c0 C0 HW1 HW2 hs1 XN
  have CD := hid (show ∀ (o : Md) (O : Ml) (s1 : σ) (X : World), Hid (Alg G I Dv fn ff fd bd w m o O s1 X) → ∀ (k : Nat), k < 4 → ∀ d, DV (m.D k) d → _ from fun o O s1 X h k hk4 d hd => K.dyad s1 X (m.D k) d h.out.st (Nat.le_trans hB (Nat.le_trans (by omega) h.out.sz)) hd ((HM.out.rd k hk4).below (h.out.ex.below (Nat.le_trans K.ab hB) (fun b hb => (K.gB b hb).1))))
  obtain ⟨n1, hn1⟩ : ∃ n1, n1 = M.fr.toNat := ⟨_, rfl⟩
  obtain ⟨n2, hn2⟩ : ∃ n2, n2 = M.tu.toNat := ⟨_, rfl⟩
  obtain ⟨n3, hn3⟩ : ∃ n3, n3 = M.ep.toNat := ⟨_, rfl⟩
  obtain ⟨n4, hn4⟩ : ∃ n4, n4 = M.nu.toNat := ⟨_, rfl⟩
  obtain ⟨n5, hn5⟩ : ∃ n5, n5 = M.ab.toNat := ⟨_, rfl⟩
  rw [← hn1] at EFR lfr
  rw [← hn2] at ETU ltu
  rw [← hn3] at EEP lep
  rw [← hn4] at ENU lnu
  rw [← hn5] at EAB lab
  have ln1 := lfr
  have ln2 := ltu
  have ln3 := lep
  have ln4 := lnu
  have ln5 := lab
  have HN1 := hid hn1
  have HN2 := hid hn2
  have HN3 := hid hn3
  have HN4 := hid hn4
  have HN5 := hid hn5
  clear hn1 hn2 hn3 hn4 hn5 lfr ltu lep lnu lab
  have x0 := HA0.out.wk.c0
  have x1 := HA0.out.wk.c1
  have x2 := HA0.out.wk.c2
  have m1 := HA0.out.ar.c1
  rw [EFR.out] at m1
  go_wp2_with fail
  refine (CW.out _ _ _ _ HA0 n1 1 1 rfl ln1 (by decide) (by decide)).mono ?_
  rintro e X1 ⟨U1, rfl, hU1, hI1, hE1⟩
  obtain ⟨s1, hs1⟩ : ∃ s1, s1 = (W.nf s n1 1).2 := ⟨_, rfl⟩
  rw [← hs1] at hI1
  have HS1 := hid hs1
  have HU1 := hid hU1.out.1
  clear hs1 hU1
  have HB1 := hid (HA0.out.call K hB hI1.out hE1.out)
  have HA1 := hid (HB1.out.put K hB (Wr.set _ _ 1 (.int .i64 (U1 : Int))) (o' := (⟨m.kd, U1, 0, 0, 0, 0, D0, false, none, 0, 0, false, 0, 0, none, 0, 0⟩ : Md)) (O' := (⟨M.kd, U1, 0, 0, 0, 0, d0z, d0z, d0z, d0z, false, [], false, 0, 0, []⟩ : Ml)) (HB1.out.ou.put1 1 _ _ rfl) { HB1.out.rp with fr := rfl })
  clear hI1 hE1
  clear x0 x1 x2 m1
  have x0 := HB1.out.wk.c0
  have x1 := HB1.out.wk.c1
  have x2 := HB1.out.wk.c2
  have z1 := HB1.out.ou.frozen 1
  have y1 := HB1.out.ou.c1
  have m2 := HB1.out.ar.c2
  rw [ETU.out] at m2
  go_wp2_with fail
  refine (CW.out _ _ _ _ HA1 n2 1 1 rfl ln2 (by decide) (by decide)).mono ?_
  rintro e X2 ⟨U2, rfl, hU2, hI2, hE2⟩
  obtain ⟨s2, hs2⟩ : ∃ s2, s2 = (W.nf s1 n2 1).2 := ⟨_, rfl⟩
  rw [← hs2] at hI2
  have HS2 := hid hs2
  have HU2 := hid hU2.out.1
  clear hs2 hU2
  have HB2 := hid (HA1.out.call K hB hI2.out hE2.out)
  have HA2 := hid (HB2.out.put K hB (Wr.set _ _ 2 (.int .i64 (U2 : Int))) (o' := (⟨m.kd, U1, U2, 0, 0, 0, D0, false, none, 0, 0, false, 0, 0, none, 0, 0⟩ : Md)) (O' := (⟨M.kd, U1, U2, 0, 0, 0, d0z, d0z, d0z, d0z, false, [], false, 0, 0, []⟩ : Ml)) (HB2.out.ou.put1 2 _ _ rfl) { HB2.out.rp with tu := rfl })
  clear hI2 hE2
  clear x0 x1 x2 z1 y1 m2
  have x0 := HB2.out.wk.c0
  have x1 := HB2.out.wk.c1
  have x2 := HB2.out.wk.c2
  have z2 := HB2.out.ou.frozen 2
  have y2 := HB2.out.ou.c2
  have m3 := HB2.out.ar.c3
  rw [EEP.out] at m3
  go_wp2_with fail
  refine (CW.out _ _ _ _ HA2 n3 2 2 rfl ln3 (by decide) (by decide)).mono ?_
  rintro e X3 ⟨U3, rfl, hU3, hI3, hE3⟩
  obtain ⟨s3, hs3⟩ : ∃ s3, s3 = (W.nf s2 n3 2).2 := ⟨_, rfl⟩
  rw [← hs3] at hI3
  have HS3 := hid hs3
  have HU3 := hid hU3.out.1
  clear hs3 hU3
  have HB3 := hid (HA2.out.call K hB hI3.out hE3.out)
  have HA3 := hid (HB3.out.put K hB (Wr.set _ _ 3 (.int .i64 (U3 : Int))) (o' := (⟨m.kd, U1, U2, U3, 0, 0, D0, false, none, 0, 0, false, 0, 0, none, 0, 0⟩ : Md)) (O' := (⟨M.kd, U1, U2, U3, 0, 0, d0z, d0z, d0z, d0z, false, [], false, 0, 0, []⟩ : Ml)) (HB3.out.ou.put1 3 _ _ rfl) { HB3.out.rp with ep := rfl })
  clear hI3 hE3
  clear x0 x1 x2 z2 y2 m3
  have x0 := HB3.out.wk.c0
  have x1 := HB3.out.wk.c1
  have x2 := HB3.out.wk.c2
  have z3 := HB3.out.ou.frozen 3
  have y3 := HB3.out.ou.c3
  have m4 := HB3.out.ar.c4
  rw [ENU.out] at m4
  go_wp2_with fail
  refine (CW.out _ _ _ _ HA3 n4 3 3 rfl ln4 (by decide) (by decide)).mono ?_
  rintro e X4 ⟨U4, rfl, hU4, hI4, hE4⟩
  obtain ⟨s4, hs4⟩ : ∃ s4, s4 = (W.nf s3 n4 3).2 := ⟨_, rfl⟩
  rw [← hs4] at hI4
  have HS4 := hid hs4
  have HU4 := hid hU4.out.1
  clear hs4 hU4
  have HB4 := hid (HA3.out.call K hB hI4.out hE4.out)
  have HA4 := hid (HB4.out.put K hB (Wr.set _ _ 4 (.int .i64 (U4 : Int))) (o' := (⟨m.kd, U1, U2, U3, U4, 0, D0, false, none, 0, 0, false, 0, 0, none, 0, 0⟩ : Md)) (O' := (⟨M.kd, U1, U2, U3, U4, 0, d0z, d0z, d0z, d0z, false, [], false, 0, 0, []⟩ : Ml)) (HB4.out.ou.put1 4 _ _ rfl) { HB4.out.rp with nu := rfl })
  clear hI4 hE4
  clear x0 x1 x2 z3 y3 m4
  have x0 := HB4.out.wk.c0
  have x1 := HB4.out.wk.c1
  have x2 := HB4.out.wk.c2
  have z4 := HB4.out.ou.frozen 4
  have y4 := HB4.out.ou.c4
  have m0 := HB4.out.ar.c0
  rw [HKD.out, hkk] at m0
  have m6 := HB4.out.ar.c6
  have m7 := HB4.out.ar.c7
  have m8 := HB4.out.ar.c8
  go_wp2_with fail
  refine (CD.out _ _ _ _ HA4 0 (by decide) _ HM.out.S).mono ?_
  rintro e X5 ⟨E5, rfl, hU5, hD5, hI5, hE5⟩
  obtain ⟨s5, hs5⟩ : ∃ s5, s5 = (W.df s4 M.S).2 := ⟨_, rfl⟩
  rw [← hs5] at hI5
  have HS5 := hid hs5
  obtain ⟨d5, hd5⟩ : ∃ d5, d5 = (W.df s4 M.S).1 := ⟨_, rfl⟩
  rw [← hd5] at hU5
  have HU5 := hid hd5
  clear hs5 hd5
  have HB5 := hid (HA4.out.call K hB hI5.out hE5.out)
  have HA5 := hid (HB5.out.put K hB (((Wr.set _ _ 6 _).trans (Wr.set _ _ 7 _)).trans (Wr.set _ _ 8 _)) (o' := (⟨m.kd, U1, U2, U3, U4, 0, (updD D0 0 E5), false, none, 0, 0, false, 0, 0, none, 0, 0⟩ : Md)) (O' := (⟨M.kd, U1, U2, U3, U4, 0, d5, d0z, d0z, d0z, false, [], false, 0, 0, []⟩ : Ml)) (HB5.out.ou.put3 6 7 8 _ _ _ _ rfl) { HB5.out.rp with S := hU5.out, dv := dv_upd HB5.out.rp.dv hD5.out })
  clear hI5 hE5
  clear x0 x1 x2 z4 y4 m0 m6 m7 m8
  have x0 := HB5.out.wk.c0
  have x1 := HB5.out.wk.c1
  have x2 := HB5.out.wk.c2
  have z6 := HB5.out.ou.frozen 6
  have y6 := HB5.out.ou.c6
  have z7 := HB5.out.ou.frozen 7
  have y7 := HB5.out.ou.c7
  have z8 := HB5.out.ou.frozen 8
  have y8 := HB5.out.ou.c8
  have m9 := HB5.out.ar.c9
  have m10 := HB5.out.ar.c10
  have m11 := HB5.out.ar.c11
  go_wp2_with fail
  refine (CD.out _ _ _ _ HA5 1 (by decide) _ HM.out.W).mono ?_
  rintro e X6 ⟨E6, rfl, hU6, hD6, hI6, hE6⟩
  obtain ⟨s6, hs6⟩ : ∃ s6, s6 = (W.df s5 M.W).2 := ⟨_, rfl⟩
  rw [← hs6] at hI6
  have HS6 := hid hs6
  obtain ⟨d6, hd6⟩ : ∃ d6, d6 = (W.df s5 M.W).1 := ⟨_, rfl⟩
  rw [← hd6] at hU6
  have HU6 := hid hd6
  clear hs6 hd6
  have HB6 := hid (HA5.out.call K hB hI6.out hE6.out)
  have HA6 := hid (HB6.out.put K hB (((Wr.set _ _ 9 _).trans (Wr.set _ _ 10 _)).trans (Wr.set _ _ 11 _)) (o' := (⟨m.kd, U1, U2, U3, U4, 0, (updD (updD D0 0 E5) 1 E6), false, none, 0, 0, false, 0, 0, none, 0, 0⟩ : Md)) (O' := (⟨M.kd, U1, U2, U3, U4, 0, d5, d6, d0z, d0z, false, [], false, 0, 0, []⟩ : Ml)) (HB6.out.ou.put3 9 10 11 _ _ _ _ rfl) { HB6.out.rp with W := hU6.out, dv := dv_upd HB6.out.rp.dv hD6.out })
  clear hI6 hE6
  clear x0 x1 x2 z6 y6 z7 y7 z8 y8 m9 m10 m11
  have x0 := HB6.out.wk.c0
  have x1 := HB6.out.wk.c1
  have x2 := HB6.out.wk.c2
  have z9 := HB6.out.ou.frozen 9
  have y9 := HB6.out.ou.c9
  have z10 := HB6.out.ou.frozen 10
  have y10 := HB6.out.ou.c10
  have z11 := HB6.out.ou.frozen 11
  have y11 := HB6.out.ou.c11
  go_upto_region 23 with fail
  have HD := hid (HA6.out.done K hB)
  have HP := hid HA6.out.ou
  have HZ := hid HA6.out.zr
  clear x0 x1 x2 z9 y9 z10 y10 z11 y11
  go_wp2_with (first | (refine wp_pload rfl (.tmp 5) (by with_reducible rfl) (w.heap.size + 1 + 1 + 1) _ (by rfl) HP.out ?_) | (refine wp_pstore rfl (.tmp 4) (.tmp 110) (by with_reducible rfl) (w.heap.size + 1 + 1) (Mz 0) _ (by rfl) (by rfl) HZ.out ?_) | fail)
  obtain ⟨q1, q2, q3, q4⟩ := HD.out
  have hh := headP_eq (M := M) HN1.out HN2.out HN3.out HN4.out HU1.out HS1.out HU2.out HS2.out HU3.out HS3.out HU4.out HS4.out
  have HQ : alongP W s M = ((⟨M.kd, U1, U2, U3, U4, 0, d5, d6, d0z, d0z, false, [], false, 0, 0, []⟩ : Ml), s6) := by
    unfold alongP kindP hedP
    rw [hh, if_pos hkk]
    rw [HS6.out, HU6.out, HS5.out, HU5.out]
    try rfl
  refine ret_mail1 rfl (by rfl) rfl q1 ⟨_, rfl, hid ?_, hid ?_, hid q4⟩
  · rw [HQ]
    exact q2
  · rw [HQ]
    exact q3
end Go.Proofs.Ytbankbehfjogpaa


namespace Go.Proofs.Ytbankbehfjogpaa
open Go.RowKit Go.Shelf Go.Lib
set_option maxRecDepth 100000

set_option maxHeartbeats 64000000 in
theorem along_k2 {σ : Type} {W : Walker σ} {G : Nat → Prop} {Ba B : Nat} {I : σ → World → Prop} {Dv : World → Dy → Prop} {fn ff fd : Nat} {bd : Array Value} (K : Wlk W G Ba B I Dv fn ff fd bd)
    {s : σ} {w : World} (hs : I s w) (hB : B ≤ w.heap.size) {m : Md} {M : Ml} (ha : Arg w Ba m M) (hk : AlOk W s M) (hkk : M.kd = 2) :
    Calls Try.prog 24 #[wkv fn ff fd bd, .agg (mdc m)] w fun e w' =>
      ∃ m', e = .returned (.agg (mdc m')) ∧ Hid (Out Dv w' w.heap.size m' (alongP W s M).1) ∧ Hid (I (alongP W s M).2 w') ∧ Hid (Ex G w w') := by
  obtain ⟨w1, hw1⟩ : ∃ w1, w1 = ((w.alloc (.cells #[.func (.func fn) bd #[], .func (.func ff) bd #[], .func (.func fd) bd #[]] 60)).alloc (.cells (mdc m) 31)).alloc (.cells (mdc (Mz 0)) 31) := ⟨_, rfl⟩
  obtain ⟨w2, hw2⟩ : ∃ w2, w2 = pstore (w1.alloc (.cells (mdc (Mz 0)) 31)) (w.heap.size + 1 + 1 + 1) (Mz m.kd) := ⟨_, rfl⟩
  have hs1 : w1.heap.size = w.heap.size + 1 + 1 + 1 := by rw [hw1]; simp
  have HA0 := hid (along_head K hs hB ha hw1 hw2)
  have x1 : Pbox w1 (w.heap.size + 1) m := hw1 ▸ new31 w _ _ _
  have C0 := hid x1.c0
  have HM := hid ha
  have HK := hid hk
  have CW := hid (show ∀ (o : Md) (O : Ml) (s1 : σ) (X : World), Hid (Alg G I Dv fn ff fd bd w m o O s1 X) → ∀ (n z : Nat) (zi : Int), (z : Int) = zi → n < 4294967296 → 1 ≤ z → z ≤ 4 → _ from fun o O s1 X h n z zi hzi hn h1 h4 => whole_any K h.out.st (Nat.le_trans hB (Nat.le_trans (by omega) h.out.sz)) n z zi hzi hn h1 h4)
  have XN := hid (show Pbox (w1.alloc (.cells (mdc (Mz 0)) 31)) (w.heap.size + 1 + 1 + 1) (Mz 0) from hs1 ▸ new0 w1 _)
  have HW1 := hid hw1
  have HW2 := hid hw2
  have HS1 := hid hs1
  have en := K.en
  have ef := K.ef
  have ed := K.ed
  have efr : m.fr = ((M.fr.toNat : Nat) : Int) := by have := ha.fr; have := hk.fr; omega
  have etu : m.tu = ((M.tu.toNat : Nat) : Int) := by have := ha.tu; have := hk.tu; omega
  have eep : m.ep = ((M.ep.toNat : Nat) : Int) := by have := ha.ep; have := hk.ep; omega
  have enu : m.nu = ((M.nu.toNat : Nat) : Int) := by have := ha.nu; have := hk.nu; omega
  have eab : m.ab = ((M.ab.toNat : Nat) : Int) := by have := ha.ab; have := hk.ab; omega
  have lfr : M.fr.toNat < 4294967296 := by have := hk.fr; omega
  have ltu : M.tu.toNat < 4294967296 := by have := hk.tu; omega
  have lep : M.ep.toNat < 4294967296 := by have := hk.ep; omega
  have lnu : M.nu.toNat < 4294967296 := by have := hk.nu; omega
  have lab : M.ab.toNat < 4294967296 := by have := hk.ab; omega
  have EFR := hid efr
  have ETU := hid etu
  have EEP := hid eep
  have ENU := hid enu
  have EAB := hid eab
  have HKD := hid ha.kd
  have hkd := hk.kd
  clear hw1 hw2 hs ha hk hs1 x1 efr etu eep enu eab
  go_enter Try.func24, Try.ntmps24
  go_upto_region 1 with fail
  change Code.wp _ _ _ _ (((w.alloc (.cells #[.func (.func fn) bd #[], .func (.func ff) bd #[], .func (.func fd) bd #[]] 60)).alloc (.cells (mdc m) 31)).alloc (.cells (mdc (Mz 0)) 31))
  rw [← HW1.out]
  have c0 := C0.out
  have hs1 := HS1.out
  go_upto_region 2 with (first | (refine wp_pstore rfl (.tmp 5) (.tmp 8) (by with_reducible rfl) (w.heap.size + 1 + 1 + 1) (Mz 0) (Mz m.kd) (by rfl) (by rfl) XN.out ?_) | fail)
  change Code.wp _ _ _ _ (pstore (w1.alloc (.cells (mdc (Mz 0)) 31)) (w.heap.size + 1 + 1 + 1) (Mz m.kd))
  rw [← HW2.out]
  clear c0 C0 HW1 HW2 hs1 XN
  have CD := hid (show ∀ (o : Md) (O : Ml) (s1 : σ) (X : World), Hid (Alg G I Dv fn ff fd bd w m o O s1 X) → ∀ (k : Nat), k < 4 → ∀ d, DV (m.D k) d → _ from fun o O s1 X h k hk4 d hd => K.dyad s1 X (m.D k) d h.out.st (Nat.le_trans hB (Nat.le_trans (by omega) h.out.sz)) hd ((HM.out.rd k hk4).below (h.out.ex.below (Nat.le_trans K.ab hB) (fun b hb => (K.gB b hb).1))))
  obtain ⟨n1, hn1⟩ : ∃ n1, n1 = M.fr.toNat := ⟨_, rfl⟩
  obtain ⟨n2, hn2⟩ : ∃ n2, n2 = M.tu.toNat := ⟨_, rfl⟩
  obtain ⟨n3, hn3⟩ : ∃ n3, n3 = M.ep.toNat := ⟨_, rfl⟩
  obtain ⟨n4, hn4⟩ : ∃ n4, n4 = M.nu.toNat := ⟨_, rfl⟩
  obtain ⟨n5, hn5⟩ : ∃ n5, n5 = M.ab.toNat := ⟨_, rfl⟩
  rw [← hn1] at EFR lfr
  rw [← hn2] at ETU ltu
  rw [← hn3] at EEP lep
  rw [← hn4] at ENU lnu
  rw [← hn5] at EAB lab
  have ln1 := lfr
  have ln2 := ltu
  have ln3 := lep
  have ln4 := lnu
  have ln5 := lab
  have HN1 := hid hn1
  have HN2 := hid hn2
  have HN3 := hid hn3
  have HN4 := hid hn4
  have HN5 := hid hn5
  clear hn1 hn2 hn3 hn4 hn5 lfr ltu lep lnu lab
  have x0 := HA0.out.wk.c0
  have x1 := HA0.out.wk.c1
  have x2 := HA0.out.wk.c2
  have m1 := HA0.out.ar.c1
  rw [EFR.out] at m1
  go_wp2_with fail
  refine (CW.out _ _ _ _ HA0 n1 1 1 rfl ln1 (by decide) (by decide)).mono ?_
  rintro e X1 ⟨U1, rfl, hU1, hI1, hE1⟩
  obtain ⟨s1, hs1⟩ : ∃ s1, s1 = (W.nf s n1 1).2 := ⟨_, rfl⟩
  rw [← hs1] at hI1
  have HS1 := hid hs1
  have HU1 := hid hU1.out.1
  clear hs1 hU1
  have HB1 := hid (HA0.out.call K hB hI1.out hE1.out)
  have HA1 := hid (HB1.out.put K hB (Wr.set _ _ 1 (.int .i64 (U1 : Int))) (o' := (⟨m.kd, U1, 0, 0, 0, 0, D0, false, none, 0, 0, false, 0, 0, none, 0, 0⟩ : Md)) (O' := (⟨M.kd, U1, 0, 0, 0, 0, d0z, d0z, d0z, d0z, false, [], false, 0, 0, []⟩ : Ml)) (HB1.out.ou.put1 1 _ _ rfl) { HB1.out.rp with fr := rfl })
  clear hI1 hE1
  clear x0 x1 x2 m1
  have x0 := HB1.out.wk.c0
  have x1 := HB1.out.wk.c1
  have x2 := HB1.out.wk.c2
  have z1 := HB1.out.ou.frozen 1
  have y1 := HB1.out.ou.c1
  have m2 := HB1.out.ar.c2
  rw [ETU.out] at m2
  go_wp2_with fail
  refine (CW.out _ _ _ _ HA1 n2 1 1 rfl ln2 (by decide) (by decide)).mono ?_
  rintro e X2 ⟨U2, rfl, hU2, hI2, hE2⟩
  obtain ⟨s2, hs2⟩ : ∃ s2, s2 = (W.nf s1 n2 1).2 := ⟨_, rfl⟩
  rw [← hs2] at hI2
  have HS2 := hid hs2
  have HU2 := hid hU2.out.1
  clear hs2 hU2
  have HB2 := hid (HA1.out.call K hB hI2.out hE2.out)
  have HA2 := hid (HB2.out.put K hB (Wr.set _ _ 2 (.int .i64 (U2 : Int))) (o' := (⟨m.kd, U1, U2, 0, 0, 0, D0, false, none, 0, 0, false, 0, 0, none, 0, 0⟩ : Md)) (O' := (⟨M.kd, U1, U2, 0, 0, 0, d0z, d0z, d0z, d0z, false, [], false, 0, 0, []⟩ : Ml)) (HB2.out.ou.put1 2 _ _ rfl) { HB2.out.rp with tu := rfl })
  clear hI2 hE2
  clear x0 x1 x2 z1 y1 m2
  have x0 := HB2.out.wk.c0
  have x1 := HB2.out.wk.c1
  have x2 := HB2.out.wk.c2
  have z2 := HB2.out.ou.frozen 2
  have y2 := HB2.out.ou.c2
  have m3 := HB2.out.ar.c3
  rw [EEP.out] at m3
  go_wp2_with fail
  refine (CW.out _ _ _ _ HA2 n3 2 2 rfl ln3 (by decide) (by decide)).mono ?_
  rintro e X3 ⟨U3, rfl, hU3, hI3, hE3⟩
  obtain ⟨s3, hs3⟩ : ∃ s3, s3 = (W.nf s2 n3 2).2 := ⟨_, rfl⟩
  rw [← hs3] at hI3
  have HS3 := hid hs3
  have HU3 := hid hU3.out.1
  clear hs3 hU3
  have HB3 := hid (HA2.out.call K hB hI3.out hE3.out)
  have HA3 := hid (HB3.out.put K hB (Wr.set _ _ 3 (.int .i64 (U3 : Int))) (o' := (⟨m.kd, U1, U2, U3, 0, 0, D0, false, none, 0, 0, false, 0, 0, none, 0, 0⟩ : Md)) (O' := (⟨M.kd, U1, U2, U3, 0, 0, d0z, d0z, d0z, d0z, false, [], false, 0, 0, []⟩ : Ml)) (HB3.out.ou.put1 3 _ _ rfl) { HB3.out.rp with ep := rfl })
  clear hI3 hE3
  clear x0 x1 x2 z2 y2 m3
  have x0 := HB3.out.wk.c0
  have x1 := HB3.out.wk.c1
  have x2 := HB3.out.wk.c2
  have z3 := HB3.out.ou.frozen 3
  have y3 := HB3.out.ou.c3
  have m4 := HB3.out.ar.c4
  rw [ENU.out] at m4
  go_wp2_with fail
  refine (CW.out _ _ _ _ HA3 n4 3 3 rfl ln4 (by decide) (by decide)).mono ?_
  rintro e X4 ⟨U4, rfl, hU4, hI4, hE4⟩
  obtain ⟨s4, hs4⟩ : ∃ s4, s4 = (W.nf s3 n4 3).2 := ⟨_, rfl⟩
  rw [← hs4] at hI4
  have HS4 := hid hs4
  have HU4 := hid hU4.out.1
  clear hs4 hU4
  have HB4 := hid (HA3.out.call K hB hI4.out hE4.out)
  have HA4 := hid (HB4.out.put K hB (Wr.set _ _ 4 (.int .i64 (U4 : Int))) (o' := (⟨m.kd, U1, U2, U3, U4, 0, D0, false, none, 0, 0, false, 0, 0, none, 0, 0⟩ : Md)) (O' := (⟨M.kd, U1, U2, U3, U4, 0, d0z, d0z, d0z, d0z, false, [], false, 0, 0, []⟩ : Ml)) (HB4.out.ou.put1 4 _ _ rfl) { HB4.out.rp with nu := rfl })
  clear hI4 hE4
  clear x0 x1 x2 z3 y3 m4
  have x0 := HB4.out.wk.c0
  have x1 := HB4.out.wk.c1
  have x2 := HB4.out.wk.c2
  have z4 := HB4.out.ou.frozen 4
  have y4 := HB4.out.ou.c4
  have m0 := HB4.out.ar.c0
  rw [HKD.out, hkk] at m0
  have m12 := HB4.out.ar.c12
  have m13 := HB4.out.ar.c13
  have m14 := HB4.out.ar.c14
  go_wp2_with fail
  refine (CD.out _ _ _ _ HA4 2 (by decide) _ HM.out.C).mono ?_
  rintro e X5 ⟨E5, rfl, hU5, hD5, hI5, hE5⟩
  obtain ⟨s5, hs5⟩ : ∃ s5, s5 = (W.df s4 M.C).2 := ⟨_, rfl⟩
  rw [← hs5] at hI5
  have HS5 := hid hs5
  obtain ⟨d5, hd5⟩ : ∃ d5, d5 = (W.df s4 M.C).1 := ⟨_, rfl⟩
  rw [← hd5] at hU5
  have HU5 := hid hd5
  clear hs5 hd5
  have HB5 := hid (HA4.out.call K hB hI5.out hE5.out)
  have HA5 := hid (HB5.out.put K hB (((Wr.set _ _ 12 _).trans (Wr.set _ _ 13 _)).trans (Wr.set _ _ 14 _)) (o' := (⟨m.kd, U1, U2, U3, U4, 0, (updD D0 2 E5), false, none, 0, 0, false, 0, 0, none, 0, 0⟩ : Md)) (O' := (⟨M.kd, U1, U2, U3, U4, 0, d0z, d0z, d5, d0z, false, [], false, 0, 0, []⟩ : Ml)) (HB5.out.ou.put3 12 13 14 _ _ _ _ rfl) { HB5.out.rp with C := hU5.out, dv := dv_upd HB5.out.rp.dv hD5.out })
  clear hI5 hE5
  clear x0 x1 x2 z4 y4 m0 m12 m13 m14
  have x0 := HB5.out.wk.c0
  have x1 := HB5.out.wk.c1
  have x2 := HB5.out.wk.c2
  have z12 := HB5.out.ou.frozen 12
  have y12 := HB5.out.ou.c12
  have z13 := HB5.out.ou.frozen 13
  have y13 := HB5.out.ou.c13
  have z14 := HB5.out.ou.frozen 14
  have y14 := HB5.out.ou.c14
  have m15 := HB5.out.ar.c15
  have m16 := HB5.out.ar.c16
  have m17 := HB5.out.ar.c17
  go_wp2_with fail
  refine (CD.out _ _ _ _ HA5 3 (by decide) _ HM.out.A).mono ?_
  rintro e X6 ⟨E6, rfl, hU6, hD6, hI6, hE6⟩
  obtain ⟨s6, hs6⟩ : ∃ s6, s6 = (W.df s5 M.A).2 := ⟨_, rfl⟩
  rw [← hs6] at hI6
  have HS6 := hid hs6
  obtain ⟨d6, hd6⟩ : ∃ d6, d6 = (W.df s5 M.A).1 := ⟨_, rfl⟩
  rw [← hd6] at hU6
  have HU6 := hid hd6
  clear hs6 hd6
  have HB6 := hid (HA5.out.call K hB hI6.out hE6.out)
  have HA6 := hid (HB6.out.put K hB (((Wr.set _ _ 15 _).trans (Wr.set _ _ 16 _)).trans (Wr.set _ _ 17 _)) (o' := (⟨m.kd, U1, U2, U3, U4, 0, (updD (updD D0 2 E5) 3 E6), false, none, 0, 0, false, 0, 0, none, 0, 0⟩ : Md)) (O' := (⟨M.kd, U1, U2, U3, U4, 0, d0z, d0z, d5, d6, false, [], false, 0, 0, []⟩ : Ml)) (HB6.out.ou.put3 15 16 17 _ _ _ _ rfl) { HB6.out.rp with A := hU6.out, dv := dv_upd HB6.out.rp.dv hD6.out })
  clear hI6 hE6
  clear x0 x1 x2 z12 y12 z13 y13 z14 y14 m15 m16 m17
  have x0 := HB6.out.wk.c0
  have x1 := HB6.out.wk.c1
  have x2 := HB6.out.wk.c2
  have z15 := HB6.out.ou.frozen 15
  have y15 := HB6.out.ou.c15
  have z16 := HB6.out.ou.frozen 16
  have y16 := HB6.out.ou.c16
  have z17 := HB6.out.ou.frozen 17
  have y17 := HB6.out.ou.c17
  go_upto_region 23 with fail
  have HD := hid (HA6.out.done K hB)
  have HP := hid HA6.out.ou
  have HZ := hid HA6.out.zr
  clear x0 x1 x2 z15 y15 z16 y16 z17 y17
  go_wp2_with (first | (refine wp_pload rfl (.tmp 5) (by with_reducible rfl) (w.heap.size + 1 + 1 + 1) _ (by rfl) HP.out ?_) | (refine wp_pstore rfl (.tmp 4) (.tmp 110) (by with_reducible rfl) (w.heap.size + 1 + 1) (Mz 0) _ (by rfl) (by rfl) HZ.out ?_) | fail)
  obtain ⟨q1, q2, q3, q4⟩ := HD.out
  have hh := headP_eq (M := M) HN1.out HN2.out HN3.out HN4.out HU1.out HS1.out HU2.out HS2.out HU3.out HS3.out HU4.out HS4.out
  have HQ : alongP W s M = ((⟨M.kd, U1, U2, U3, U4, 0, d0z, d0z, d5, d6, false, [], false, 0, 0, []⟩ : Ml), s6) := by
    unfold alongP kindP hedP
    rw [hh, if_neg (by omega), if_pos hkk]
    rw [HS6.out, HU6.out, HS5.out, HU5.out]
    try rfl
  refine ret_mail1 rfl (by rfl) rfl q1 ⟨_, rfl, hid ?_, hid ?_, hid q4⟩
  · rw [HQ]
    exact q2
  · rw [HQ]
    exact q3
end Go.Proofs.Ytbankbehfjogpaa


namespace Go.Proofs.Ytbankbehfjogpaa
open Go.RowKit Go.Shelf Go.Lib
set_option maxRecDepth 100000

set_option maxHeartbeats 64000000 in
theorem along_k3 {σ : Type} {W : Walker σ} {G : Nat → Prop} {Ba B : Nat} {I : σ → World → Prop} {Dv : World → Dy → Prop} {fn ff fd : Nat} {bd : Array Value} (K : Wlk W G Ba B I Dv fn ff fd bd)
    {s : σ} {w : World} (hs : I s w) (hB : B ≤ w.heap.size) {m : Md} {M : Ml} (ha : Arg w Ba m M) (hk : AlOk W s M) (hkk : M.kd = 3) :
    Calls Try.prog 24 #[wkv fn ff fd bd, .agg (mdc m)] w fun e w' =>
      ∃ m', e = .returned (.agg (mdc m')) ∧ Hid (Out Dv w' w.heap.size m' (alongP W s M).1) ∧ Hid (I (alongP W s M).2 w') ∧ Hid (Ex G w w') := by
  obtain ⟨w1, hw1⟩ : ∃ w1, w1 = ((w.alloc (.cells #[.func (.func fn) bd #[], .func (.func ff) bd #[], .func (.func fd) bd #[]] 60)).alloc (.cells (mdc m) 31)).alloc (.cells (mdc (Mz 0)) 31) := ⟨_, rfl⟩
  obtain ⟨w2, hw2⟩ : ∃ w2, w2 = pstore (w1.alloc (.cells (mdc (Mz 0)) 31)) (w.heap.size + 1 + 1 + 1) (Mz m.kd) := ⟨_, rfl⟩
  have hs1 : w1.heap.size = w.heap.size + 1 + 1 + 1 := by rw [hw1]; simp
  have HA0 := hid (along_head K hs hB ha hw1 hw2)
  have x1 : Pbox w1 (w.heap.size + 1) m := hw1 ▸ new31 w _ _ _
  have C0 := hid x1.c0
  have HM := hid ha
  have HK := hid hk
  have CW := hid (show ∀ (o : Md) (O : Ml) (s1 : σ) (X : World), Hid (Alg G I Dv fn ff fd bd w m o O s1 X) → ∀ (n z : Nat) (zi : Int), (z : Int) = zi → n < 4294967296 → 1 ≤ z → z ≤ 4 → _ from fun o O s1 X h n z zi hzi hn h1 h4 => whole_any K h.out.st (Nat.le_trans hB (Nat.le_trans (by omega) h.out.sz)) n z zi hzi hn h1 h4)
  have XN := hid (show Pbox (w1.alloc (.cells (mdc (Mz 0)) 31)) (w.heap.size + 1 + 1 + 1) (Mz 0) from hs1 ▸ new0 w1 _)
  have HW1 := hid hw1
  have HW2 := hid hw2
  have HS1 := hid hs1
  have en := K.en
  have ef := K.ef
  have ed := K.ed
  have efr : m.fr = ((M.fr.toNat : Nat) : Int) := by have := ha.fr; have := hk.fr; omega
  have etu : m.tu = ((M.tu.toNat : Nat) : Int) := by have := ha.tu; have := hk.tu; omega
  have eep : m.ep = ((M.ep.toNat : Nat) : Int) := by have := ha.ep; have := hk.ep; omega
  have enu : m.nu = ((M.nu.toNat : Nat) : Int) := by have := ha.nu; have := hk.nu; omega
  have eab : m.ab = ((M.ab.toNat : Nat) : Int) := by have := ha.ab; have := hk.ab; omega
  have lfr : M.fr.toNat < 4294967296 := by have := hk.fr; omega
  have ltu : M.tu.toNat < 4294967296 := by have := hk.tu; omega
  have lep : M.ep.toNat < 4294967296 := by have := hk.ep; omega
  have lnu : M.nu.toNat < 4294967296 := by have := hk.nu; omega
  have lab : M.ab.toNat < 4294967296 := by have := hk.ab; omega
  have EFR := hid efr
  have ETU := hid etu
  have EEP := hid eep
  have ENU := hid enu
  have EAB := hid eab
  have HKD := hid ha.kd
  have hkd := hk.kd
  clear hw1 hw2 hs ha hk hs1 x1 efr etu eep enu eab
  go_enter Try.func24, Try.ntmps24
  go_upto_region 1 with fail
  change Code.wp _ _ _ _ (((w.alloc (.cells #[.func (.func fn) bd #[], .func (.func ff) bd #[], .func (.func fd) bd #[]] 60)).alloc (.cells (mdc m) 31)).alloc (.cells (mdc (Mz 0)) 31))
  rw [← HW1.out]
  have c0 := C0.out
  have hs1 := HS1.out
  go_upto_region 2 with (first | (refine wp_pstore rfl (.tmp 5) (.tmp 8) (by with_reducible rfl) (w.heap.size + 1 + 1 + 1) (Mz 0) (Mz m.kd) (by rfl) (by rfl) XN.out ?_) | fail)
  change Code.wp _ _ _ _ (pstore (w1.alloc (.cells (mdc (Mz 0)) 31)) (w.heap.size + 1 + 1 + 1) (Mz m.kd))
  rw [← HW2.out]
  clear c0 C0 HW1 HW2 hs1 XN
  have CD := hid (show ∀ (o : Md) (O : Ml) (s1 : σ) (X : World), Hid (Alg G I Dv fn ff fd bd w m o O s1 X) → ∀ (k : Nat), k < 4 → ∀ d, DV (m.D k) d → _ from fun o O s1 X h k hk4 d hd => K.dyad s1 X (m.D k) d h.out.st (Nat.le_trans hB (Nat.le_trans (by omega) h.out.sz)) hd ((HM.out.rd k hk4).below (h.out.ex.below (Nat.le_trans K.ab hB) (fun b hb => (K.gB b hb).1))))
  obtain ⟨n1, hn1⟩ : ∃ n1, n1 = M.fr.toNat := ⟨_, rfl⟩
  obtain ⟨n2, hn2⟩ : ∃ n2, n2 = M.tu.toNat := ⟨_, rfl⟩
  obtain ⟨n3, hn3⟩ : ∃ n3, n3 = M.ep.toNat := ⟨_, rfl⟩
  obtain ⟨n4, hn4⟩ : ∃ n4, n4 = M.nu.toNat := ⟨_, rfl⟩
  obtain ⟨n5, hn5⟩ : ∃ n5, n5 = M.ab.toNat := ⟨_, rfl⟩
  rw [← hn1] at EFR lfr
  rw [← hn2] at ETU ltu
  rw [← hn3] at EEP lep
  rw [← hn4] at ENU lnu
  rw [← hn5] at EAB lab
  have ln1 := lfr
  have ln2 := ltu
  have ln3 := lep
  have ln4 := lnu
  have ln5 := lab
  have HN1 := hid hn1
  have HN2 := hid hn2
  have HN3 := hid hn3
  have HN4 := hid hn4
  have HN5 := hid hn5
  clear hn1 hn2 hn3 hn4 hn5 lfr ltu lep lnu lab
  have x0 := HA0.out.wk.c0
  have x1 := HA0.out.wk.c1
  have x2 := HA0.out.wk.c2
  have m1 := HA0.out.ar.c1
  rw [EFR.out] at m1
  go_wp2_with fail
  refine (CW.out _ _ _ _ HA0 n1 1 1 rfl ln1 (by decide) (by decide)).mono ?_
  rintro e X1 ⟨U1, rfl, hU1, hI1, hE1⟩
  obtain ⟨s1, hs1⟩ : ∃ s1, s1 = (W.nf s n1 1).2 := ⟨_, rfl⟩
  rw [← hs1] at hI1
  have HS1 := hid hs1
  have HU1 := hid hU1.out.1
  clear hs1 hU1
  have HB1 := hid (HA0.out.call K hB hI1.out hE1.out)
  have HA1 := hid (HB1.out.put K hB (Wr.set _ _ 1 (.int .i64 (U1 : Int))) (o' := (⟨m.kd, U1, 0, 0, 0, 0, D0, false, none, 0, 0, false, 0, 0, none, 0, 0⟩ : Md)) (O' := (⟨M.kd, U1, 0, 0, 0, 0, d0z, d0z, d0z, d0z, false, [], false, 0, 0, []⟩ : Ml)) (HB1.out.ou.put1 1 _ _ rfl) { HB1.out.rp with fr := rfl })
  clear hI1 hE1
  clear x0 x1 x2 m1
  have x0 := HB1.out.wk.c0
  have x1 := HB1.out.wk.c1
  have x2 := HB1.out.wk.c2
  have z1 := HB1.out.ou.frozen 1
  have y1 := HB1.out.ou.c1
  have m2 := HB1.out.ar.c2
  rw [ETU.out] at m2
  go_wp2_with fail
  refine (CW.out _ _ _ _ HA1 n2 1 1 rfl ln2 (by decide) (by decide)).mono ?_
  rintro e X2 ⟨U2, rfl, hU2, hI2, hE2⟩
  obtain ⟨s2, hs2⟩ : ∃ s2, s2 = (W.nf s1 n2 1).2 := ⟨_, rfl⟩
  rw [← hs2] at hI2
  have HS2 := hid hs2
  have HU2 := hid hU2.out.1
  clear hs2 hU2
  have HB2 := hid (HA1.out.call K hB hI2.out hE2.out)
  have HA2 := hid (HB2.out.put K hB (Wr.set _ _ 2 (.int .i64 (U2 : Int))) (o' := (⟨m.kd, U1, U2, 0, 0, 0, D0, false, none, 0, 0, false, 0, 0, none, 0, 0⟩ : Md)) (O' := (⟨M.kd, U1, U2, 0, 0, 0, d0z, d0z, d0z, d0z, false, [], false, 0, 0, []⟩ : Ml)) (HB2.out.ou.put1 2 _ _ rfl) { HB2.out.rp with tu := rfl })
  clear hI2 hE2
  clear x0 x1 x2 z1 y1 m2
  have x0 := HB2.out.wk.c0
  have x1 := HB2.out.wk.c1
  have x2 := HB2.out.wk.c2
  have z2 := HB2.out.ou.frozen 2
  have y2 := HB2.out.ou.c2
  have m3 := HB2.out.ar.c3
  rw [EEP.out] at m3
  go_wp2_with fail
  refine (CW.out _ _ _ _ HA2 n3 2 2 rfl ln3 (by decide) (by decide)).mono ?_
  rintro e X3 ⟨U3, rfl, hU3, hI3, hE3⟩
  obtain ⟨s3, hs3⟩ : ∃ s3, s3 = (W.nf s2 n3 2).2 := ⟨_, rfl⟩
  rw [← hs3] at hI3
  have HS3 := hid hs3
  have HU3 := hid hU3.out.1
  clear hs3 hU3
  have HB3 := hid (HA2.out.call K hB hI3.out hE3.out)
  have HA3 := hid (HB3.out.put K hB (Wr.set _ _ 3 (.int .i64 (U3 : Int))) (o' := (⟨m.kd, U1, U2, U3, 0, 0, D0, false, none, 0, 0, false, 0, 0, none, 0, 0⟩ : Md)) (O' := (⟨M.kd, U1, U2, U3, 0, 0, d0z, d0z, d0z, d0z, false, [], false, 0, 0, []⟩ : Ml)) (HB3.out.ou.put1 3 _ _ rfl) { HB3.out.rp with ep := rfl })
  clear hI3 hE3
  clear x0 x1 x2 z2 y2 m3
  have x0 := HB3.out.wk.c0
  have x1 := HB3.out.wk.c1
  have x2 := HB3.out.wk.c2
  have z3 := HB3.out.ou.frozen 3
  have y3 := HB3.out.ou.c3
  have m4 := HB3.out.ar.c4
  rw [ENU.out] at m4
  go_wp2_with fail
  refine (CW.out _ _ _ _ HA3 n4 3 3 rfl ln4 (by decide) (by decide)).mono ?_
  rintro e X4 ⟨U4, rfl, hU4, hI4, hE4⟩
  obtain ⟨s4, hs4⟩ : ∃ s4, s4 = (W.nf s3 n4 3).2 := ⟨_, rfl⟩
  rw [← hs4] at hI4
  have HS4 := hid hs4
  have HU4 := hid hU4.out.1
  clear hs4 hU4
  have HB4 := hid (HA3.out.call K hB hI4.out hE4.out)
  have HA4 := hid (HB4.out.put K hB (Wr.set _ _ 4 (.int .i64 (U4 : Int))) (o' := (⟨m.kd, U1, U2, U3, U4, 0, D0, false, none, 0, 0, false, 0, 0, none, 0, 0⟩ : Md)) (O' := (⟨M.kd, U1, U2, U3, U4, 0, d0z, d0z, d0z, d0z, false, [], false, 0, 0, []⟩ : Ml)) (HB4.out.ou.put1 4 _ _ rfl) { HB4.out.rp with nu := rfl })
  clear hI4 hE4
  clear x0 x1 x2 z3 y3 m4
  have x0 := HB4.out.wk.c0
  have x1 := HB4.out.wk.c1
  have x2 := HB4.out.wk.c2
  have z4 := HB4.out.ou.frozen 4
  have y4 := HB4.out.ou.c4
  have m0 := HB4.out.ar.c0
  rw [HKD.out, hkk] at m0
  have m5 := HB4.out.ar.c5
  rw [EAB.out] at m5
  go_wp2_with fail
  refine (CW.out _ _ _ _ HA4 n5 3 3 rfl ln5 (by decide) (by decide)).mono ?_
  rintro e X5 ⟨U5, rfl, hU5, hI5, hE5⟩
  obtain ⟨s5, hs5⟩ : ∃ s5, s5 = (W.nf s4 n5 3).2 := ⟨_, rfl⟩
  rw [← hs5] at hI5
  have HS5 := hid hs5
  have HU5 := hid hU5.out.1
  clear hs5 hU5
  have HB5 := hid (HA4.out.call K hB hI5.out hE5.out)
  have HA5 := hid (HB5.out.put K hB (Wr.set _ _ 5 (.int .i64 (U5 : Int))) (o' := (⟨m.kd, U1, U2, U3, U4, U5, D0, false, none, 0, 0, false, 0, 0, none, 0, 0⟩ : Md)) (O' := (⟨M.kd, U1, U2, U3, U4, U5, d0z, d0z, d0z, d0z, false, [], false, 0, 0, []⟩ : Ml)) (HB5.out.ou.put1 5 _ _ rfl) { HB5.out.rp with ab := rfl })
  clear hI5 hE5
  clear x0 x1 x2 z4 y4 m0 m5
  have x0 := HB5.out.wk.c0
  have x1 := HB5.out.wk.c1
  have x2 := HB5.out.wk.c2
  have z5 := HB5.out.ou.frozen 5
  have y5 := HB5.out.ou.c5
  have m12 := HB5.out.ar.c12
  have m13 := HB5.out.ar.c13
  have m14 := HB5.out.ar.c14
  go_wp2_with fail
  refine (CD.out _ _ _ _ HA5 2 (by decide) _ HM.out.C).mono ?_
  rintro e X6 ⟨E6, rfl, hU6, hD6, hI6, hE6⟩
  obtain ⟨s6, hs6⟩ : ∃ s6, s6 = (W.df s5 M.C).2 := ⟨_, rfl⟩
  rw [← hs6] at hI6
  have HS6 := hid hs6
  obtain ⟨d6, hd6⟩ : ∃ d6, d6 = (W.df s5 M.C).1 := ⟨_, rfl⟩
  rw [← hd6] at hU6
  have HU6 := hid hd6
  clear hs6 hd6
  have HB6 := hid (HA5.out.call K hB hI6.out hE6.out)
  have HA6 := hid (HB6.out.put K hB (((Wr.set _ _ 12 _).trans (Wr.set _ _ 13 _)).trans (Wr.set _ _ 14 _)) (o' := (⟨m.kd, U1, U2, U3, U4, U5, (updD D0 2 E6), false, none, 0, 0, false, 0, 0, none, 0, 0⟩ : Md)) (O' := (⟨M.kd, U1, U2, U3, U4, U5, d0z, d0z, d6, d0z, false, [], false, 0, 0, []⟩ : Ml)) (HB6.out.ou.put3 12 13 14 _ _ _ _ rfl) { HB6.out.rp with C := hU6.out, dv := dv_upd HB6.out.rp.dv hD6.out })
  clear hI6 hE6
  clear x0 x1 x2 z5 y5 m12 m13 m14
  have x0 := HB6.out.wk.c0
  have x1 := HB6.out.wk.c1
  have x2 := HB6.out.wk.c2
  have z12 := HB6.out.ou.frozen 12
  have y12 := HB6.out.ou.c12
  have z13 := HB6.out.ou.frozen 13
  have y13 := HB6.out.ou.c13
  have z14 := HB6.out.ou.frozen 14
  have y14 := HB6.out.ou.c14
  have m15 := HB6.out.ar.c15
  have m16 := HB6.out.ar.c16
  have m17 := HB6.out.ar.c17
  go_wp2_with fail
  refine (CD.out _ _ _ _ HA6 3 (by decide) _ HM.out.A).mono ?_
  rintro e X7 ⟨E7, rfl, hU7, hD7, hI7, hE7⟩
  obtain ⟨s7, hs7⟩ : ∃ s7, s7 = (W.df s6 M.A).2 := ⟨_, rfl⟩
  rw [← hs7] at hI7
  have HS7 := hid hs7
  obtain ⟨d7, hd7⟩ : ∃ d7, d7 = (W.df s6 M.A).1 := ⟨_, rfl⟩
  rw [← hd7] at hU7
  have HU7 := hid hd7
  clear hs7 hd7
  have HB7 := hid (HA6.out.call K hB hI7.out hE7.out)
  have HA7 := hid (HB7.out.put K hB (((Wr.set _ _ 15 _).trans (Wr.set _ _ 16 _)).trans (Wr.set _ _ 17 _)) (o' := (⟨m.kd, U1, U2, U3, U4, U5, (updD (updD D0 2 E6) 3 E7), false, none, 0, 0, false, 0, 0, none, 0, 0⟩ : Md)) (O' := (⟨M.kd, U1, U2, U3, U4, U5, d0z, d0z, d6, d7, false, [], false, 0, 0, []⟩ : Ml)) (HB7.out.ou.put3 15 16 17 _ _ _ _ rfl) { HB7.out.rp with A := hU7.out, dv := dv_upd HB7.out.rp.dv hD7.out })
  clear hI7 hE7
  clear x0 x1 x2 z12 y12 z13 y13 z14 y14 m15 m16 m17
  have x0 := HB7.out.wk.c0
  have x1 := HB7.out.wk.c1
  have x2 := HB7.out.wk.c2
  have z15 := HB7.out.ou.frozen 15
  have y15 := HB7.out.ou.c15
  have z16 := HB7.out.ou.frozen 16
  have y16 := HB7.out.ou.c16
  have z17 := HB7.out.ou.frozen 17
  have y17 := HB7.out.ou.c17
  go_upto_region 23 with fail
  have HD := hid (HA7.out.done K hB)
  have HP := hid HA7.out.ou
  have HZ := hid HA7.out.zr
  clear x0 x1 x2 z15 y15 z16 y16 z17 y17
  go_wp2_with (first | (refine wp_pload rfl (.tmp 5) (by with_reducible rfl) (w.heap.size + 1 + 1 + 1) _ (by rfl) HP.out ?_) | (refine wp_pstore rfl (.tmp 4) (.tmp 110) (by with_reducible rfl) (w.heap.size + 1 + 1) (Mz 0) _ (by rfl) (by rfl) HZ.out ?_) | fail)
  obtain ⟨q1, q2, q3, q4⟩ := HD.out
  have hh := headP_eq (M := M) HN1.out HN2.out HN3.out HN4.out HU1.out HS1.out HU2.out HS2.out HU3.out HS3.out HU4.out HS4.out
  have HQ : alongP W s M = ((⟨M.kd, U1, U2, U3, U4, U5, d0z, d0z, d6, d7, false, [], false, 0, 0, []⟩ : Ml), s7) := by
    unfold alongP kindP hedP
    rw [hh, if_neg (by omega), if_neg (by omega), if_pos hkk]
    rw [HS7.out, HU7.out, HS6.out, HU6.out, HS5.out, HU5.out, HN5.out]
    try rfl
  refine ret_mail1 rfl (by rfl) rfl q1 ⟨_, rfl, hid ?_, hid ?_, hid q4⟩
  · rw [HQ]
    exact q2
  · rw [HQ]
    exact q3
end Go.Proofs.Ytbankbehfjogpaa

