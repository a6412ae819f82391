/- EtherKeeps, what is taken. -/
import Derived.Test.YtbpijlghdpflgaaDoorYka
import Derived.Deep.CutRange
namespace Go.Proofs.YtbpijlghdpflgaaDoor.Eth
open Go.RowKit Go.Shelf Go.Lib

set_option maxHeartbeats 25600000 in
set_option maxRecDepth 100000 in
theorem keeps_full {T : World → Prop} (PQ : Paid T) {w : World} (hT : T w) {n c m d : Nat} {A D : Option Addr} {l : List Cp} {x y i : Int} {t : List Nat} {s : Bool} (h : Cls w w.heap.size A n c l) (ht : Gs w w.heap.size D m d 1 (cellsB t)) (hf : ∀ b ∈ t, b < 256) (hgr : ¬ grC l) (hm : ¬ 5000 < m) (hq0 : tkE l i = 0) : Calls Tryd.prog 5 #[.slice A n c, .int .i64 i, .agg #[.int .i64 x, .int .i64 y, .slice D m d, .bool s]] w fun e w' => e = .returned (.bool true) ∧ Below w.heap.size w w' := by
  have hz : ¬ (m : Int) > 5000 := by omega
  obtain ⟨W, hW⟩ : ∃ W, W = w.alloc (.cells #[.int .i64 x, .int .i64 y, .slice D m d, .bool s] 28) := ⟨_, rfl⟩
  have B0 := hid (show Below w.heap.size w W from hW ▸ (Below.refl _ w).alloc (Nat.le_refl _) _)
  have X0 := hid (show Cbx W w.heap.size x y D m d s from hW ▸ Cbx.new w x y D m d s)
  have HW := hid hW
  have H0 := hid (h.on (Nat.le_refl _) B0.out)
  have T0 := hid (ht.on (Nat.le_refl _) B0.out)
  have hl := hid h.len
  have hcap := h.cap
  have HF := hid hf
  clear hW h ht hf
  go_enter Tryd.func5, Tryd.ntmps5
  go_upto_region 1 with fail
  rw [← HW.out]
  go_wp2_with fail
  refine (alive_walk PQ.sn PQ.tk PQ.db PQ.sp PQ.st W (PQ.st _ _ hT B0.out)).mono ?_
  rintro e w1 ⟨rfl, h1⟩
  have b1 := hid (gbelow_on B0.out (Nat.le_refl _) h1.out)
  have X1 := hid (X0.out.below h1.out X0.out.lt)
  have L1 := hid (H0.out.on (Nat.le_refl _) h1.out)
  have T1 := hid (T0.out.on (Nat.le_refl _) h1.out)
  have x2 := X1.out.c2
  clear H0 T0 X0 B0 HW h1
  go_wp2_with fail
  refine (great_no L1.out hgr).mono ?_
  rintro e w2 ⟨rfl, rfl⟩
  clear hgr
  obtain ⟨k, p, rfl, hk, hp, hlen, hmay, hL, hC⟩ := tkE_zero hq0
  have CT := hid (PQ.tk _ _ _ _ _ _ (k : Int) L1.out (Nat.le_refl _))
  rw [hq0, hL, hC] at CT
  have hkn : k < n := by rw [← hl.out]; exact hk
  have hn16 : n ≤ 16 := by rw [← hl.out]; exact hlen
  have HP := hid hp
  have HD := hid (db_some hk hlen hmay hp)
  have HSN := hid (sn_some hk hlen hmay hp)
  have HBK := hid (fun h => tk_back (l := l) h hmay hp)
  have HTK := hid (show (l.take k ++ l.drop (k + 1)).take k = l.take k ∧ (l.take k ++ l.drop (k + 1)).drop k = l.drop (k + 1) from
    ⟨List.take_left' (by rw [List.length_take]; omega), List.drop_left' (by rw [List.length_take]; omega)⟩)
  have HLR := hid (show (l.take k ++ l.drop (k + 1)).length = n - 1 by rw [List.length_append, List.length_take, List.length_drop, hl.out]; omega)
  clear hk hp hlen hmay hL hC hq0
  go_wp2_with fail
  refine CT.out.mono ?_
  rintro e w3 ⟨A2, n2, c2, rs2, u2, v2, D2, m2, d2, s2, S2, rfl, h2⟩
  obtain rfl : n2 = n - 1 := h2.out.2.2.2.2.2.trans HLR.out
  have b3 := hid (gbelow_on b1.out (Nat.le_refl _) h2.out.2.2.2.2.1)
  have hL3 := L1.out.on (Nat.le_refl _) h2.out.2.2.2.2.1
  obtain ⟨b, off, u, v, D1, m1, d1, t1, s1, rfl, hb, hp1, e0, e1, e2, e3, ht1, hf1⟩ := hL3.get hkn
  have hpe : p = (u, v, t1, s1) := by rw [HP.out] at hp1; injection hp1
  subst hpe
  obtain ⟨z0, z1, z2, z3, z4⟩ := h2.out.2.2.2.1
  dsimp only at z0 z1 z2 z3 z4
  subst z0 z1 z2
  obtain ⟨W4, hW4⟩ : ∃ W4, W4 = w3.alloc (.cells #[.int .i64 u2, .int .i64 v2, .slice D2 m2 d2, .bool s2] 28) := ⟨_, rfl⟩
  have bb := hid (show Below w3.heap.size w3 W4 from hW4 ▸ (Below.refl _ w3).alloc (Nat.le_refl _) _)
  have X9 := hid (show Cbx W4 w3.heap.size u2 v2 D2 m2 d2 s2 from hW4 ▸ Cbx.new w3 u2 v2 D2 m2 d2 s2)
  have b4 := hid (gbelow_on b3.out (Nat.le_refl _) bb.out)
  have X4 := hid (X1.out.below (h2.out.2.2.2.2.1.trans (bb.out.mono h2.out.2.2.2.2.1.size)) X1.out.lt)
  have T4 := hid ((T1.out.on (Nat.le_refl _) h2.out.2.2.2.2.1).on (Nat.le_refl _) bb.out)
  have L4 := hid (hL3.on (Nat.le_refl _) bb.out)
  have R4 := hid ((h2.out.1.below bb.out).cls)
  have Q4 := hid (z3.on (Nat.le_refl _) bb.out)
  have HW4 := hid hW4
  have HF1 := hid hf1
  have HCl := hid (fun (X : World) (hX : Below W4.heap.size W4 X) => show (X.cell? ⟨w3.heap.size, 0, none⟩ = some (.int .i64 u2) ∧ X.cell? ⟨w3.heap.size, 1, none⟩ = some (.int .i64 v2) ∧ X.cell? ⟨w3.heap.size, 2, none⟩ = some (.slice D2 m2 d2) ∧ X.cell? ⟨w3.heap.size, 3, none⟩ = some (.bool s2)) ∧ X.cell? ⟨b, off + k * 4, none⟩ = some (.int .i64 u2) ∧ X.cell? ⟨b, off + k * 4 + 1, none⟩ = some (.int .i64 v2) ∧ X.cell? ⟨b, off + k * 4 + 2, none⟩ = some (.slice D1 m1 d1) ∧ X.cell? ⟨b, off + k * 4 + 3, none⟩ = some (.bool s2) from
    have hx := X9.out.below hX X9.out.lt
    have hy := bb.out.trans (hX.mono bb.out.size)
    ⟨⟨hx.c0, hx.c1, hx.c2, hx.c3⟩, (hy.cell (p := ⟨b, off + k * 4, none⟩) hb).trans e0, (hy.cell (p := ⟨b, off + k * 4 + 1, none⟩) hb).trans e1, (hy.cell (p := ⟨b, off + k * 4 + 2, none⟩) hb).trans e2, (hy.cell (p := ⟨b, off + k * 4 + 3, none⟩) hb).trans e3⟩)
  have Q1 := hid (ht1.on (Nat.le_refl _) bb.out)
  have SO := hid (fun (X : World) (hX : Below W4.heap.size W4 X) => sameOne_any (x := u2) (y := v2) (s := s2) (x' := u2) (y' := v2) (s' := s2) (Q4.out.on (Nat.le_refl _) hX) HF1.out (Q1.out.on (Nat.le_refl _) hX) HF1.out (Nat.le_refl _) (Nat.le_refl _))
  rw [decide_eq_true rfl] at SO
  have hcap2 := R4.out.cap
  clear h2 CT hL3 hb hp1 e0 e1 e2 e3 ht1 hf1 z3 z4 hW4 bb b3 L1 T1 X1 x2
  have hw3 : IntKind.i64.wrap ((k : Int) + 1) = (k : Int) + 1 := by rw [IntKind.wrap_i64]; omega
  have htn : ((k : Int) + 1).toNat = k + 1 := by omega
  have hb1 : (0 : Int) ≤ (k : Int) + 1 := by omega
  have hb2 : (k : Int) + 1 ≤ (n : Int) := by omega
  have hb3 : (k : Int) ≤ (c : Int) := by omega
  have hb4 : (k : Int) ≤ (c2 : Int) := by omega
  have hb5 : (k : Int) ≤ (n : Int) := by omega
  have hb6 : (k : Int) < (n : Int) := by omega
  have hb7 : ¬ (k : Int) < 0 := by omega
  have hb8 : ¬ (k : Int) ≥ (n : Int) := by omega
  have hb9 : (k : Int) ≤ ((n - 1 : Nat) : Int) := by omega
  have hd0 : decide ((k : Int) < 0) = false := decide_eq_false (by omega)
  have hd1 : decide (n ≤ k) = false := decide_eq_false (by omega)
  have mixed : Tryd.prog.follows .mixedOrders = true := by kernel_rfl
  go_upto_region 7 with fail
  rw [← HW4.out]
  have HB0 := hid ((Below.refl W4.heap.size W4).drew)
  go_cut [112] from 75 to 112 (fun s112 wx => s112 = .bool false ∧ Hid (Below W4.heap.size W4 wx))
  case rest =>
    obtain ⟨rfl, HBc⟩ := hcut
    have b5 := hid (gbelow_on b4.out (Nat.le_refl _) HBc.out)
    have L5 := hid (L4.out.on (Nat.le_refl _) HBc.out)
    have R5 := hid (R4.out.on (Nat.le_refl _) HBc.out)
    have X9c := hid (X9.out.below HBc.out X9.out.lt)
    have X5 := hid (X4.out.below HBc.out X4.out.lt)
    have T5 := hid (T4.out.on (Nat.le_refl _) HBc.out)
    have Q5 := hid (Q4.out.on (Nat.le_refl _) HBc.out)
    have CD := hid (PQ.db _ _ _ _ _ _ (k : Int) L5.out (Nat.le_refl _))
    clear b4 L4 R4 X9 X4 T4 Q4 Q1 SO HCl HB0 HBc HTK HW4
    by_cases h16 : 16 ≤ n
    · have HE := hid (show dbE l (k : Int) = 9 from by rw [HD.out.1, if_pos (by rw [hl.out]; exact h16)])
      have HE2 := hid (show dbL l (k : Int) = [] from if_neg (by rw [HE.out]; decide))
      have hnb : ((n : Int) == 16) = true := by rw [beq_iff_eq]; omega
      rw [HE.out, HE2.out] at CD
      go_wp2_with fail
      refine CD.out.mono ?_
      rintro e w6 ⟨A6, n6, c6, rs6, rfl, h6⟩
      have b6 := hid (gbelow_on b5.out (Nat.le_refl _) h6.out.2.1)
      have L6 := hid (L5.out.on (Nat.le_refl _) h6.out.2.1)
      have D6 := hid h6.out.1.cls
      clear h6 CD b5 L5 X9c X5 T5 Q5 R5 HBK
      obtain ⟨bq, oq, uq, vq, Dq, mq, dq, tq, sq, eq1, _, hpq, e0, e1, e2, e3, htq, hfq⟩ := L6.out.get hkn
      obtain ⟨rfl, rfl⟩ : b = bq ∧ off = oq := by injection eq1 with e; injection e with e1 e2; exact ⟨e1, e2⟩
      rw [HP.out] at hpq
      simp only [Option.some.injEq, Prod.mk.injEq] at hpq
      obtain ⟨rfl, rfl, rfl, rfl⟩ := hpq
      have CS := hid (PQ.sn _ _ _ _ _ _ _ _ _ _ u2 v2 _ s2 L6.out (Nat.le_refl _) htq hfq (Nat.le_refl _))
      rw [HSN.out.1, HSN.out.2, HE.out, HE2.out] at CS
      clear eq1 htq hfq HSN HE HE2 HD
      go_wp2_with fail
      refine CS.out.mono ?_
      rintro e w7 ⟨A7, n7, c7, rs7, rfl, h7⟩
      have b7 := hid (gbelow_on b6.out (Nat.le_refl _) h7.out.2.1)
      have CE := hid (PQ.sm _ _ _ _ _ _ _ _ _ _ _ (D6.out.on (Nat.le_refl _) h7.out.2.1) h7.out.1.cls (Nat.le_refl _) (Nat.le_refl _))
      rw [decide_eq_true rfl] at CE
      clear h7 CS b6 L6 D6 e0 e1 e2 e3
      go_wp2_with fail
      refine CE.out.mono ?_
      rintro e w8 ⟨rfl, h8⟩
      go_wp2
      go_ret
      exact ⟨rfl, gbelow_on b7.out (Nat.le_refl _) h8.out⟩
    have HE := hid (show dbE l (k : Int) = 0 ∧ dbL l (k : Int) = l ++ [(u2, v2, t1, s2)] from ⟨by rw [HD.out.1, if_neg (by rw [hl.out]; exact h16)], HD.out.2 (by rw [hl.out]; exact h16)⟩)
    have HB2 := hid (show tkE (l ++ [(u2, v2, t1, s2)]) (n : Int) = 0 ∧ tkL (l ++ [(u2, v2, t1, s2)]) (n : Int) = l ∧ tkC (l ++ [(u2, v2, t1, s2)]) (n : Int) = (u2, v2, t1, s2) from by
      have := HBK.out (by rw [hl.out]; exact h16)
      rw [hl.out] at this
      exact this)
    rw [HE.out.1, HE.out.2] at CD
    clear HBK HD
    go_wp2_with fail
    refine CD.out.mono ?_
    rintro e w6 ⟨A6, n6, c6, rs6, rfl, h6⟩
    have b6 := hid (gbelow_on b5.out (Nat.le_refl _) h6.out.2.1)
    have L6 := hid (L5.out.on (Nat.le_refl _) h6.out.2.1)
    have R6 := hid (R5.out.on (Nat.le_refl _) h6.out.2.1)
    have X9d := hid (X9c.out.below h6.out.2.1 X9c.out.lt)
    have X6 := hid (X5.out.below h6.out.2.1 X5.out.lt)
    have T6 := hid (T5.out.on (Nat.le_refl _) h6.out.2.1)
    have Q6 := hid (Q5.out.on (Nat.le_refl _) h6.out.2.1)
    have D6 := hid h6.out.1.cls
    clear h6 CD b5 L5 X9c X5 T5 Q5 R5
    obtain ⟨bq, oq, uq, vq, Dq, mq, dq, tq, sq, eq1, _, hpq, e0, e1, e2, e3, htq, hfq⟩ := L6.out.get hkn
    obtain ⟨rfl, rfl⟩ : b = bq ∧ off = oq := by injection eq1 with e; injection e with e1 e2; exact ⟨e1, e2⟩
    rw [HP.out] at hpq
    simp only [Option.some.injEq, Prod.mk.injEq] at hpq
    obtain ⟨rfl, rfl, rfl, rfl⟩ := hpq
    have CS := hid (PQ.sn _ _ _ _ _ _ _ _ _ _ u2 v2 _ s2 L6.out (Nat.le_refl _) htq hfq (Nat.le_refl _))
    rw [HSN.out.1, HSN.out.2, HE.out.1, HE.out.2] at CS
    clear eq1 htq hfq HSN HE
    go_wp2_with fail
    refine CS.out.mono ?_
    rintro e w7 ⟨A7, n7, c7, rs7, rfl, h7⟩
    have b7 := hid (gbelow_on b6.out (Nat.le_refl _) h7.out.2.1)
    have L7 := hid (L6.out.on (Nat.le_refl _) h7.out.2.1)
    have R7 := hid (R6.out.on (Nat.le_refl _) h7.out.2.1)
    have X9e := hid (X9d.out.below h7.out.2.1 X9d.out.lt)
    have X7 := hid (X6.out.below h7.out.2.1 X6.out.lt)
    have T7 := hid (T6.out.on (Nat.le_refl _) h7.out.2.1)
    have Q7 := hid (Q6.out.on (Nat.le_refl _) h7.out.2.1)
    have D7 := hid (D6.out.on (Nat.le_refl _) h7.out.2.1)
    have CE := hid (PQ.sm _ _ _ _ _ _ _ _ _ _ _ D7.out h7.out.1.cls (Nat.le_refl _) (Nat.le_refl _))
    rw [decide_eq_true rfl] at CE
    clear h7 CS b6 L6 R6 X9d X6 T6 Q6 D6 e0 e1 e2 e3
    go_wp2_with fail
    refine CE.out.mono ?_
    rintro e w8 ⟨rfl, h8⟩
    have b8 := hid (gbelow_on b7.out (Nat.le_refl _) h8.out)
    have L8 := hid (L7.out.on (Nat.le_refl _) h8.out)
    have R8 := hid (R7.out.on (Nat.le_refl _) h8.out)
    have X9f := hid (X9e.out.below h8.out X9e.out.lt)
    have X8 := hid (X7.out.below h8.out X7.out.lt)
    have T8 := hid (T7.out.on (Nat.le_refl _) h8.out)
    have Q8 := hid (Q7.out.on (Nat.le_refl _) h8.out)
    have CB := hid (PQ.tk _ _ _ _ _ _ (n : Int) (D7.out.on (Nat.le_refl _) h8.out) (Nat.le_refl _))
    rw [HB2.out.1, HB2.out.2.1, HB2.out.2.2] at CB
    clear h8 CE b7 L7 R7 X9e X7 T7 Q7 D7 HB2
    go_wp2_with fail
    refine CB.out.mono ?_
    rintro e w9 ⟨A9, n9, c9, rs9, u9, v9, D9, m9, d9, s9, S9, rfl, h9⟩
    obtain rfl : n = n9 := hl.out.symm.trans h9.out.2.2.2.2.2.symm
    obtain ⟨y0, y1, y2, y3, y4⟩ := h9.out.2.2.2.1
    dsimp only at y0 y1 y2 y3 y4
    subst y0 y1 y2
    have ba := (Below.refl w9.heap.size w9).alloc (Nat.le_refl _) (.cells #[.int .i64 u9, .int .i64 v9, .slice D9 m9 d9, .bool s9] 28)
    have h9b := gbelow_on h9.out.2.2.2.2.1 (Nat.le_refl _) ba
    have b9 := hid (gbelow_on b8.out (Nat.le_refl _) h9b)
    have L9 := hid (L8.out.on (Nat.le_refl _) h9b)
    have R9 := hid (R8.out.on (Nat.le_refl _) h9b)
    have X9g := hid (X9f.out.below h9b X9f.out.lt)
    have X10 := hid (X8.out.below h9b X8.out.lt)
    have T9 := hid (T8.out.on (Nat.le_refl _) h9b)
    have Q9 := hid (Q8.out.on (Nat.le_refl _) h9b)
    have K9 := hid (h9.out.1.cls.on (Nat.le_refl _) ba)
    have Y9 := hid (Cbx.new w9 u9 v9 D9 m9 d9 s9)
    have V9 := hid (y3.on (Nat.le_refl _) ba)
    have x0 := X10.out.c0
    have x1 := X10.out.c1
    have x2 := X10.out.c2
    have x3 := X10.out.c3
    have CN := hid (PQ.sn _ _ _ _ _ _ _ _ _ _ x y _ s R9.out (Nat.le_refl _) T9.out HF.out (Nat.le_refl _))
    have HLQ := hid (fun h => show snL (l.take k ++ l.drop (k + 1)) (x, y, t, s) = (l.take k ++ l.drop (k + 1)) ++ [(x, y, t, s)] from if_pos h)
    generalize snE (l.take k ++ l.drop (k + 1)) (x, y, t, s) = q at CN HLQ
    generalize snL (l.take k ++ l.drop (k + 1)) (x, y, t, s) = r at CN HLQ
    clear h9 h9b ba CB b8 L8 R8 X9f X8 T8 Q8 y3 y4
    go_wp2_with fail
    refine CN.out.mono ?_
    rintro e wa ⟨Aa, na, ca, rsa, rfl, ha⟩
    have b10 := hid (gbelow_on b9.out (Nat.le_refl _) ha.out.2.1)
    have La := hid (L9.out.on (Nat.le_refl _) ha.out.2.1)
    have Ra := hid (R9.out.on (Nat.le_refl _) ha.out.2.1)
    have Ka := hid (K9.out.on (Nat.le_refl _) ha.out.2.1)
    have Xb := hid (X9g.out.below ha.out.2.1 X9g.out.lt)
    have Xc := hid (X10.out.below ha.out.2.1 X10.out.lt)
    have Ya := hid (Y9.out.below ha.out.2.1 Y9.out.lt)
    have Ta := hid (T9.out.on (Nat.le_refl _) ha.out.2.1)
    have Qa := hid (Q9.out.on (Nat.le_refl _) ha.out.2.1)
    have Va := hid (V9.out.on (Nat.le_refl _) ha.out.2.1)
    have Na := hid ha.out.1.cls
    have HNA := hid ha.out.2.2
    clear ha CN b9 L9 R9 K9 X9g X10 Y9 T9 Q9 V9 x0 x1 x2 x3
    have SM := hid (fun (X : World) (hX : Below wa.heap.size wa X) => PQ.sm X _ _ _ _ _ _ _ _ _ _ (Ka.out.on (Nat.le_refl _) hX) (La.out.on (Nat.le_refl _) hX) (Nat.le_refl _) (Nat.le_refl _))
    rw [decide_eq_true rfl] at SM
    have SO := hid (fun (X : World) (hX : Below wa.heap.size wa X) => sameOne_any (x := u9) (y := v9) (s := s9) (x' := u9) (y' := v9) (s' := s9) (Va.out.on (Nat.le_refl _) hX) HF1.out (Qa.out.on (Nat.le_refl _) hX) HF1.out (Nat.le_refl _) (Nat.le_refl _))
    rw [decide_eq_true rfl] at SO
    have HB0 := hid ((Below.refl wa.heap.size wa).drew)
    by_cases hq : q = 0
    · subst hq
      have hrl := HLQ.out rfl
      subst hrl
      have HRn := hid (show (l.take k ++ l.drop (k + 1) ++ [(x, y, t, s)]).length = n - 1 + 1 from by rw [List.length_append, HLR.out]; rfl)
      obtain rfl : na = n - 1 + 1 := HNA.out.trans HRn.out
      obtain ⟨ga, oa, xa, ya, Da, ma, da, ta, sa, rfl, hga, hpa, f0, f1, f2, f3, hta, hfa⟩ := Na.out.get (k := n - 1) (Nat.lt_succ_self _)
      rw [List.getElem?_append_right (by rw [HLR.out]; exact Nat.le_refl _), HLR.out, Nat.sub_self] at hpa
      simp only [List.getElem?_cons_zero, Option.some.injEq, Prod.mk.injEq] at hpa
      obtain ⟨rfl, rfl, rfl, rfl⟩ := hpa
      have HTa := hid hta
      have hca := Na.out.cap
      have HCm := hid (fun (X : World) (hX : Below wa.heap.size wa X) => show (X.cell? ⟨w9.heap.size, 0, none⟩ = some (.int .i64 u9) ∧ X.cell? ⟨w9.heap.size, 1, none⟩ = some (.int .i64 v9) ∧ X.cell? ⟨w9.heap.size, 2, none⟩ = some (.slice D9 m9 d9) ∧ X.cell? ⟨w9.heap.size, 3, none⟩ = some (.bool s9)) ∧ (X.cell? ⟨w3.heap.size, 0, none⟩ = some (.int .i64 u9) ∧ X.cell? ⟨w3.heap.size, 1, none⟩ = some (.int .i64 v9) ∧ X.cell? ⟨w3.heap.size, 2, none⟩ = some (.slice D2 m2 d2) ∧ X.cell? ⟨w3.heap.size, 3, none⟩ = some (.bool s9)) ∧ (X.cell? ⟨w.heap.size, 0, none⟩ = some (.int .i64 x) ∧ X.cell? ⟨w.heap.size, 1, none⟩ = some (.int .i64 y) ∧ X.cell? ⟨w.heap.size, 2, none⟩ = some (.slice D m d) ∧ X.cell? ⟨w.heap.size, 3, none⟩ = some (.bool s)) ∧
          X.cell? ⟨ga, oa + (n - 1) * 4, none⟩ = some (.int .i64 x) ∧ X.cell? ⟨ga, oa + (n - 1) * 4 + 1, none⟩ = some (.int .i64 y) ∧ X.cell? ⟨ga, oa + (n - 1) * 4 + 2, none⟩ = some (.slice Da ma da) ∧ X.cell? ⟨ga, oa + (n - 1) * 4 + 3, none⟩ = some (.bool s) from
        have hx := Ya.out.below hX Ya.out.lt
        have hy := Xb.out.below hX Xb.out.lt
        have hz := Xc.out.below hX Xc.out.lt
        ⟨⟨hx.c0, hx.c1, hx.c2, hx.c3⟩, ⟨hy.c0, hy.c1, hy.c2, hy.c3⟩, ⟨hz.c0, hz.c1, hz.c2, hz.c3⟩, (hX.cell (p := ⟨ga, oa + (n - 1) * 4, none⟩) hga).trans f0, (hX.cell (p := ⟨ga, oa + (n - 1) * 4 + 1, none⟩) hga).trans f1, (hX.cell (p := ⟨ga, oa + (n - 1) * 4 + 2, none⟩) hga).trans f2, (hX.cell (p := ⟨ga, oa + (n - 1) * 4 + 3, none⟩) hga).trans f3⟩)
      have SR := hid (fun (X : World) (hX : Below wa.heap.size wa X) => PQ.sm X _ _ (n - 1) ca (n - 1) c2 (some ⟨ga, oa, none⟩) A2 (l.take k ++ l.drop (k + 1)) (l.take k ++ l.drop (k + 1)) (by
        have h1 := (Na.out.on (Nat.le_refl _) hX).first (p := n - 1) (c' := ca) (by omega) (by omega) (fun e => (by cases e))
        rwa [List.take_left' HLR.out] at h1) (Ra.out.on (Nat.le_refl _) hX) (Nat.le_refl _) (Nat.le_refl _))
      rw [decide_eq_true rfl] at SR
      have SP := hid (fun (X : World) (hX : Below wa.heap.size wa X) => sameOne_any (x := x) (y := y) (s := s) (x' := x) (y' := y) (s' := s) (HTa.out.on (Nat.le_refl _) hX) HF.out (Ta.out.on (Nat.le_refl _) hX) HF.out (Nat.le_refl _) (Nat.le_refl _))
      rw [decide_eq_true rfl] at SP
      clear f0 f1 f2 f3 hga hta hfa Na Ka La Ra Ya Xb Xc Ta Qa Va
      have hr1 : ((n - 1 : Nat) : Int) ≤ (ca : Int) := by omega
      have hr2 : (0 : Int) ≤ ((n - 1 : Nat) : Int) := by omega
      have hr3 : ((n - 1 : Nat) : Int) < ((n - 1 : Nat) : Int) + 1 := by omega
      have hr4 : n - 1 < n - 1 + 1 := by omega
      have hr5 : ((n - 1 + 1 : Nat) : Int) = ((n - 1 : Nat) : Int) + 1 := by omega
      have hr6 : ((n - 1 : Nat) : Int).toNat = n - 1 := by omega
      generalize n - 1 = nn at *
      go_wp2_with fail
      go_region_held3 (fun X => (X.cell? ⟨w9.heap.size, 0, none⟩ = some (.int .i64 u9) ∧ X.cell? ⟨w9.heap.size, 1, none⟩ = some (.int .i64 v9) ∧ X.cell? ⟨w9.heap.size, 2, none⟩ = some (.slice D9 m9 d9) ∧ X.cell? ⟨w9.heap.size, 3, none⟩ = some (.bool s9)) ∧ (X.cell? ⟨w3.heap.size, 0, none⟩ = some (.int .i64 u9) ∧ X.cell? ⟨w3.heap.size, 1, none⟩ = some (.int .i64 v9) ∧ X.cell? ⟨w3.heap.size, 2, none⟩ = some (.slice D2 m2 d2) ∧ X.cell? ⟨w3.heap.size, 3, none⟩ = some (.bool s9)) ∧ (X.cell? ⟨w.heap.size, 0, none⟩ = some (.int .i64 x) ∧ X.cell? ⟨w.heap.size, 1, none⟩ = some (.int .i64 y) ∧ X.cell? ⟨w.heap.size, 2, none⟩ = some (.slice D m d) ∧ X.cell? ⟨w.heap.size, 3, none⟩ = some (.bool s)) ∧
          X.cell? ⟨ga, oa + nn * 4, none⟩ = some (.int .i64 x) ∧ X.cell? ⟨ga, oa + nn * 4 + 1, none⟩ = some (.int .i64 y) ∧ X.cell? ⟨ga, oa + nn * 4 + 2, none⟩ = some (.slice Da ma da) ∧ X.cell? ⟨ga, oa + nn * 4 + 3, none⟩ = some (.bool s))
        (first | with_reducible exact HCm.out _ HB4.out | with_reducible exact HCm.out _ HB3.out | with_reducible exact HCm.out _ HB2.out | with_reducible exact HCm.out _ HB1.out | with_reducible exact HCm.out _ HB0.out | fail)
        (first
        | (go_at_call 20
           first
           | (with_reducible refine (SM.out _ HB0.out).mono ?_
              rintro e wb ⟨rfl, hb⟩
              have HB1 := hid (gbelow_on HB0.out (Nat.le_refl _) hb.out))
           | (with_reducible refine (SR.out _ HB2.out).mono ?_
              rintro e wd ⟨rfl, hd⟩
              have HB3 := hid (gbelow_on HB2.out (Nat.le_refl _) hd.out))
           | fail)
        | (go_at_call 19
           first
           | (with_reducible refine (SO.out _ HB1.out).mono ?_
              rintro e wc ⟨rfl, hc⟩
              have HB2 := hid (gbelow_on HB1.out (Nat.le_refl _) hc.out))
           | (with_reducible refine (SP.out _ HB3.out).mono ?_
              rintro e we ⟨rfl, he⟩
              have HB4 := hid (gbelow_on HB3.out (Nat.le_refl _) he.out))
           | fail)
        | fail)
      all_goals
        have BZ := hid (gbelow_on b10.out (Nat.le_refl _) HB4.out)
        clear SM SO SR SP HCm HB0 HB1 HB2 HB3 HB4
        go_wp2
        go_ret
        exact ⟨rfl, BZ.out⟩
    have hqb : (q != 0) = true := by rw [bne_iff_ne]; exact hq
    have hqc : (q == 0) = false := by rw [beq_eq_false_iff_ne]; exact hq
    have HCm := hid (fun (X : World) (hX : Below wa.heap.size wa X) => show (X.cell? ⟨w9.heap.size, 0, none⟩ = some (.int .i64 u9) ∧ X.cell? ⟨w9.heap.size, 1, none⟩ = some (.int .i64 v9) ∧ X.cell? ⟨w9.heap.size, 2, none⟩ = some (.slice D9 m9 d9) ∧ X.cell? ⟨w9.heap.size, 3, none⟩ = some (.bool s9)) ∧ X.cell? ⟨w3.heap.size, 0, none⟩ = some (.int .i64 u9) ∧ X.cell? ⟨w3.heap.size, 1, none⟩ = some (.int .i64 v9) ∧ X.cell? ⟨w3.heap.size, 2, none⟩ = some (.slice D2 m2 d2) ∧ X.cell? ⟨w3.heap.size, 3, none⟩ = some (.bool s9) from
      have hx := Ya.out.below hX Ya.out.lt
      have hy := Xb.out.below hX Xb.out.lt
      ⟨⟨hx.c0, hx.c1, hx.c2, hx.c3⟩, hy.c0, hy.c1, hy.c2, hy.c3⟩)
    clear hq Na Ka La Ra Ya Xb Xc Ta Qa Va HNA HLQ
    go_wp2_with fail
    refine wp_region_held_drew (S := fun X => (X.cell? ⟨w9.heap.size, 0, none⟩ = some (.int .i64 u9) ∧ X.cell? ⟨w9.heap.size, 1, none⟩ = some (.int .i64 v9) ∧ X.cell? ⟨w9.heap.size, 2, none⟩ = some (.slice D9 m9 d9) ∧ X.cell? ⟨w9.heap.size, 3, none⟩ = some (.bool s9)) ∧ X.cell? ⟨w3.heap.size, 0, none⟩ = some (.int .i64 u9) ∧ X.cell? ⟨w3.heap.size, 1, none⟩ = some (.int .i64 v9) ∧ X.cell? ⟨w3.heap.size, 2, none⟩ = some (.slice D2 m2 d2) ∧ X.cell? ⟨w3.heap.size, 3, none⟩ = some (.bool s9)) (by kernel_rfl) (HCm.out _ HB0.out) (fun hHeld => ?_)
    refine tkH (i := 0) (.bool true) rfl (by kernel_rfl) (fun _ _ _ h => h) (by rfl) (fun w0 hSw => by go_simp) hHeld ?_
    (try simp only [Act.put, List.setIfInBounds_toArray, List.set_cons_zero, List.set_cons_succ, List.getElem_toArray, List.getElem_cons_zero])
    refine tkH (i := 1) (.bool true) rfl (by kernel_rfl) (fun _ _ _ h => h) (by rfl) (fun w0 hSw => by go_simp) hHeld ?_
    (try simp only [Act.put, List.setIfInBounds_toArray, List.set_cons_zero, List.set_cons_succ, List.getElem_toArray, List.getElem_cons_succ, List.getElem_cons_zero])
    refine tkH (i := 2) (.int .i64 0) rfl (by kernel_rfl) (fun _ _ _ h => h) (by rfl) (fun w0 hSw => by go_simp) hHeld ?_
    (try simp only [Act.put, List.setIfInBounds_toArray, List.set_cons_zero, List.set_cons_succ, List.getElem_toArray, List.getElem_cons_succ, List.getElem_cons_zero])
    refine tkH (i := 3) (.bool true) rfl (by kernel_rfl) (fun _ _ _ h => h) (by rfl) (fun w0 hSw => by go_simp) hHeld ?_
    (try simp only [Act.put, List.setIfInBounds_toArray, List.set_cons_zero, List.set_cons_succ, List.getElem_toArray, List.getElem_cons_succ, List.getElem_cons_zero])
    refine tkH (i := 4) (.bool true) rfl (by kernel_rfl) (fun _ _ _ h => h) (by rfl) (fun w0 hSw => by go_simp) hHeld ?_
    (try simp only [Act.put, List.setIfInBounds_toArray, List.set_cons_zero, List.set_cons_succ, List.getElem_toArray, List.getElem_cons_succ, List.getElem_cons_zero])
    refine tkH (i := 5) (.bool true) rfl (by kernel_rfl) (fun _ _ _ h => h) (by rfl) (fun w0 hSw => by go_simp) hHeld ?_
    (try simp only [Act.put, List.setIfInBounds_toArray, List.set_cons_zero, List.set_cons_succ, List.getElem_toArray, List.getElem_cons_succ, List.getElem_cons_zero])
    refine tkH (i := 6) (.slice A9 n c9) rfl (by kernel_rfl) (fun _ _ _ h => h) (by rfl) (fun w0 hSw => by go_simp) hHeld ?_
    (try simp only [Act.put, List.setIfInBounds_toArray, List.set_cons_zero, List.set_cons_succ, List.getElem_toArray, List.getElem_cons_succ, List.getElem_cons_zero])
    refine tkH (i := 7) (.slice (some ⟨b, off, none⟩) n c) rfl (by kernel_rfl) (fun _ _ _ h => h) (by rfl) (fun w0 hSw => by go_simp) hHeld ?_
    (try simp only [Act.put, List.setIfInBounds_toArray, List.set_cons_zero, List.set_cons_succ, List.getElem_toArray, List.getElem_cons_succ, List.getElem_cons_zero])
    refine wpAnyH_ready (rs := [8]) (by kernel_rfl) (by simp) ?_
    refine AllReadyH.cons rfl (fun K' hK => ?_) AllReadyH.nil
    (try simp only [Act.put, List.setIfInBounds_toArray, List.set_cons_zero, List.set_cons_succ, List.getElem_toArray, List.getElem_cons_succ, List.getElem_cons_zero])
    go_simp
    refine (SM.out _ HB0.out).mono ?_
    rintro e wb ⟨rfl, hb⟩
    have HB1 := hid (gbelow_on HB0.out (Nat.le_refl _) hb.out)
    clear hb
    try dsimp only
    refine hK.out _ _ (HCm.out _ HB1.out) (fun hHeld => ?_)
    clear hK K'
    (try simp only [Act.put, List.setIfInBounds_toArray, List.set_cons_zero, List.set_cons_succ, List.getElem_toArray, List.getElem_cons_succ, List.getElem_cons_zero])
    refine tkH (i := 9) (.bool true) rfl (by kernel_rfl) (fun _ _ _ h => h) (by rfl) (fun w0 hSw => by go_simp) hHeld ?_
    (try simp only [Act.put, List.setIfInBounds_toArray, List.set_cons_zero, List.set_cons_succ, List.getElem_toArray, List.getElem_cons_succ, List.getElem_cons_zero])
    refine tkH (i := 10) (.bool true) rfl (by kernel_rfl) (fun _ _ _ h => h) (by rfl) (fun w0 hSw => by go_simp) hHeld ?_
    (try simp only [Act.put, List.setIfInBounds_toArray, List.set_cons_zero, List.set_cons_succ, List.getElem_toArray, List.getElem_cons_succ, List.getElem_cons_zero])
    refine tkH (i := 11) (.agg #[.int .i64 u9, .int .i64 v9, .slice D9 m9 d9, .bool s9]) rfl (by kernel_rfl) (fun _ _ _ h => h) (by rfl) (fun w0 hSw => by go_simp) hHeld ?_
    (try simp only [Act.put, List.setIfInBounds_toArray, List.set_cons_zero, List.set_cons_succ, List.getElem_toArray, List.getElem_cons_succ, List.getElem_cons_zero])
    refine tkH (i := 12) (.agg #[.int .i64 u9, .int .i64 v9, .slice D2 m2 d2, .bool s9]) rfl (by kernel_rfl) (fun _ _ _ h => h) (by rfl) (fun w0 hSw => by go_simp) hHeld ?_
    (try simp only [Act.put, List.setIfInBounds_toArray, List.set_cons_zero, List.set_cons_succ, List.getElem_toArray, List.getElem_cons_succ, List.getElem_cons_zero])
    refine wpAnyH_ready (rs := [13]) (by kernel_rfl) (by simp) ?_
    refine AllReadyH.cons rfl (fun K' hK => ?_) AllReadyH.nil
    (try simp only [Act.put, List.setIfInBounds_toArray, List.set_cons_zero, List.set_cons_succ, List.getElem_toArray, List.getElem_cons_succ, List.getElem_cons_zero])
    go_simp
    refine (SO.out _ HB1.out).mono ?_
    rintro e wd ⟨rfl, hb⟩
    have HB2 := hid (gbelow_on HB1.out (Nat.le_refl _) hb.out)
    clear hb
    try dsimp only
    refine hK.out _ _ (HCm.out _ HB2.out) (fun hHeld => ?_)
    clear hK K'
    (try simp only [Act.put, List.setIfInBounds_toArray, List.set_cons_zero, List.set_cons_succ, List.getElem_toArray, List.getElem_cons_succ, List.getElem_cons_zero])
    refine tkH (i := 14) (.bool true) rfl (by kernel_rfl) (fun _ _ _ h => h) (by rfl) (fun w0 hSw => by go_simp) hHeld ?_
    (try simp only [Act.put, List.setIfInBounds_toArray, List.set_cons_zero, List.set_cons_succ, List.getElem_toArray, List.getElem_cons_succ, List.getElem_cons_zero])
    refine tkH (i := 15) (.bool true) rfl (by kernel_rfl) (fun _ _ _ h => h) (by rfl) (fun w0 hSw => by go_simp) hHeld ?_
    (try simp only [Act.put, List.setIfInBounds_toArray, List.set_cons_zero, List.set_cons_succ, List.getElem_toArray, List.getElem_cons_succ, List.getElem_cons_zero])
    refine tkH (i := 16) (.int .i64 q) rfl (by kernel_rfl) (fun _ _ _ h => h) (by rfl) (fun w0 hSw => by go_simp) hHeld ?_
    (try simp only [Act.put, List.setIfInBounds_toArray, List.set_cons_zero, List.set_cons_succ, List.getElem_toArray, List.getElem_cons_succ, List.getElem_cons_zero])
    refine tkH (i := 17) (.bool true) rfl (by kernel_rfl) (fun _ _ _ h => h) (by rfl) (fun w0 hSw => by go_simp) hHeld ?_
    (try simp only [Act.put, List.setIfInBounds_toArray, List.set_cons_zero, List.set_cons_succ, List.getElem_toArray, List.getElem_cons_succ, List.getElem_cons_zero])
    refine tkH (i := 18) (.bool true) rfl (by kernel_rfl) (fun _ _ _ h => h) (by rfl) (fun w0 hSw => by go_simp) hHeld ?_
    (try simp only [Act.put, List.setIfInBounds_toArray, List.set_cons_zero, List.set_cons_succ, List.getElem_toArray, List.getElem_cons_succ, List.getElem_cons_zero])
    refine skH (i := 19) rfl (by kernel_rfl) (fun _ _ _ h => h) (by rfl) hHeld ?_
    (try simp only [Act.put, List.setIfInBounds_toArray, List.set_cons_zero, List.set_cons_succ, List.getElem_toArray, List.getElem_cons_succ, List.getElem_cons_zero])
    refine skH (i := 20) rfl (by kernel_rfl) (fun _ _ _ h => h) (by rfl) hHeld ?_
    (try simp only [Act.put, List.setIfInBounds_toArray, List.set_cons_zero, List.set_cons_succ, List.getElem_toArray, List.getElem_cons_succ, List.getElem_cons_zero])
    refine skH (i := 21) rfl (by kernel_rfl) (fun _ _ _ h => h) (by rfl) hHeld ?_
    (try simp only [Act.put, List.setIfInBounds_toArray, List.set_cons_zero, List.set_cons_succ, List.getElem_toArray, List.getElem_cons_succ, List.getElem_cons_zero])
    refine skH (i := 22) rfl (by kernel_rfl) (fun _ _ _ h => h) (by rfl) hHeld ?_
    (try simp only [Act.put, List.setIfInBounds_toArray, List.set_cons_zero, List.set_cons_succ, List.getElem_toArray, List.getElem_cons_succ, List.getElem_cons_zero])
    refine skH (i := 23) rfl (by kernel_rfl) (fun _ _ _ h => h) (by rfl) hHeld ?_
    (try simp only [Act.put, List.setIfInBounds_toArray, List.set_cons_zero, List.set_cons_succ, List.getElem_toArray, List.getElem_cons_succ, List.getElem_cons_zero])
    refine skH (i := 24) rfl (by kernel_rfl) (fun _ _ _ h => h) (by rfl) hHeld ?_
    (try simp only [Act.put, List.setIfInBounds_toArray, List.set_cons_zero, List.set_cons_succ, List.getElem_toArray, List.getElem_cons_succ, List.getElem_cons_zero])
    refine skH (i := 25) rfl (by kernel_rfl) (fun _ _ _ h => h) (by rfl) hHeld ?_
    (try simp only [Act.put, List.setIfInBounds_toArray, List.set_cons_zero, List.set_cons_succ, List.getElem_toArray, List.getElem_cons_succ, List.getElem_cons_zero])
    refine skH (i := 26) rfl (by kernel_rfl) (fun _ _ _ h => h) (by rfl) hHeld ?_
    (try simp only [Act.put, List.setIfInBounds_toArray, List.set_cons_zero, List.set_cons_succ, List.getElem_toArray, List.getElem_cons_succ, List.getElem_cons_zero])
    refine skH (i := 27) rfl (by kernel_rfl) (fun _ _ _ h => h) (by rfl) hHeld ?_
    (try simp only [Act.put, List.setIfInBounds_toArray, List.set_cons_zero, List.set_cons_succ, List.getElem_toArray, List.getElem_cons_succ, List.getElem_cons_zero])
    refine skH (i := 28) rfl (by kernel_rfl) (fun _ _ _ h => h) (by rfl) hHeld ?_
    (try simp only [Act.put, List.setIfInBounds_toArray, List.set_cons_zero, List.set_cons_succ, List.getElem_toArray, List.getElem_cons_succ, List.getElem_cons_zero])
    refine skH (i := 29) rfl (by kernel_rfl) (fun _ _ _ h => h) (by rfl) hHeld ?_
    (try simp only [Act.put, List.setIfInBounds_toArray, List.set_cons_zero, List.set_cons_succ, List.getElem_toArray, List.getElem_cons_succ, List.getElem_cons_zero])
    refine skH (i := 30) rfl (by kernel_rfl) (fun _ _ _ h => h) (by rfl) hHeld ?_
    (try simp only [Act.put, List.setIfInBounds_toArray, List.set_cons_zero, List.set_cons_succ, List.getElem_toArray, List.getElem_cons_succ, List.getElem_cons_zero])
    refine skH (i := 31) rfl (by kernel_rfl) (fun _ _ _ h => h) (by rfl) hHeld ?_
    (try simp only [Act.put, List.setIfInBounds_toArray, List.set_cons_zero, List.set_cons_succ, List.getElem_toArray, List.getElem_cons_succ, List.getElem_cons_zero])
    refine skH (i := 32) rfl (by kernel_rfl) (fun _ _ _ h => h) (by rfl) hHeld ?_
    (try simp only [Act.put, List.setIfInBounds_toArray, List.set_cons_zero, List.set_cons_succ, List.getElem_toArray, List.getElem_cons_succ, List.getElem_cons_zero])
    refine skH (i := 33) rfl (by kernel_rfl) (fun _ _ _ h => h) (by rfl) hHeld ?_
    (try simp only [Act.put, List.setIfInBounds_toArray, List.set_cons_zero, List.set_cons_succ, List.getElem_toArray, List.getElem_cons_succ, List.getElem_cons_zero])
    refine tkH (i := 34) (.bool true) rfl (by kernel_rfl) (fun _ _ _ h => h) (by rfl) (fun w0 hSw => by go_simp) hHeld ?_
    (try simp only [Act.put, List.setIfInBounds_toArray, List.set_cons_zero, List.set_cons_succ, List.getElem_toArray, List.getElem_cons_succ, List.getElem_cons_zero])
    refine tkH (i := 35) (.bool true) rfl (by kernel_rfl) (fun _ _ _ h => h) (by rfl) (fun w0 hSw => by go_simp) hHeld ?_
    (try simp only [Act.put, List.setIfInBounds_toArray, List.set_cons_zero, List.set_cons_succ, List.getElem_toArray, List.getElem_cons_succ, List.getElem_cons_zero])
    refine tkH (i := 36) (.bool true) rfl (by kernel_rfl) (fun _ _ _ h => h) (by rfl) (fun w0 hSw => by go_simp) hHeld ?_
    (try simp only [Act.put, List.setIfInBounds_toArray, List.set_cons_zero, List.set_cons_succ, List.getElem_toArray, List.getElem_cons_succ, List.getElem_cons_zero])
    refine wpAnyH_done (by kernel_rfl) ?_ _
    have BZ := hid (gbelow_on b10.out (Nat.le_refl _) HB2.out)
    clear SM SO HCm HB0 HB1 HB2
    go_wp2
    go_ret
    exact ⟨rfl, BZ.out⟩
  case first =>
    rcases Nat.eq_zero_or_pos (n - 1) with hz1 | hz1
    · obtain rfl : n = 1 := by omega
      obtain rfl : k = 0 := by omega
      have hlk : l.take 0 = [] ∧ l.drop (0 + 1) = [] := ⟨rfl, List.drop_of_length_le (by rw [hl.out]; exact Nat.le_refl _)⟩
      have SE := hid (fun (X : World) (hX : Below W4.heap.size W4 X) (a1 a2 : Addr) (c1 c2 : Nat) => PQ.sm X X.heap.size X.heap.size 0 c1 0 c2 (some a1) (some a2) [] [] (Cls.none' _ _ _ _) (Cls.none' _ _ _ _) (Nat.le_refl _) (Nat.le_refl _))
      rw [decide_eq_true rfl] at SE
      have SN := hid (fun (X : World) (hX : Below W4.heap.size W4 X) (a2 : Addr) (c2 : Nat) => PQ.sm X X.heap.size X.heap.size 0 0 0 c2 none (some a2) [] [] (Cls.nil' _ _) (Cls.none' _ _ _ _) (Nat.le_refl _) (Nat.le_refl _))
      rw [decide_eq_true rfl] at SN
      have hc1 : (1 : Int) ≤ (c : Int) := by omega
      have hc2 : 1 ≤ c := by omega
      have hw1 : IntKind.i64.wrap 1 = 1 := rfl
      have hw2 : IntKind.i64.wrap (0 + 1) = 1 := rfl
      have hw0 : (1 : Int).toNat = 1 := rfl
      have HCl0 := HCl.out
      simp only [Nat.zero_mul, Nat.add_zero] at HCl0
      replace HCl := hid HCl0
      clear HCl0
      cases A2 with
      | none =>
        obtain rfl : c2 = 0 := (R4.out.nil rfl).2
        rcases Decidable.em (c = 1) with hq | hq
        all_goals
          first | subst hq | replace hq := eq_false hq | fail
          go_region_held3 (fun X => (X.cell? ⟨w3.heap.size, 0, none⟩ = some (.int .i64 u2) ∧ X.cell? ⟨w3.heap.size, 1, none⟩ = some (.int .i64 v2) ∧ X.cell? ⟨w3.heap.size, 2, none⟩ = some (.slice D2 m2 d2) ∧ X.cell? ⟨w3.heap.size, 3, none⟩ = some (.bool s2)) ∧ X.cell? ⟨b, off, none⟩ = some (.int .i64 u2) ∧ X.cell? ⟨b, off + 1, none⟩ = some (.int .i64 v2) ∧ X.cell? ⟨b, off + 2, none⟩ = some (.slice D1 m1 d1) ∧ X.cell? ⟨b, off + 3, none⟩ = some (.bool s2))
            (first | with_reducible exact HCl.out _ HB3.out | with_reducible exact HCl.out _ HB2.out | with_reducible exact HCl.out _ HB1.out | with_reducible exact HCl.out _ HB0.out | fail)
            (first
            | (go_at_call 19
               first
               | (with_reducible refine (SO.out _ HB0.out).mono ?_
                  rintro e w5 ⟨rfl, h5⟩
                  have HB1 := hid (gbelow_on HB0.out (Nat.le_refl _) h5.out))
               | fail)
            | (go_at_call 20
               first
               | (with_reducible refine (SN.out _ HB1.out _ _).mono ?_
                  rintro e w6 ⟨rfl, h6⟩
                  have HB2 := hid (gbelow_on HB1.out (Nat.le_refl _) h6.out))
               | (with_reducible refine (SN.out _ HB2.out _ _).mono ?_
                  rintro e w7 ⟨rfl, h7⟩
                  have HB3 := hid (gbelow_on HB2.out (Nat.le_refl _) h7.out))
               | fail)
            | fail)
          all_goals
            go_wp2_with fail
            go_meet
            exact ⟨rfl, HB3⟩
      | some a2 =>
        rcases Decidable.em (c = 1) with hq | hq <;> rcases Decidable.em (c2 = 0) with hq3 | hq3
        all_goals
          first | subst hq | replace hq := eq_false hq | fail
          first | subst hq3 | replace hq3 := eq_false hq3 | fail
          go_region_held3 (fun X => (X.cell? ⟨w3.heap.size, 0, none⟩ = some (.int .i64 u2) ∧ X.cell? ⟨w3.heap.size, 1, none⟩ = some (.int .i64 v2) ∧ X.cell? ⟨w3.heap.size, 2, none⟩ = some (.slice D2 m2 d2) ∧ X.cell? ⟨w3.heap.size, 3, none⟩ = some (.bool s2)) ∧ X.cell? ⟨b, off, none⟩ = some (.int .i64 u2) ∧ X.cell? ⟨b, off + 1, none⟩ = some (.int .i64 v2) ∧ X.cell? ⟨b, off + 2, none⟩ = some (.slice D1 m1 d1) ∧ X.cell? ⟨b, off + 3, none⟩ = some (.bool s2))
            (first | with_reducible exact HCl.out _ HB3.out | with_reducible exact HCl.out _ HB2.out | with_reducible exact HCl.out _ HB1.out | with_reducible exact HCl.out _ HB0.out | fail)
            (first
            | (go_at_call 19
               first
               | (with_reducible refine (SO.out _ HB0.out).mono ?_
                  rintro e w5 ⟨rfl, h5⟩
                  have HB1 := hid (gbelow_on HB0.out (Nat.le_refl _) h5.out))
               | fail)
            | (go_at_call 20
               first
               | (with_reducible refine (SE.out _ HB1.out _ _ _ _).mono ?_
                  rintro e w6 ⟨rfl, h6⟩
                  have HB2 := hid (gbelow_on HB1.out (Nat.le_refl _) h6.out))
               | (with_reducible refine (SE.out _ HB2.out _ _ _ _).mono ?_
                  rintro e w7 ⟨rfl, h7⟩
                  have HB3 := hid (gbelow_on HB2.out (Nat.le_refl _) h7.out))
               | fail)
            | fail)
          all_goals
            go_wp2_with fail
            go_meet
            exact ⟨rfl, HB3⟩
    obtain ⟨b2, off2, _, _, _, _, _, _, _, rfl, _⟩ := R4.out.get (k := 0) hz1
    have SA := hid (fun (X : World) (hX : Below W4.heap.size W4 X) => PQ.sm X _ _ k c2 k c (some ⟨b2, off2, none⟩) (some ⟨b, off, none⟩) (l.take k) (l.take k) (by
        have h1 := (R4.out.on (Nat.le_refl _) hX).first (p := k) (c' := c2) (by omega) (by omega) (fun e => (by cases e))
        rwa [HTK.out.1] at h1) ((L4.out.on (Nat.le_refl _) hX).first (p := k) (c' := c) (by omega) (by omega) (fun e => (by cases e))) (Nat.le_refl _) (Nat.le_refl _))
    rw [decide_eq_true rfl] at SA
    have SB := hid (fun (X : World) (hX : Below W4.heap.size W4 X) => PQ.sm X _ _ (n - 1 - k) (c2 - k) (n - (k + 1)) (c - (k + 1)) _ _ (l.drop (k + 1)) (l.drop (k + 1)) (by
        have h1 := (R4.out.on (Nat.le_refl _) hX).restB (p := k) (by omega)
        rwa [HTK.out.2] at h1) ((L4.out.on (Nat.le_refl _) hX).restB (p := k + 1) (by omega)) (Nat.le_refl _) (Nat.le_refl _))
    rw [decide_eq_true rfl] at SB
    rcases Decidable.em (c = k + 1) with hq | hq <;> rcases Decidable.em (c2 = k) with hq3 | hq3
    all_goals
      first | rw [if_pos hq3] at SB | rw [if_neg hq3] at SB | fail
      first | rw [if_pos hq] at SB | rw [if_neg hq] at SB | fail
      first | replace hq := eq_false hq | replace hq := eq_true hq | fail
      first | replace hq3 := eq_false hq3 | replace hq3 := eq_true hq3 | fail
      go_region_held3 (fun X => (X.cell? ⟨w3.heap.size, 0, none⟩ = some (.int .i64 u2) ∧ X.cell? ⟨w3.heap.size, 1, none⟩ = some (.int .i64 v2) ∧ X.cell? ⟨w3.heap.size, 2, none⟩ = some (.slice D2 m2 d2) ∧ X.cell? ⟨w3.heap.size, 3, none⟩ = some (.bool s2)) ∧ X.cell? ⟨b, off + k * 4, none⟩ = some (.int .i64 u2) ∧ X.cell? ⟨b, off + k * 4 + 1, none⟩ = some (.int .i64 v2) ∧ X.cell? ⟨b, off + k * 4 + 2, none⟩ = some (.slice D1 m1 d1) ∧ X.cell? ⟨b, off + k * 4 + 3, none⟩ = some (.bool s2))
        (first | with_reducible exact HCl.out _ HB3.out | with_reducible exact HCl.out _ HB2.out | with_reducible exact HCl.out _ HB1.out | with_reducible exact HCl.out _ HB0.out | fail)
        (first
        | (go_at_call 19
           first
           | (with_reducible refine (SO.out _ HB0.out).mono ?_
              rintro e w5 ⟨rfl, h5⟩
              have HB1 := hid (gbelow_on HB0.out (Nat.le_refl _) h5.out))
           | fail)
        | (go_at_call 20
           first
           | (with_reducible refine (SA.out _ HB1.out).mono ?_
              rintro e w6 ⟨rfl, h6⟩
              have HB2 := hid (gbelow_on HB1.out (Nat.le_refl _) h6.out))
           | (with_reducible refine (SB.out _ HB2.out).mono ?_
              rintro e w7 ⟨rfl, h7⟩
              have HB3 := hid (gbelow_on HB2.out (Nat.le_refl _) h7.out))
           | fail)
        | fail)
      all_goals
        go_wp2_with fail
        go_meet
        exact ⟨rfl, HB3⟩

end Go.Proofs.YtbpijlghdpflgaaDoor.Eth
