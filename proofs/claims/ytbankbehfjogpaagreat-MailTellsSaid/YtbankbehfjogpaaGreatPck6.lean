/- The document's content of a mail: kind 6. -/
import Derived.Test.YtbankbehfjogpaaGreatPcdi
namespace Go.Proofs.YtbankbehfjogpaaGreat
open Go.RowKit Go.Shelf Go.Lib
set_option maxRecDepth 100000
set_option maxHeartbeats 25600000 in
theorem pcont_k6 {w : World} {m : Md} {l : List De} {t : Nat → Nat} (h : Prd w w.heap.size m l t) (hm : PMay m l t) (hk : m.kd = 6) :
    Calls Tryz.prog 62 #[.agg (mdc m)] w fun e w' => ∃ v, e = .returned v ∧ Hid (Ow w' w.heap.size v (hdr m ++ be (flg m.ha) 1 ++ be (m.mn + 2147483648).toNat 4 ++ be (m.mx + 2147483648).toNat 4 ++ be m.k 1 ++ tgx ((List.range m.k).map t))) ∧ Hid (Below w.heap.size w w') := by
  have mixed : Tryz.prog.follows .mixedOrders = true := by kernel_rfl
  obtain ⟨W, hW⟩ : ∃ W, W = w.alloc (.cells (mdc m) 31) := ⟨_, rfl⟩
  have K := hid (show Below w.heap.size w W from hW ▸ (Below.refl _ w).alloc (Nat.le_refl _) _)
  have X := hid (show Pbox W w.heap.size m from hW ▸ heap_alloc_new w _)
  have HW := hid hW
  have H := hid h
  have HM := hid hm
  clear hW
  obtain ⟨⟨i1, i2⟩, ⟨i3, i4⟩, ⟨i5, i6⟩, ⟨i7, i8⟩, ⟨i9, i10⟩⟩ := hm.2.1
  obtain ⟨a1, e1⟩ := nat_of i1
  obtain ⟨a2, e2⟩ := nat_of i3
  obtain ⟨a3, e3⟩ := nat_of i5
  obtain ⟨a4, e4⟩ := nat_of i7
  obtain ⟨a5, e5⟩ := nat_of i9
  have hq1 : IntKind.u64.wrap (a1 : Int) = (a1 : Int) := by rw [IntKind.wrap_u64]; omega
  have hq2 : IntKind.u64.wrap (a2 : Int) = (a2 : Int) := by rw [IntKind.wrap_u64]; omega
  have hq3 : IntKind.u64.wrap (a3 : Int) = (a3 : Int) := by rw [IntKind.wrap_u64]; omega
  have hq4 : IntKind.u64.wrap (a4 : Int) = (a4 : Int) := by rw [IntKind.wrap_u64]; omega
  have hq5 : IntKind.u64.wrap (a5 : Int) = (a5 : Int) := by rw [IntKind.wrap_u64]; omega
  have x1 := X.out.c1
  have x2 := X.out.c2
  have x3 := X.out.c3
  have x4 := X.out.c4
  rw [e1] at x1
  rw [e2] at x2
  rw [e3] at x3
  rw [e4] at x4
  have C1 : Hid (∀ w, Calls Tryz.prog 97 #[.int .u64 (a1 : Int), .int .i64 1] w (DgE a1 1 w)) := hid (fun w => dg_any a1 1 (by omega) (by omega) w)
  have C2 : Hid (∀ w, Calls Tryz.prog 97 #[.int .u64 (a2 : Int), .int .i64 1] w (DgE a2 1 w)) := hid (fun w => dg_any a2 1 (by omega) (by omega) w)
  have C3 : Hid (∀ w, Calls Tryz.prog 97 #[.int .u64 (a3 : Int), .int .i64 2] w (DgE a3 2 w)) := hid (fun w => dg_any a3 2 (by omega) (by omega) w)
  have C4 : Hid (∀ w, Calls Tryz.prog 97 #[.int .u64 (a4 : Int), .int .i64 3] w (DgE a4 3 w)) := hid (fun w => dg_any a4 3 (by omega) (by omega) w)
  have C5 : Hid (∀ w, Calls Tryz.prog 97 #[.int .u64 (a5 : Int), .int .i64 3] w (DgE a5 3 w)) := hid (fun w => dg_any a5 3 (by omega) (by omega) w)
  have HH : Hid (hdr m = be a1 1 ++ be a2 1 ++ be a3 2 ++ be a4 3) := hid (by unfold hdr; rw [e1, e2, e3, e4]; rfl)
  have HE5 := hid e5
  have HK := hid hk
  clear h hm i1 i2 i3 i4 i5 i6 i7 i8 i9 i10 e1 e2 e3 e4 e5 hk
  go_enter Tryz.func62, Tryz.ntmps62
  go_upto_region 1 with fail
  rw [← HW.out]
  clear HW
  go_upto_region 4 with fail
  obtain ⟨W2, hW2⟩ : ∃ W2, W2 = (W.alloc (.cells #[.int .u64 (a1 : Int), .int .u64 (a2 : Int), .int .u64 (a3 : Int), .int .u64 (a4 : Int)] 81)).alloc (.cells #[.int .i64 1, .int .i64 1, .int .i64 2, .int .i64 3] 3) := ⟨_, rfl⟩
  rw [← hW2]
  have R1 := hid (show Nrow W2 W.heap.size 81 [.int .u64 (a1 : Int), .int .u64 (a2 : Int), .int .u64 (a3 : Int), .int .u64 (a4 : Int)] from hW2 ▸ (Below.heap_alloc _ _ _ (by simp)).trans (World.alloc_heap_new W _))
  have R2 := hid (show Nrow W2 (W.heap.size + 1) 3 [.int .i64 1, .int .i64 1, .int .i64 2, .int .i64 3] from by
    have := World.alloc_heap_new (W.alloc (.cells #[.int .u64 (a1 : Int), .int .u64 (a2 : Int), .int .u64 (a3 : Int), .int .u64 (a4 : Int)] 81)) (.cells #[.int .i64 1, .int .i64 1, .int .i64 2, .int .i64 3] 3)
    rw [World.size_alloc, ← hW2] at this
    exact this)
  have hz2 := hid (show W2.heap.size = W.heap.size + 2 from by rw [hW2]; simp)
  have b2 := hid (show Below W.heap.size W W2 from hW2 ▸ ((Below.refl _ W).alloc (Nat.le_refl _) _).alloc (by simp) _)
  have K2 := hid (K.out.trans (b2.out.mono K.out.size))
  have X2 := hid (X.out.below b2.out X.out.lt)
  clear hW2 x1 x2 x3 x4
  go_wp2_with fail
  go_loopg [3, 6] 4 (fun gg s3 s6 wr => ∃ i : Nat, i ≤ 4 ∧ 4 - i ≤ gg ∧ s6 = .int .i64 i ∧ Hid (Ow wr W2.heap.size s3 ((if 0 < i then be a1 1 else []) ++ (if 1 < i then be a2 1 else []) ++ (if 2 < i then be a3 2 else []) ++ (if 3 < i then be a4 3 else []))) ∧ Hid (Below W2.heap.size W2 wr))
  case atStart => exact ⟨0, by omega, by omega, rfl, hid (Ow.nil W2 _), hid (Below.refl _ _)⟩
  case round =>
    obtain ⟨i, hi, hg, rfl, HO, HB⟩ := hrel
    have hc : i = 0 ∨ i = 1 ∨ i = 2 ∨ i = 3 ∨ i = 4 := by omega
    rcases hc with rfl | rfl | rfl | rfl | rfl
    · have HBz := hid (HB.out.drew)
      have O := hid (HO.out.below (Below.refl _ wr).drew (Nat.le_refl _))
      have y0 : wr.drew.cell? ⟨W.heap.size, 0, none⟩ = some (.int .u64 (a1 : Int)) := (R1.out.below HBz.out (by have := hz2.out; omega)).cell 0
      have y1 : wr.drew.cell? ⟨W.heap.size + 1, 0, none⟩ = some (.int .i64 1) := (R2.out.below HBz.out (by have := hz2.out; omega)).cell 0
      clear HO
      go_wp2_with fail
      go_region_law (first
        | (refine step_app_bytes rfl (.tmp 27) (.tmp 36) rfl rfl rfl O.out HBz.out.size Y3.out (by omega) (by first | simp | simp [be_length]) ?_; intro v' w' hO' hb'; have HBz := hid (HBz.out.trans hb'.out))
        | (go_simp
           go_at_call 97
           with_reducible refine (C1.out _).mono ?_
           rintro e wa ⟨A9, c9, rfl, O9, Y3, hb9⟩
           have O := hid (O.out.below hb9.out (Nat.le_refl _))
           have HBz := hid (HBz.out.trans (hb9.out.mono HBz.out.size))))
      all_goals
        go_wp2_with fail
        go_roundg (3)
        case measure => omega
        case rel => exact ⟨1, by omega, by omega, rfl, hid (by simpa using hO'.out), HBz⟩
    · have HBz := hid (HB.out.drew)
      have O := hid (HO.out.below (Below.refl _ wr).drew (Nat.le_refl _))
      have y0 : wr.drew.cell? ⟨W.heap.size, 1, none⟩ = some (.int .u64 (a2 : Int)) := (R1.out.below HBz.out (by have := hz2.out; omega)).cell 1
      have y1 : wr.drew.cell? ⟨W.heap.size + 1, 1, none⟩ = some (.int .i64 1) := (R2.out.below HBz.out (by have := hz2.out; omega)).cell 1
      clear HO
      go_wp2_with fail
      go_region_law (first
        | (refine step_app_bytes rfl (.tmp 27) (.tmp 36) rfl rfl rfl O.out HBz.out.size Y3.out (by omega) (by simp [be_length]) ?_; intro v' w' hO' hb'; have HBz := hid (HBz.out.trans hb'.out))
        | (go_simp
           go_at_call 97
           with_reducible refine (C2.out _).mono ?_
           rintro e wa ⟨A9, c9, rfl, O9, Y3, hb9⟩
           have O := hid (O.out.below hb9.out (Nat.le_refl _))
           have HBz := hid (HBz.out.trans (hb9.out.mono HBz.out.size))))
      all_goals
        go_wp2_with fail
        go_roundg (2)
        case measure => omega
        case rel => exact ⟨2, by omega, by omega, rfl, hid (by simpa using hO'.out), HBz⟩
    · have HBz := hid (HB.out.drew)
      have O := hid (HO.out.below (Below.refl _ wr).drew (Nat.le_refl _))
      have y0 : wr.drew.cell? ⟨W.heap.size, 2, none⟩ = some (.int .u64 (a3 : Int)) := (R1.out.below HBz.out (by have := hz2.out; omega)).cell 2
      have y1 : wr.drew.cell? ⟨W.heap.size + 1, 2, none⟩ = some (.int .i64 2) := (R2.out.below HBz.out (by have := hz2.out; omega)).cell 2
      clear HO
      go_wp2_with fail
      go_region_law (first
        | (refine step_app_bytes rfl (.tmp 27) (.tmp 36) rfl rfl rfl O.out HBz.out.size Y3.out (by omega) (by simp [be_length]) ?_; intro v' w' hO' hb'; have HBz := hid (HBz.out.trans hb'.out))
        | (go_simp
           go_at_call 97
           with_reducible refine (C3.out _).mono ?_
           rintro e wa ⟨A9, c9, rfl, O9, Y3, hb9⟩
           have O := hid (O.out.below hb9.out (Nat.le_refl _))
           have HBz := hid (HBz.out.trans (hb9.out.mono HBz.out.size))))
      all_goals
        go_wp2_with fail
        go_roundg (1)
        case measure => omega
        case rel => exact ⟨3, by omega, by omega, rfl, hid (by simpa using hO'.out), HBz⟩
    · have HBz := hid (HB.out.drew)
      have O := hid (HO.out.below (Below.refl _ wr).drew (Nat.le_refl _))
      have y0 : wr.drew.cell? ⟨W.heap.size, 3, none⟩ = some (.int .u64 (a4 : Int)) := (R1.out.below HBz.out (by have := hz2.out; omega)).cell 3
      have y1 : wr.drew.cell? ⟨W.heap.size + 1, 3, none⟩ = some (.int .i64 3) := (R2.out.below HBz.out (by have := hz2.out; omega)).cell 3
      clear HO
      go_wp2_with fail
      go_region_law (first
        | (refine step_app_bytes rfl (.tmp 27) (.tmp 36) rfl rfl rfl O.out HBz.out.size Y3.out (by omega) (by simp [be_length]) ?_; intro v' w' hO' hb'; have HBz := hid (HBz.out.trans hb'.out))
        | (go_simp
           go_at_call 97
           with_reducible refine (C4.out _).mono ?_
           rintro e wa ⟨A9, c9, rfl, O9, Y3, hb9⟩
           have O := hid (O.out.below hb9.out (Nat.le_refl _))
           have HBz := hid (HBz.out.trans (hb9.out.mono HBz.out.size))))
      all_goals
        go_wp2_with fail
        go_roundg (0)
        case measure => omega
        case rel => exact ⟨4, by omega, by omega, rfl, hid (by simpa using hO'.out), HBz⟩
    · have O := hid (show Ow wr W2.heap.size u3 (hdr m) from by rw [HH.out]; simpa using HO.out)
      have KB := hid (K2.out.trans (HB.out.mono K2.out.size))
      have XB := hid (X2.out.below HB.out (by have := X.out.lt; have := hz2.out; omega))
      have x0 : wr.cell? ⟨w.heap.size, 0, none⟩ = some (.int .u8 6) := by rw [XB.out.c0, HK.out]; rfl
      clear HO
      obtain ⟨fl, hfl⟩ : ∃ fl : Nat, fl = flg m.ha := ⟨_, rfl⟩
      have hf1 : fl ≤ 1 := by rw [hfl]; cases m.ha <;> decide
      have CFl : Hid (∀ w, Calls Tryz.prog 99 #[.bool m.ha] w fun e w' => e = .returned (.int .u64 (fl : Int)) ∧ w' = w) := hid fun w => by rw [hfl]; exact eflag_any m.ha w
      have hcap := H.out.tg.cap
      have hk8 : m.k ≤ 8 := HM.out.2.2.2.2.2.2.1.1
      have hqn : IntKind.u64.wrap (m.k : Int) = (m.k : Int) := by rw [IntKind.wrap_u64]; omega
      have hEd := HM.out.2.2.2.2.2.1
      have hmn : -2147483647 ≤ m.mn ∧ m.mn ≤ 2147483647 := by
        unfold EMay at hEd
        split at hEd <;> omega
      have hmx : -2147483647 ≤ m.mx ∧ m.mx ≤ 2147483647 := by
        unfold EMay at hEd
        split at hEd <;> omega
      obtain ⟨g1, hg1⟩ : ∃ g : Nat, g = (m.mn + 2147483648).toNat := ⟨_, rfl⟩
      obtain ⟨g2, hg2⟩ : ∃ g : Nat, g = (m.mx + 2147483648).toNat := ⟨_, rfl⟩
      have u1 : IntKind.i64.wrap (m.mn + 2147483647) = m.mn + 2147483647 := by rw [IntKind.wrap_i64]; omega
      have u2 : IntKind.i64.wrap (m.mn + 2147483647 + 1) = (g1 : Int) := by rw [IntKind.wrap_i64]; omega
      have u3' : IntKind.i64.wrap (m.mx + 2147483647) = m.mx + 2147483647 := by rw [IntKind.wrap_i64]; omega
      have u4 : IntKind.i64.wrap (m.mx + 2147483647 + 1) = (g2 : Int) := by rw [IntKind.wrap_i64]; omega
      have hqg1 : IntKind.u64.wrap (g1 : Int) = (g1 : Int) := by rw [IntKind.wrap_u64]; omega
      have hqg2 : IntKind.u64.wrap (g2 : Int) = (g2 : Int) := by rw [IntKind.wrap_u64]; omega
      have D1 : Hid (∀ w, Calls Tryz.prog 97 #[.int .u64 (fl : Int), .int .i64 1] w (DgE fl 1 w)) := hid (fun w => dg_any fl 1 (by omega) (by omega) w)
      have D2 : Hid (∀ w, Calls Tryz.prog 97 #[.int .u64 (m.k : Int), .int .i64 1] w (DgE m.k 1 w)) := hid (fun w => dg_any m.k 1 (by omega) (by omega) w)
      have E1 : Hid (∀ w, Calls Tryz.prog 97 #[.int .u64 (g1 : Int), .int .i64 4] w (DgE g1 4 w)) := hid (fun w => dg_any g1 4 (by omega) (by omega) w)
      have E2 : Hid (∀ w, Calls Tryz.prog 97 #[.int .u64 (g2 : Int), .int .i64 4] w (DgE g2 4 w)) := hid (fun w => dg_any g2 4 (by omega) (by omega) w)
      have HFl := hid hfl
      have HG1 := hid hg1
      have HG2 := hid hg2
      clear hfl hg1 hg2 hEd hmn hmx
      have CE : Hid (∀ Z, Below W2.heap.size W2 Z → Pbox Z w.heap.size m) := hid fun Z hb => X2.out.below hb (by have := X.out.lt; have := hz2.out; omega)
      have CF : Hid (∀ Z, Below W2.heap.size W2 Z → Z.cell? ⟨w.heap.size, 21, none⟩ = some (.int .i64 m.mn) ∧ Z.cell? ⟨w.heap.size, 22, none⟩ = some (.int .i64 m.mx)) := hid fun Z hb => ⟨(CE.out Z hb).c21, (CE.out Z hb).c22⟩
      have x20 := (CE.out _ HB.out).c20
      go_wp2_with fail
      refine (CFl.out _).mono ?_
      rintro e wf ⟨rfl, rfl⟩
      go_wp2_with fail
      refine (D1.out _).mono ?_
      rintro e wa ⟨A9, c9, rfl, -, Y9, hb9⟩
      replace O := hid (O.out.below hb9.out (Nat.le_refl _))
      replace HB := hid (HB.out.trans (hb9.out.mono HB.out.size))
      clear x20 x0 XB KB
      go_upto_region 24 with (first | (at_builtin; refine app_bytes rfl (.tmp 123) (.tmp 128) rfl rfl rfl O.out HB.out.size Y9.out (by simp [hdr, be_length]) ?_; intro v6 w6 hO6 hb6; replace HB := hid (HB.out.trans hb6.out); replace O := hid hO6.out) | fail)
      go_cut [3] (fun v wx => Hid (Ow wx W2.heap.size v (hdr m ++ be fl 1 ++ be g1 4 ++ be g2 4)) ∧ Hid (Below W2.heap.size W2 wx))
      case first =>
        have HSz : Hid (w6.heap.size ≤ w6.heap.size) := hid (Nat.le_refl _)
        have HOk := hid (fun k hk => (ow_lt O.out k hk).2)
        have HBz := hid (HB.out.drew)
        have O := hid (O.out.below (Below.refl _ w6).drew (Nat.le_refl _))
        obtain ⟨z1, z2⟩ := CF.out _ HBz.out
        go_region_law (first
                | (refine step_app_row rfl (.tmp 138) (.tmp 145) rfl rfl rfl O1.out HBz.out.size P2.out.1 (by omega) (by simp [hdr, be_length]) ?_; intro v2 w2 O2 hb2 _; have HBz := hid (HBz.out.trans hb2.out))
                | (refine step_app_row rfl (.tmp 130) (.tmp 137) rfl rfl rfl O.out HBz.out.size P1.out.1 (by omega) (by simp [hdr, be_length]) ?_; intro v1 w1 O1 hb1 hg1; have HBz := hid (HBz.out.trans hb1.out); obtain ⟨z1, z2⟩ := CF.out _ HBz.out; replace HSz := hid (Nat.le_trans HSz.out hg1.out.size); try (replace P2 := hid (P2.out.1.past P2.out.2 hg1.out HOk.out)))
                | (go_simp
                   go_at_call_of 97 (Value.int IntKind.u64 (g1 : Int))
                   with_reducible refine (E1.out _).mono ?_
                   rintro e wa ⟨A1, c1, rfl, o1, YA1, hbA1⟩
                   have P1 := hid (And.intro YA1.out (o1.out.mono HSz.out))
                   try (replace P2 := hid (And.intro ((P2.out.1.below hbA1.out).mono hbA1.out.size) (P2.out.2.below hbA1.out (Nat.le_refl _))))
                   try (replace O := hid (O.out.below hbA1.out (Nat.le_refl _)))
                   replace HSz := hid (Nat.le_trans HSz.out hbA1.out.size)
                   have HBz := hid (HBz.out.trans (hbA1.out.mono HBz.out.size))
                   obtain ⟨z1, z2⟩ := CF.out _ HBz.out)
                | (go_simp
                   go_at_call_of 97 (Value.int IntKind.u64 (g2 : Int))
                   with_reducible refine (E2.out _).mono ?_
                   rintro e wa ⟨A2, c2, rfl, o2, YA2, hbA2⟩
                   have P2 := hid (And.intro YA2.out (o2.out.mono HSz.out))
                   try (replace P1 := hid (And.intro ((P1.out.1.below hbA2.out).mono hbA2.out.size) (P1.out.2.below hbA2.out (Nat.le_refl _))))
                   try (replace O := hid (O.out.below hbA2.out (Nat.le_refl _)))
                   try (replace O1 := hid (O1.out.below hbA2.out (Nat.le_refl _)))
                   replace HSz := hid (Nat.le_trans HSz.out hbA2.out.size)
                   have HBz := hid (HBz.out.trans (hbA2.out.mono HBz.out.size))
                   obtain ⟨z1, z2⟩ := CF.out _ HBz.out))
        all_goals
          go_wp2_with fail
          go_meet
          exact ⟨O2, HBz⟩
      clear O HB
      obtain ⟨O, HB⟩ := hcut
      have x23 := (CE.out _ HB.out).c23
      go_wp2_with fail
      refine (D2.out _).mono ?_
      rintro e wb ⟨A8, c8, rfl, -, Y8, hb8⟩
      replace O := hid (O.out.below hb8.out (Nat.le_refl _))
      replace HB := hid (HB.out.trans (hb8.out.mono HB.out.size))
      clear x23
      go_wp2_with (at_builtin; refine app_bytes rfl (.tmp 147) (.tmp 152) rfl rfl rfl O.out HB.out.size Y8.out (by simp [hdr, be_length]) ?_; intro v7 w7 hO7 hb7; replace HB := hid (HB.out.trans hb7.out); replace O := hid hO7.out)
      go_loopg [3, 8] m.k (fun gg s3 s8 wr => ∃ i : Nat, i ≤ m.k ∧ m.k - i ≤ gg ∧ s8 = .int .i64 i ∧ Hid (Ow wr W2.heap.size s3 (hdr m ++ be fl 1 ++ be g1 4 ++ be g2 4 ++ be m.k 1 ++ tgx ((List.range i).map t))) ∧ Hid (Below W2.heap.size W2 wr))
      case atStart => exact ⟨0, by omega, by omega, rfl, hid (by rw [show tgx ((List.range 0).map t) = [] from rfl, List.append_nil]; exact O.out), HB⟩
      case round =>
        obtain ⟨i, hi, hg, rfl, HO, HBr⟩ := hrel
        have y23 := (CE.out _ HBr.out).c23
        by_cases hlt : i < m.k
        · have hltz : (i : Int) < (m.k : Int) := by omega
          obtain ⟨b, off, hA, hb, hc⟩ := H.out.tg.at_ (by omega)
          have q1 := ((K2.out.trans (HBr.out.mono K2.out.size)).cell (p := ⟨b, off + i, none⟩) hb).trans (hc i hlt)
          have hti := H.out.tg.lt i
          have HLX := hid (show tgx ((List.range (i + 1)).map t) = tgx ((List.range i).map t) ++ be (t i) 4 from by
            rw [List.range_succ, List.map_append]
            unfold tgx
            rw [List.flatMap_append]
            simp)
          have HLn := hid (show (tgx ((List.range i).map t)).length ≤ 100000 from tgx_len (by rw [List.length_map, List.length_range]; omega))
          rw [hA] at y23
          generalize t i = x at q1 hti HLX
          have hqx : IntKind.u64.wrap (x : Int) = (x : Int) := by rw [IntKind.wrap_u64]; omega
          have CX := hid (fun w => dg_any x 4 (by omega) (by omega) w)
          clear hc hA
          go_wp2_with fail
          refine (CX.out _).mono ?_
          rintro e wc ⟨A7, c7, rfl, -, Y7, hb7⟩
          have O := hid (HO.out.below hb7.out (Nat.le_refl _))
          have HB := hid (HBr.out.trans (hb7.out.mono HBr.out.size))
          go_wp2_with (at_builtin; refine app_bytes rfl (.tmp 161) (.tmp 168) rfl rfl rfl O.out HB.out.size Y7.out (by have := HLn.out; simp only [hdr, be_length, List.length_append]; omega) ?_; intro v8 w8 hO8 hb8)
          go_roundg (m.k - (i + 1))
          case measure => omega
          case rel => exact ⟨i + 1, by omega, by omega, by go_num, hid (by rw [HLX.out, ← List.append_assoc]; exact hO8.out), hid (HB.out.trans hb8.out)⟩
        · have hltz : ¬ (i : Int) < (m.k : Int) := by omega
          obtain rfl : i = m.k := by omega
          go_wp2
          go_ret
          exact ⟨_, rfl, hid (by rw [← HFl.out, ← HG1.out, ← HG2.out]; exact HO.out.mono K2.out.size), hid (K2.out.trans (HBr.out.mono K2.out.size))⟩
end Go.Proofs.YtbankbehfjogpaaGreat
