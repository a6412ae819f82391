/- The document's content of a mail: kind 3. -/
import Derived.Test.YtbankbehfjogpaaGreatVap
namespace Go.Proofs.YtbankbehfjogpaaGreat
open Go.RowKit Go.Shelf Go.Lib
set_option maxRecDepth 100000
set_option maxHeartbeats 25600000 in
theorem pcont_k3 {w : World} {m : Md} {l : List De} {t : Nat → Nat} (h : Prd w w.heap.size m l t) (hm : PMay m l t) (hk : m.kd = 3) :
    Calls Tryz.prog 62 #[.agg (mdc m)] w fun e w' => ∃ v, e = .returned v ∧ Hid (Ow w' w.heap.size v (hdr m ++ be m.ab.toNat 3 ++ dtm m 2 ++ dtm m 3)) ∧ Hid (Below w.heap.size w w') := by
  have mixed : Tryz.prog.follows .mixedOrders = true := by kernel_rfl
  obtain ⟨W, hW⟩ : ∃ W, W = w.alloc (.cells (mdc m) 31) := ⟨_, rfl⟩
  have K := hid (show Below w.heap.size w W from hW ▸ (Below.refl _ w).alloc (Nat.le_refl _) _)
  have X := hid (show Pbox W w.heap.size m from hW ▸ heap_alloc_new w _)
  have HW := hid hW
  have H := hid h
  have HM := hid hm
  clear hW
  obtain ⟨⟨i1, i2⟩, ⟨i3, i4⟩, ⟨i5, i6⟩, ⟨i7, i8⟩, ⟨i9, i10⟩⟩ := hm.2.1
  obtain ⟨a1, e1⟩ := nat_of i1
  obtain ⟨a2, e2⟩ := nat_of i3
  obtain ⟨a3, e3⟩ := nat_of i5
  obtain ⟨a4, e4⟩ := nat_of i7
  obtain ⟨a5, e5⟩ := nat_of i9
  have hq1 : IntKind.u64.wrap (a1 : Int) = (a1 : Int) := by rw [IntKind.wrap_u64]; omega
  have hq2 : IntKind.u64.wrap (a2 : Int) = (a2 : Int) := by rw [IntKind.wrap_u64]; omega
  have hq3 : IntKind.u64.wrap (a3 : Int) = (a3 : Int) := by rw [IntKind.wrap_u64]; omega
  have hq4 : IntKind.u64.wrap (a4 : Int) = (a4 : Int) := by rw [IntKind.wrap_u64]; omega
  have hq5 : IntKind.u64.wrap (a5 : Int) = (a5 : Int) := by rw [IntKind.wrap_u64]; omega
  have x1 := X.out.c1
  have x2 := X.out.c2
  have x3 := X.out.c3
  have x4 := X.out.c4
  rw [e1] at x1
  rw [e2] at x2
  rw [e3] at x3
  rw [e4] at x4
  have C1 : Hid (∀ w, Calls Tryz.prog 97 #[.int .u64 (a1 : Int), .int .i64 1] w (DgE a1 1 w)) := hid (fun w => dg_any a1 1 (by omega) (by omega) w)
  have C2 : Hid (∀ w, Calls Tryz.prog 97 #[.int .u64 (a2 : Int), .int .i64 1] w (DgE a2 1 w)) := hid (fun w => dg_any a2 1 (by omega) (by omega) w)
  have C3 : Hid (∀ w, Calls Tryz.prog 97 #[.int .u64 (a3 : Int), .int .i64 2] w (DgE a3 2 w)) := hid (fun w => dg_any a3 2 (by omega) (by omega) w)
  have C4 : Hid (∀ w, Calls Tryz.prog 97 #[.int .u64 (a4 : Int), .int .i64 3] w (DgE a4 3 w)) := hid (fun w => dg_any a4 3 (by omega) (by omega) w)
  have C5 : Hid (∀ w, Calls Tryz.prog 97 #[.int .u64 (a5 : Int), .int .i64 3] w (DgE a5 3 w)) := hid (fun w => dg_any a5 3 (by omega) (by omega) w)
  have HH : Hid (hdr m = be a1 1 ++ be a2 1 ++ be a3 2 ++ be a4 3) := hid (by unfold hdr; rw [e1, e2, e3, e4]; rfl)
  have HE5 := hid e5
  have HK := hid hk
  clear h hm i1 i2 i3 i4 i5 i6 i7 i8 i9 i10 e1 e2 e3 e4 e5 hk
  go_enter Tryz.func62, Tryz.ntmps62
  go_upto_region 1 with fail
  rw [← HW.out]
  clear HW
  go_upto_region 4 with fail
  obtain ⟨W2, hW2⟩ : ∃ W2, W2 = (W.alloc (.cells #[.int .u64 (a1 : Int), .int .u64 (a2 : Int), .int .u64 (a3 : Int), .int .u64 (a4 : Int)] 81)).alloc (.cells #[.int .i64 1, .int .i64 1, .int .i64 2, .int .i64 3] 3) := ⟨_, rfl⟩
  rw [← hW2]
  have R1 := hid (show Nrow W2 W.heap.size 81 [.int .u64 (a1 : Int), .int .u64 (a2 : Int), .int .u64 (a3 : Int), .int .u64 (a4 : Int)] from hW2 ▸ (Below.heap_alloc _ _ _ (by simp)).trans (World.alloc_heap_new W _))
  have R2 := hid (show Nrow W2 (W.heap.size + 1) 3 [.int .i64 1, .int .i64 1, .int .i64 2, .int .i64 3] from by
    have := World.alloc_heap_new (W.alloc (.cells #[.int .u64 (a1 : Int), .int .u64 (a2 : Int), .int .u64 (a3 : Int), .int .u64 (a4 : Int)] 81)) (.cells #[.int .i64 1, .int .i64 1, .int .i64 2, .int .i64 3] 3)
    rw [World.size_alloc, ← hW2] at this
    exact this)
  have hz2 := hid (show W2.heap.size = W.heap.size + 2 from by rw [hW2]; simp)
  have b2 := hid (show Below W.heap.size W W2 from hW2 ▸ ((Below.refl _ W).alloc (Nat.le_refl _) _).alloc (by simp) _)
  have K2 := hid (K.out.trans (b2.out.mono K.out.size))
  have X2 := hid (X.out.below b2.out X.out.lt)
  clear hW2 x1 x2 x3 x4
  go_wp2_with fail
  go_loopg [3, 6] 4 (fun gg s3 s6 wr => ∃ i : Nat, i ≤ 4 ∧ 4 - i ≤ gg ∧ s6 = .int .i64 i ∧ Hid (Ow wr W2.heap.size s3 ((if 0 < i then be a1 1 else []) ++ (if 1 < i then be a2 1 else []) ++ (if 2 < i then be a3 2 else []) ++ (if 3 < i then be a4 3 else []))) ∧ Hid (Below W2.heap.size W2 wr))
  case atStart => exact ⟨0, by omega, by omega, rfl, hid (Ow.nil W2 _), hid (Below.refl _ _)⟩
  case round =>
    obtain ⟨i, hi, hg, rfl, HO, HB⟩ := hrel
    have hc : i = 0 ∨ i = 1 ∨ i = 2 ∨ i = 3 ∨ i = 4 := by omega
    rcases hc with rfl | rfl | rfl | rfl | rfl
    · have HBz := hid (HB.out.drew)
      have O := hid (HO.out.below (Below.refl _ wr).drew (Nat.le_refl _))
      have y0 : wr.drew.cell? ⟨W.heap.size, 0, none⟩ = some (.int .u64 (a1 : Int)) := (R1.out.below HBz.out (by have := hz2.out; omega)).cell 0
      have y1 : wr.drew.cell? ⟨W.heap.size + 1, 0, none⟩ = some (.int .i64 1) := (R2.out.below HBz.out (by have := hz2.out; omega)).cell 0
      clear HO
      go_wp2_with fail
      go_region_law (first
        | (refine step_app_bytes rfl (.tmp 27) (.tmp 36) rfl rfl rfl O.out HBz.out.size Y3.out (by omega) (by first | simp | simp [be_length]) ?_; intro v' w' hO' hb'; have HBz := hid (HBz.out.trans hb'.out))
        | (go_simp
           go_at_call 97
           with_reducible refine (C1.out _).mono ?_
           rintro e wa ⟨A9, c9, rfl, O9, Y3, hb9⟩
           have O := hid (O.out.below hb9.out (Nat.le_refl _))
           have HBz := hid (HBz.out.trans (hb9.out.mono HBz.out.size))))
      all_goals
        go_wp2_with fail
        go_roundg (3)
        case measure => omega
        case rel => exact ⟨1, by omega, by omega, rfl, hid (by simpa using hO'.out), HBz⟩
    · have HBz := hid (HB.out.drew)
      have O := hid (HO.out.below (Below.refl _ wr).drew (Nat.le_refl _))
      have y0 : wr.drew.cell? ⟨W.heap.size, 1, none⟩ = some (.int .u64 (a2 : Int)) := (R1.out.below HBz.out (by have := hz2.out; omega)).cell 1
      have y1 : wr.drew.cell? ⟨W.heap.size + 1, 1, none⟩ = some (.int .i64 1) := (R2.out.below HBz.out (by have := hz2.out; omega)).cell 1
      clear HO
      go_wp2_with fail
      go_region_law (first
        | (refine step_app_bytes rfl (.tmp 27) (.tmp 36) rfl rfl rfl O.out HBz.out.size Y3.out (by omega) (by simp [be_length]) ?_; intro v' w' hO' hb'; have HBz := hid (HBz.out.trans hb'.out))
        | (go_simp
           go_at_call 97
           with_reducible refine (C2.out _).mono ?_
           rintro e wa ⟨A9, c9, rfl, O9, Y3, hb9⟩
           have O := hid (O.out.below hb9.out (Nat.le_refl _))
           have HBz := hid (HBz.out.trans (hb9.out.mono HBz.out.size))))
      all_goals
        go_wp2_with fail
        go_roundg (2)
        case measure => omega
        case rel => exact ⟨2, by omega, by omega, rfl, hid (by simpa using hO'.out), HBz⟩
    · have HBz := hid (HB.out.drew)
      have O := hid (HO.out.below (Below.refl _ wr).drew (Nat.le_refl _))
      have y0 : wr.drew.cell? ⟨W.heap.size, 2, none⟩ = some (.int .u64 (a3 : Int)) := (R1.out.below HBz.out (by have := hz2.out; omega)).cell 2
      have y1 : wr.drew.cell? ⟨W.heap.size + 1, 2, none⟩ = some (.int .i64 2) := (R2.out.below HBz.out (by have := hz2.out; omega)).cell 2
      clear HO
      go_wp2_with fail
      go_region_law (first
        | (refine step_app_bytes rfl (.tmp 27) (.tmp 36) rfl rfl rfl O.out HBz.out.size Y3.out (by omega) (by simp [be_length]) ?_; intro v' w' hO' hb'; have HBz := hid (HBz.out.trans hb'.out))
        | (go_simp
           go_at_call 97
           with_reducible refine (C3.out _).mono ?_
           rintro e wa ⟨A9, c9, rfl, O9, Y3, hb9⟩
           have O := hid (O.out.below hb9.out (Nat.le_refl _))
           have HBz := hid (HBz.out.trans (hb9.out.mono HBz.out.size))))
      all_goals
        go_wp2_with fail
        go_roundg (1)
        case measure => omega
        case rel => exact ⟨3, by omega, by omega, rfl, hid (by simpa using hO'.out), HBz⟩
    · have HBz := hid (HB.out.drew)
      have O := hid (HO.out.below (Below.refl _ wr).drew (Nat.le_refl _))
      have y0 : wr.drew.cell? ⟨W.heap.size, 3, none⟩ = some (.int .u64 (a4 : Int)) := (R1.out.below HBz.out (by have := hz2.out; omega)).cell 3
      have y1 : wr.drew.cell? ⟨W.heap.size + 1, 3, none⟩ = some (.int .i64 3) := (R2.out.below HBz.out (by have := hz2.out; omega)).cell 3
      clear HO
      go_wp2_with fail
      go_region_law (first
        | (refine step_app_bytes rfl (.tmp 27) (.tmp 36) rfl rfl rfl O.out HBz.out.size Y3.out (by omega) (by simp [be_length]) ?_; intro v' w' hO' hb'; have HBz := hid (HBz.out.trans hb'.out))
        | (go_simp
           go_at_call 97
           with_reducible refine (C4.out _).mono ?_
           rintro e wa ⟨A9, c9, rfl, O9, Y3, hb9⟩
           have O := hid (O.out.below hb9.out (Nat.le_refl _))
           have HBz := hid (HBz.out.trans (hb9.out.mono HBz.out.size))))
      all_goals
        go_wp2_with fail
        go_roundg (0)
        case measure => omega
        case rel => exact ⟨4, by omega, by omega, rfl, hid (by simpa using hO'.out), HBz⟩
    · have O := hid (show Ow wr W2.heap.size u3 (hdr m) from by rw [HH.out]; simpa using HO.out)
      have KB := hid (K2.out.trans (HB.out.mono K2.out.size))
      have XB := hid (X2.out.below HB.out (by have := X.out.lt; have := hz2.out; omega))
      have x0 : wr.cell? ⟨w.heap.size, 0, none⟩ = some (.int .u8 3) := by rw [XB.out.c0, HK.out]; rfl
      clear HO
      have x5 : wr.cell? ⟨w.heap.size, 5, none⟩ = some (.int .i64 (a5 : Int)) := by rw [XB.out.c5, HE5.out]
      go_wp2_with fail
      refine (C5.out _).mono ?_
      rintro e wa ⟨A9, c9, rfl, -, Y9, hb9⟩
      replace O := hid (O.out.below hb9.out (Nat.le_refl _))
      replace HB := hid (HB.out.trans (hb9.out.mono HB.out.size))
      clear x0 x5 XB KB
      go_upto_region 15 with (first | (at_builtin; refine app_bytes rfl (.tmp 46) (.tmp 50) rfl rfl rfl O.out HB.out.size Y9.out (by simp [hdr, be_length]) ?_; intro v6 w6 hO6 hb6; replace HB := hid (HB.out.trans hb6.out); have XB := hid (X2.out.below HB.out (by have := X.out.lt; have := hz2.out; omega)); have x0 : w6.cell? ⟨w.heap.size, 0, none⟩ = some (.int .u8 3) := (by rw [XB.out.c0, HK.out]; rfl)) | fail)
      replace O := hid hO6.out
      have M2 := HM.out.2.2.2.1 2 (by omega)
      have M3 := HM.out.2.2.2.1 3 (by omega)
      obtain ⟨E2, hX2⟩ := nat_of M2.2.1
      obtain ⟨E3, hX3⟩ := nat_of M3.2.1
      have L2 := hid M2.2.2.1
      have L3 := hid M3.2.2.1
      rw [hX2] at L2
      rw [hX3] at L3
      have N2 := hid M2.1.1
      have N3 := hid M3.1.1
      have CF : Hid (∀ Z, Below W2.heap.size W2 Z → Z.cell? ⟨w.heap.size, 12, none⟩ = some (.bool (m.D 2).s) ∧ Z.cell? ⟨w.heap.size, 13, none⟩ = some (.slice (m.D 2).A (m.D 2).n (m.D 2).c) ∧ Z.cell? ⟨w.heap.size, 14, none⟩ = some (.int .i64 (E2 : Int)) ∧
          Z.cell? ⟨w.heap.size, 15, none⟩ = some (.bool (m.D 3).s) ∧ Z.cell? ⟨w.heap.size, 16, none⟩ = some (.slice (m.D 3).A (m.D 3).n (m.D 3).c) ∧ Z.cell? ⟨w.heap.size, 17, none⟩ = some (.int .i64 (E3 : Int))) := hid fun Z hb => by
        have XZ := X2.out.below hb (by have := X.out.lt; have := hz2.out; omega)
        exact ⟨XZ.c12, XZ.c13, by rw [XZ.c14, hX2], XZ.c15, XZ.c16, by rw [XZ.c17, hX3]⟩
      have T2 : Hid (∀ Z, Below W2.heap.size W2 Z → Calls Tryz.prog 98 #[Value.agg #[Value.bool (m.D 2).s, Value.slice (m.D 2).A (m.D 2).n (m.D 2).c, Value.int IntKind.i64 (E2 : Int)]] Z (TxE (m.D 2).s (m.D 2).n (m.D 2).f E2 Z)) := hid fun Z hb => rTextO_any ((H.out.on (K2.out.trans (hb.mono K2.out.size))).ms 2 (by omega)) N2.out (by have := L2.out; omega)
      have T3 : Hid (∀ Z, Below W2.heap.size W2 Z → Calls Tryz.prog 98 #[Value.agg #[Value.bool (m.D 3).s, Value.slice (m.D 3).A (m.D 3).n (m.D 3).c, Value.int IntKind.i64 (E3 : Int)]] Z (TxE (m.D 3).s (m.D 3).n (m.D 3).f E3 Z)) := hid fun Z hb => rTextO_any ((H.out.on (K2.out.trans (hb.mono K2.out.size))).ms 3 (by omega)) N3.out (by have := L3.out; omega)
      have HXi := hid hX2
      have HXj := hid hX3
      clear hX2 hX3 M2 M3
      have HZ := hid HB.out
      have HSz : Hid (w6.heap.size ≤ w6.heap.size) := hid (Nat.le_refl _)
      have HOk := hid (fun k hk => (ow_lt O.out k hk).2)
      have HBz := hid (HB.out.drew)
      replace O := hid (O.out.below (Below.refl _ w6).drew (Nat.le_refl _))
      obtain ⟨d1, d2, d3, d4, d5, d6⟩ := CF.out _ HBz.out
      go_region_law (first
        | (refine step_app_row rfl (.tmp 75) (.tmp 79) rfl rfl rfl O1.out HBz.out.size P2.out.1 (by have := q2.out; omega) (by have := q2.out; have := N2.out; have := N3.out; simp only [hdr, be_length, dtx_length, List.length_append]; omega) ?_; intro v2 w2 O2 hb2 _; have HBz := hid (HBz.out.trans hb2.out))
        | (refine step_app_row rfl (.tmp 70) (.tmp 74) rfl rfl rfl O.out HBz.out.size P1.out.1 (by have := q1.out; omega) (by have := q1.out; have := N2.out; simp only [hdr, be_length, List.length_append]; omega) ?_; intro v1 w1 O1 hb1 hg1; have HBz := hid (HBz.out.trans hb1.out); obtain ⟨d1, d2, d3, d4, d5, d6⟩ := CF.out _ HBz.out; replace HSz := hid (Nat.le_trans HSz.out hg1.out.size); try (replace P2 := hid (P2.out.1.past P2.out.2 hg1.out HOk.out)))
        | (go_simp
           go_at_call_of 98 (Value.agg #[Value.bool (m.D 2).s, Value.slice (m.D 2).A (m.D 2).n (m.D 2).c, Value.int IntKind.i64 (E2 : Int)])
           with_reducible refine (T2.out _ HBz.out).mono ?_
           rintro e wa ⟨A1, n1, c1, rfl, q1, o1, Y1, hb1⟩
           have P1 := hid (And.intro Y1.out (o1.out.mono HSz.out))
           try (replace P2 := hid (And.intro ((P2.out.1.below hb1.out).mono hb1.out.size) (P2.out.2.below hb1.out (Nat.le_refl _))))
           replace O := hid (O.out.below hb1.out (Nat.le_refl _))
           replace HSz := hid (Nat.le_trans HSz.out hb1.out.size)
           have HBz := hid (HBz.out.trans (hb1.out.mono HBz.out.size))
           obtain ⟨d1, d2, d3, d4, d5, d6⟩ := CF.out _ HBz.out)
        | (go_simp
           go_at_call_of 98 (Value.agg #[Value.bool (m.D 3).s, Value.slice (m.D 3).A (m.D 3).n (m.D 3).c, Value.int IntKind.i64 (E3 : Int)])
           with_reducible refine (T3.out _ HBz.out).mono ?_
           rintro e wb ⟨A2, n2, c2, rfl, q2, o2, Y2, hb2⟩
           have P2 := hid (And.intro Y2.out (o2.out.mono HSz.out))
           try (replace P1 := hid (And.intro ((P1.out.1.below hb2.out).mono hb2.out.size) (P1.out.2.below hb2.out (Nat.le_refl _))))
           try (replace O := hid (O.out.below hb2.out (Nat.le_refl _)))
           try (replace O1 := hid (O1.out.below hb2.out (Nat.le_refl _)))
           replace HSz := hid (Nat.le_trans HSz.out hb2.out.size)
           have HBz := hid (HBz.out.trans (hb2.out.mono HBz.out.size))
           obtain ⟨d1, d2, d3, d4, d5, d6⟩ := CF.out _ HBz.out))
      all_goals
        go_wp2
        go_ret
        refine ⟨_, rfl, hid ?_, hid (K2.out.trans (HBz.out.mono K2.out.size))⟩
        unfold dtm
        rw [HE5.out, HXi.out, HXj.out, Int.toNat_natCast, Int.toNat_natCast, Int.toNat_natCast]
        exact O2.out.mono K2.out.size
end Go.Proofs.YtbankbehfjogpaaGreat
