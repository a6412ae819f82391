/- Ratio, the document's side: Floor, Ceil. -/
import Derived.Test.YtnhnddhigbbleaaDoorQpart
import Derived.Test.YtnhnddhigbbleaaDoorEsum
namespace Go.Proofs.YtnhnddhigbbleaaDoor
open Go.RowKit

/-- The error of a quotient. -/
def Qer (p q : Prop) (N k R er : Int) : Prop := (¬ (p ∧ q) → er = 8) ∧ (p ∧ q → ¬ (0 < N ∧ 0 ≤ k ∧ k ≤ 64) → er = 2) ∧ (p ∧ q → 0 < N ∧ 0 ≤ k ∧ k ≤ 64 → Derr R er)
theorem Qer.uniq {p q : Prop} {N k R a b : Int} (h : Qer p q N k R a) (g : Qer p q N k R b) : a = b := by
  by_cases hpq : p ∧ q
  · by_cases hk : 0 < N ∧ 0 ≤ k ∧ k ≤ 64
    · exact (h.2.2 hpq hk).uniq (g.2.2 hpq hk)
    · rw [h.2.1 hpq hk, g.2.1 hpq hk]
  · rw [h.1 hpq, g.1 hpq]

set_option maxHeartbeats 6400000 in
set_option maxRecDepth 100000 in
theorem efloor_any {w : World} {p q : Prop} {M N k : Int} {v u : Value} (h1 : DArg w p M v) (h2 : DArg w q N u) :
    Calls Tryd.prog 7 #[v, u, .int .i64 k] w (ERes w (Qer p q N k (M * 2 ^ k.toNat / N * (tp (4000 - k.toNat) : Int))) (M * 2 ^ k.toNat / N * (tp (4000 - k.toNat) : Int))) := by
  have CAs := fun X (hb : Below w.heap.size w X) => asked_any (k := k) (h1.below hb) (h2.below hb)
  obtain ⟨s, A, n, c, f, x, rfl, ra, da, ma⟩ := h1
  obtain ⟨t, D, m, d, h, y, rfl, rb, db, mb⟩ := h2
  have K := hid ((((Below.refl w.heap.size w).alloc (Nat.le_refl _) (.cells #[.bool s, .slice A n c, .int .i64 x] 24)).alloc (by simp) (.cells #[.bool t, .slice D m d, .int .i64 y] 24)).alloc (by simp; omega) (.cells #[.bool false, .slice none 0 0, .int .i64 0] 24))
  have P0 : Hid (Dbox ((w.alloc (.cells #[.bool s, .slice A n c, .int .i64 x] 24)).alloc (.cells #[.bool t, .slice D m d, .int .i64 y] 24)) w.heap.size s (.slice A n c) x) := (Below.heap_alloc _ (.cells #[.bool t, .slice D m d, .int .i64 y] 24) _ (by simp)).trans (heap_alloc_new w (.cells #[.bool s, .slice A n c, .int .i64 x] 24))
  have P1 : Hid (Dbox ((w.alloc (.cells #[.bool s, .slice A n c, .int .i64 x] 24)).alloc (.cells #[.bool t, .slice D m d, .int .i64 y] 24)) (w.heap.size + 1) t (.slice D m d) y) := heap_alloc2_new w (.cells #[.bool s, .slice A n c, .int .i64 x] 24) (.cells #[.bool t, .slice D m d, .int .i64 y] 24)
  obtain ⟨W0, hW0⟩ : ∃ W, W = (w.alloc (.cells #[.bool s, .slice A n c, .int .i64 x] 24)).alloc (.cells #[.bool t, .slice D m d, .int .i64 y] 24) := ⟨_, rfl⟩
  have hs0 : W0.heap.size = w.heap.size + 1 + 1 := by rw [hW0]; simp
  have HW0 := hid hW0
  rw [← hW0] at K P0 P1
  clear hW0
  have P6 : Hid (Dbox (W0.alloc (.cells #[.bool false, .slice none 0 0, .int .i64 0] 24)) W0.heap.size false (.slice none 0 0) 0) := hid (heap_alloc_new W0 _)
  obtain ⟨W, hW⟩ : ∃ W, W = W0.alloc (.cells #[.bool false, .slice none 0 0, .int .i64 0] 24) := ⟨_, rfl⟩
  replace P0 := hid (show Dbox W w.heap.size s (.slice A n c) x from hW ▸ P0.out.alloc _)
  replace P1 := hid (show Dbox W (w.heap.size + 1) t (.slice D m d) y from hW ▸ P1.out.alloc _)
  have HW := hid hW
  rw [← hW] at K P6
  clear hW
  rw [hs0] at P6
  clear hs0
  have CA := hid CAs
  have Hra := hid ra
  have Hrb := hid rb
  have Hda := hid da
  have Hdb := hid db
  have Hma := hid ma
  have Hmb := hid mb
  clear CAs ra rb da db ma mb
  have a0 := P0.out.c0
  have a1 := P0.out.c1
  have a2 := P0.out.c2
  have b0 := P1.out.c0
  have b1 := P1.out.c1
  have b2 := P1.out.c2
  obtain ⟨RR, hRR⟩ : ∃ RR, RR = M * 2 ^ k.toNat / N * (tp (4000 - k.toNat) : Int) := ⟨_, rfl⟩
  rw [← hRR]
  have HRR := hid hRR
  clear hRR
  go_enter Tryd.func7, Tryd.ntmps7
  go_upto_region 1 with fail
  rw [← HW0.out, ← HW.out]
  go_wp2_with fail
  refine (CA.out _ K.out).mono ?_
  rintro e w1 ⟨er0, rfl, HE0, hb⟩
  have K1 := hid (K.out.trans (hb.out.mono K.out.size))
  replace P0 := hid (P0.out.below hb.out P0.out.lt)
  replace P1 := hid (P1.out.below hb.out P1.out.lt)
  replace P6 := hid (P6.out.below hb.out P6.out.lt)
  clear a0 a1 a2 b0 b1 b2 hb CA HW HW0 K
  by_cases he0 : er0 = 0
  case neg =>
    have HX := hid (show Qer p q N k RR er0 from by
      obtain ⟨h1, h2, h3⟩ := HE0.out
      refine ⟨h1, h2, fun hpq hk => absurd (h3 hpq hk) he0⟩)
    have q0 := P6.out.frozen 0
    have q1 := P6.out.frozen 1
    have q2 := P6.out.frozen 2
    have r0 := P6.out.c0
    have r1 := P6.out.c1
    have r2 := P6.out.c2
    have hez : (er0 != 0) = true := by simp [he0]
    have HNE := hid he0
    clear he0 HE0
    go_wp2_with fail
    refine ret_dyad rfl rfl rfl rfl (P6.out.store (t := false) (u := .slice none 0 0) (y := 0)) ?_
    exact ⟨_, er0, rfl, HX.out, (by rw [resD_bad HNE.out]; exact Dv.zero _), below_put3 K1.out (by omega)⟩
  subst he0
  obtain ⟨hpq, hN0, hk0, hk64⟩ : (p ∧ q) ∧ 0 < N ∧ 0 ≤ k ∧ k ≤ 64 := by
    obtain ⟨h1, h2, h3⟩ := HE0.out
    by_cases hpq : p ∧ q
    · refine ⟨hpq, ?_⟩
      by_cases h : 0 < N ∧ 0 ≤ k ∧ k ≤ 64
      · exact h
      · exact absurd (h2 hpq h) (by decide)
    · exact absurd (h1 hpq) (by decide)
  obtain ⟨X, rfl, hM⟩ := Hma.out hpq.1
  obtain ⟨Y, rfl, hN⟩ := Hmb.out hpq.2
  have pa := Hda.out.1 hpq.1
  have pb := Hdb.out.1 hpq.2
  obtain ⟨rfl, hm⟩ := (dv_pos pb.1).1 (hN ▸ hN0)
  obtain ⟨j, rfl⟩ : ∃ j : Nat, k = (j : Int) := ⟨k.toNat, by omega⟩
  have hX1 : X ≤ 1024 := by have := pa.2.2.1; omega
  have hY1 : Y ≤ 1024 := by have := pb.2.2.1; omega
  have hj64 : j ≤ 64 := by omega
  have CP := hid (fun X' (hb : Below w.heap.size w X') => part_any (s := s) (t := false) (up := false) (k := j) ((Hra.out.below hb).mono hb.size) ((Hrb.out.below hb).mono hb.size) pa.1 pb.1 hX1 hY1 hj64 hm)
  have HV := hid (show num s (dq_ s false (vl f n * tw (Y + j)) (vl h m * tw X)) * (tp (4000 - j) : Int) = RR by
    rw [floor_parts hX1 hY1 (by have := (vl_zero_iff pb.1).1; omega) hM hN, HRR.out]
    simp)
  have HEr := hid (fun er (he : Derr RR er) => show Qer p q N (j : Int) RR er from ⟨fun hn => absurd hpq hn, fun _ hn => absurd ⟨hN0, hk0, hk64⟩ hn, fun _ _ => he⟩)
  have Hj64 := hid hj64
  generalize num s (dq_ s false (vl f n * tw (Y + j)) (vl h m * tw X)) = QQ at CP HV
  clear hpq hN0 hk0 hk64 hM hN pa pb hm hX1 hY1 hj64 HE0 Hda Hdb Hma Hmb HRR
  have a0 := P0.out.c0
  have a1 := P0.out.c1
  have a2 := P0.out.c2
  have b0 := P1.out.c0
  have b1 := P1.out.c1
  have b2 := P1.out.c2
  go_wp2_with fail
  refine (CP.out _ K1.out).mono ?_
  rintro e w2 ⟨sv, rfl, hsv, hb⟩
  have K2 := hid (K1.out.trans (hb.out.mono K1.out.size))
  replace P6 := hid (P6.out.below hb.out P6.out.lt)
  clear a0 a1 a2 b0 b1 b2 P0 P1 hb CP
  have CFm := hid (eform_any (K := j) hsv.out (by omega) (by have := Hj64.out; omega))
  rw [HV.out] at CFm
  clear hsv
  go_wp2_with fail
  refine CFm.out.mono ?_
  rintro e w3 ⟨dd, er, rfl, HE, HD, hb⟩
  have K3 := hid (K2.out.trans (hb.out.mono K2.out.size))
  replace P6 := hid (P6.out.below hb.out P6.out.lt)
  clear hb CFm
  obtain ⟨sd, Ad, nd, cd, xd, rfl⟩ := HD.out.parts
  have PX : Hid (Dbox (w3.alloc (.cells #[.bool sd, .slice Ad nd cd, .int .i64 xd] 24)) w3.heap.size sd (.slice Ad nd cd) xd) := hid (heap_alloc_new _ _)
  have DD : Hid (Dv (w3.alloc (.cells #[.bool sd, .slice Ad nd cd, .int .i64 xd] 24)) (resD er RR) (.agg #[.bool sd, .slice Ad nd cd, .int .i64 xd])) := hid (HD.out.alloc _)
  have K4 := hid (K3.out.alloc K3.out.size (.cells #[.bool sd, .slice Ad nd cd, .int .i64 xd] 24))
  have P6x := hid (P6.out.alloc (.cells #[.bool sd, .slice Ad nd cd, .int .i64 xd] 24))
  have p0 := PX.out.c0
  have p1 := PX.out.c1
  have p2 := PX.out.c2
  have q0 := P6x.out.frozen 0
  have q1 := P6x.out.frozen 1
  have q2 := P6x.out.frozen 2
  have r0 := P6x.out.c0
  have r1 := P6x.out.c1
  have r2 := P6x.out.c2
  go_wp2
  refine ret_dyad rfl rfl rfl rfl (P6x.out.store (t := sd) (u := .slice Ad nd cd) (y := xd)) ?_
  exact ⟨_, er, rfl, HEr.out _ HE.out, DD.out.store P6x.out, below_put3 K4.out (by omega)⟩

set_option maxHeartbeats 6400000 in
set_option maxRecDepth 100000 in
theorem eceil_any {w : World} {p q : Prop} {M N k : Int} {v u : Value} (h1 : DArg w p M v) (h2 : DArg w q N u) :
    Calls Tryd.prog 9 #[v, u, .int .i64 k] w (ERes w (Qer p q N k (-(-(M * 2 ^ k.toNat) / N) * (tp (4000 - k.toNat) : Int))) (-(-(M * 2 ^ k.toNat) / N) * (tp (4000 - k.toNat) : Int))) := by
  have CAs := fun X (hb : Below w.heap.size w X) => asked_any (k := k) (h1.below hb) (h2.below hb)
  obtain ⟨s, A, n, c, f, x, rfl, ra, da, ma⟩ := h1
  obtain ⟨t, D, m, d, h, y, rfl, rb, db, mb⟩ := h2
  have K := hid ((((Below.refl w.heap.size w).alloc (Nat.le_refl _) (.cells #[.bool s, .slice A n c, .int .i64 x] 24)).alloc (by simp) (.cells #[.bool t, .slice D m d, .int .i64 y] 24)).alloc (by simp; omega) (.cells #[.bool false, .slice none 0 0, .int .i64 0] 24))
  have P0 : Hid (Dbox ((w.alloc (.cells #[.bool s, .slice A n c, .int .i64 x] 24)).alloc (.cells #[.bool t, .slice D m d, .int .i64 y] 24)) w.heap.size s (.slice A n c) x) := (Below.heap_alloc _ (.cells #[.bool t, .slice D m d, .int .i64 y] 24) _ (by simp)).trans (heap_alloc_new w (.cells #[.bool s, .slice A n c, .int .i64 x] 24))
  have P1 : Hid (Dbox ((w.alloc (.cells #[.bool s, .slice A n c, .int .i64 x] 24)).alloc (.cells #[.bool t, .slice D m d, .int .i64 y] 24)) (w.heap.size + 1) t (.slice D m d) y) := heap_alloc2_new w (.cells #[.bool s, .slice A n c, .int .i64 x] 24) (.cells #[.bool t, .slice D m d, .int .i64 y] 24)
  obtain ⟨W0, hW0⟩ : ∃ W, W = (w.alloc (.cells #[.bool s, .slice A n c, .int .i64 x] 24)).alloc (.cells #[.bool t, .slice D m d, .int .i64 y] 24) := ⟨_, rfl⟩
  have hs0 : W0.heap.size = w.heap.size + 1 + 1 := by rw [hW0]; simp
  have HW0 := hid hW0
  rw [← hW0] at K P0 P1
  clear hW0
  have P6 : Hid (Dbox (W0.alloc (.cells #[.bool false, .slice none 0 0, .int .i64 0] 24)) W0.heap.size false (.slice none 0 0) 0) := hid (heap_alloc_new W0 _)
  obtain ⟨W, hW⟩ : ∃ W, W = W0.alloc (.cells #[.bool false, .slice none 0 0, .int .i64 0] 24) := ⟨_, rfl⟩
  replace P0 := hid (show Dbox W w.heap.size s (.slice A n c) x from hW ▸ P0.out.alloc _)
  replace P1 := hid (show Dbox W (w.heap.size + 1) t (.slice D m d) y from hW ▸ P1.out.alloc _)
  have HW := hid hW
  rw [← hW] at K P6
  clear hW
  rw [hs0] at P6
  clear hs0
  have CA := hid CAs
  have Hra := hid ra
  have Hrb := hid rb
  have Hda := hid da
  have Hdb := hid db
  have Hma := hid ma
  have Hmb := hid mb
  clear CAs ra rb da db ma mb
  have a0 := P0.out.c0
  have a1 := P0.out.c1
  have a2 := P0.out.c2
  have b0 := P1.out.c0
  have b1 := P1.out.c1
  have b2 := P1.out.c2
  obtain ⟨RR, hRR⟩ : ∃ RR, RR = -(-(M * 2 ^ k.toNat) / N) * (tp (4000 - k.toNat) : Int) := ⟨_, rfl⟩
  rw [← hRR]
  have HRR := hid hRR
  clear hRR
  go_enter Tryd.func9, Tryd.ntmps9
  go_upto_region 1 with fail
  rw [← HW0.out, ← HW.out]
  go_wp2_with fail
  refine (CA.out _ K.out).mono ?_
  rintro e w1 ⟨er0, rfl, HE0, hb⟩
  have K1 := hid (K.out.trans (hb.out.mono K.out.size))
  replace P0 := hid (P0.out.below hb.out P0.out.lt)
  replace P1 := hid (P1.out.below hb.out P1.out.lt)
  replace P6 := hid (P6.out.below hb.out P6.out.lt)
  clear a0 a1 a2 b0 b1 b2 hb CA HW HW0 K
  by_cases he0 : er0 = 0
  case neg =>
    have HX := hid (show Qer p q N k RR er0 from by
      obtain ⟨h1, h2, h3⟩ := HE0.out
      refine ⟨h1, h2, fun hpq hk => absurd (h3 hpq hk) he0⟩)
    have q0 := P6.out.frozen 0
    have q1 := P6.out.frozen 1
    have q2 := P6.out.frozen 2
    have r0 := P6.out.c0
    have r1 := P6.out.c1
    have r2 := P6.out.c2
    have hez : (er0 != 0) = true := by simp [he0]
    have HNE := hid he0
    clear he0 HE0
    go_wp2_with fail
    refine ret_dyad rfl rfl rfl rfl (P6.out.store (t := false) (u := .slice none 0 0) (y := 0)) ?_
    exact ⟨_, er0, rfl, HX.out, (by rw [resD_bad HNE.out]; exact Dv.zero _), below_put3 K1.out (by omega)⟩
  subst he0
  obtain ⟨hpq, hN0, hk0, hk64⟩ : (p ∧ q) ∧ 0 < N ∧ 0 ≤ k ∧ k ≤ 64 := by
    obtain ⟨h1, h2, h3⟩ := HE0.out
    by_cases hpq : p ∧ q
    · refine ⟨hpq, ?_⟩
      by_cases h : 0 < N ∧ 0 ≤ k ∧ k ≤ 64
      · exact h
      · exact absurd (h2 hpq h) (by decide)
    · exact absurd (h1 hpq) (by decide)
  obtain ⟨X, rfl, hM⟩ := Hma.out hpq.1
  obtain ⟨Y, rfl, hN⟩ := Hmb.out hpq.2
  have pa := Hda.out.1 hpq.1
  have pb := Hdb.out.1 hpq.2
  obtain ⟨rfl, hm⟩ := (dv_pos pb.1).1 (hN ▸ hN0)
  obtain ⟨j, rfl⟩ : ∃ j : Nat, k = (j : Int) := ⟨k.toNat, by omega⟩
  have hX1 : X ≤ 1024 := by have := pa.2.2.1; omega
  have hY1 : Y ≤ 1024 := by have := pb.2.2.1; omega
  have hj64 : j ≤ 64 := by omega
  have CP := hid (fun X' (hb : Below w.heap.size w X') => part_any (s := s) (t := false) (up := true) (k := j) ((Hra.out.below hb).mono hb.size) ((Hrb.out.below hb).mono hb.size) pa.1 pb.1 hX1 hY1 hj64 hm)
  have HV := hid (show num s (dq_ s true (vl f n * tw (Y + j)) (vl h m * tw X)) * (tp (4000 - j) : Int) = RR by
    rw [ceil_parts hX1 hY1 (by have := (vl_zero_iff pb.1).1; omega) hM hN, HRR.out]
    simp)
  have HEr := hid (fun er (he : Derr RR er) => show Qer p q N (j : Int) RR er from ⟨fun hn => absurd hpq hn, fun _ hn => absurd ⟨hN0, hk0, hk64⟩ hn, fun _ _ => he⟩)
  have Hj64 := hid hj64
  generalize num s (dq_ s true (vl f n * tw (Y + j)) (vl h m * tw X)) = QQ at CP HV
  clear hpq hN0 hk0 hk64 hM hN pa pb hm hX1 hY1 hj64 HE0 Hda Hdb Hma Hmb HRR
  have a0 := P0.out.c0
  have a1 := P0.out.c1
  have a2 := P0.out.c2
  have b0 := P1.out.c0
  have b1 := P1.out.c1
  have b2 := P1.out.c2
  go_wp2_with fail
  refine (CP.out _ K1.out).mono ?_
  rintro e w2 ⟨sv, rfl, hsv, hb⟩
  have K2 := hid (K1.out.trans (hb.out.mono K1.out.size))
  replace P6 := hid (P6.out.below hb.out P6.out.lt)
  clear a0 a1 a2 b0 b1 b2 P0 P1 hb CP
  have CFm := hid (eform_any (K := j) hsv.out (by omega) (by have := Hj64.out; omega))
  rw [HV.out] at CFm
  clear hsv
  go_wp2_with fail
  refine CFm.out.mono ?_
  rintro e w3 ⟨dd, er, rfl, HE, HD, hb⟩
  have K3 := hid (K2.out.trans (hb.out.mono K2.out.size))
  replace P6 := hid (P6.out.below hb.out P6.out.lt)
  clear hb CFm
  obtain ⟨sd, Ad, nd, cd, xd, rfl⟩ := HD.out.parts
  have PX : Hid (Dbox (w3.alloc (.cells #[.bool sd, .slice Ad nd cd, .int .i64 xd] 24)) w3.heap.size sd (.slice Ad nd cd) xd) := hid (heap_alloc_new _ _)
  have DD : Hid (Dv (w3.alloc (.cells #[.bool sd, .slice Ad nd cd, .int .i64 xd] 24)) (resD er RR) (.agg #[.bool sd, .slice Ad nd cd, .int .i64 xd])) := hid (HD.out.alloc _)
  have K4 := hid (K3.out.alloc K3.out.size (.cells #[.bool sd, .slice Ad nd cd, .int .i64 xd] 24))
  have P6x := hid (P6.out.alloc (.cells #[.bool sd, .slice Ad nd cd, .int .i64 xd] 24))
  have p0 := PX.out.c0
  have p1 := PX.out.c1
  have p2 := PX.out.c2
  have q0 := P6x.out.frozen 0
  have q1 := P6x.out.frozen 1
  have q2 := P6x.out.frozen 2
  have r0 := P6x.out.c0
  have r1 := P6x.out.c1
  have r2 := P6x.out.c2
  go_wp2
  refine ret_dyad rfl rfl rfl rfl (P6x.out.store (t := sd) (u := .slice Ad nd cd) (y := xd)) ?_
  exact ⟨_, er, rfl, HEr.out _ HE.out, DD.out.store P6x.out, below_put3 K4.out (by omega)⟩

end Go.Proofs.YtnhnddhigbbleaaDoor
