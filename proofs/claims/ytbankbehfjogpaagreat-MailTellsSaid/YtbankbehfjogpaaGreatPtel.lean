/- MailTells, walked. -/
import Derived.Test.YtbankbehfjogpaaGreatVat
namespace Go.Proofs.YtbankbehfjogpaaGreat
open Go.RowKit Go.Shelf Go.Lib
set_option maxRecDepth 100000
theorem ow_empty (w : World) : Ow (w.alloc (.cells #[] 5)) w.heap.size (.slice (some ⟨w.heap.size, 0, none⟩) 0 0) [] :=
  ⟨⟨rfl, .inr ⟨w.heap.size, 0, #[], rfl, Nat.le_refl _, heap_alloc_new w _, Nat.le_refl _, by unfold maxLen; omega, rfl, rfl⟩⟩, by simp, by simp⟩
theorem ow_by {w Y : World} {B n c : Nat} {A : Option Addr} {xs : List Nat} (h : Ow w B (.slice A n c) ([] ++ xs)) (hb : Below w.heap.size w Y) (hn : ([] ++ xs : List Nat).length = n) : By Y Y.heap.size A n c xs := by
  have h1 := h.below hb (Nat.le_refl _)
  rw [List.nil_append] at h1 hn
  obtain ⟨A', c', e, hy⟩ := h1.shape
  rw [hn] at e hy
  injection e with e1 _ e3
  subst e1 e3
  exact hy
theorem ow_by' {w : World} {B n c : Nat} {A : Option Addr} {xs : List Nat} (h : Ow w B (.slice A n c) xs) (hn : xs.length = n) : By w w.heap.size A n c xs := by
  obtain ⟨A', c', e, hy⟩ := h.shape
  rw [hn] at e hy
  injection e with e1 _ e3
  subst e1 e3
  exact hy
theorem ow_spw {w : World} {B n c : Nat} {A : Option Addr} {xs : List Nat} (h : Ow w B (.slice A n c) xs) (hn : xs.length = n) : Spw w B 5 1 A n c := by
  rcases h.1.2 with ⟨e, _⟩ | ⟨k, cap, cur, e, hk, hh, hc, hmx, hsz, _⟩
  · injection e with _ e _
    exact .inl e
  · injection e with e1 e2 e3
    exact .inr ⟨k, cur, e1, hk, hh, by omega, by omega⟩
theorem mread_any {w : World} {A : Option Addr} {n c : Nat} {xs : List Nat} (h : By w w.heap.size A n c xs) :
    Calls Tryz.prog 8 #[.slice A n c] w fun e w' => ∃ m er, e = .returned (.tuple #[.agg (mdc m), .int .i64 er]) ∧
      Hid (∃ l t, (∀ Y, Below w'.heap.size w' Y → Prd Y Y.heap.size m l t) ∧ (∀ k, k < 4 → 0 ≤ (m.D k).x) ∧ ((er = 0 ∧ RdOk xs (mlOf m l t)) ∨ (er = rdE xs ∧ er ≠ 0 ∧ m = Mz 0 ∧ l = [] ∧ t = (fun _ => 0) ∧ ∀ M, ¬ RdOk xs M))) ∧
      Hid (Spw w' w.heap.size 73 2 m.A m.n m.c ∧ Spw w' w.heap.size 75 1 m.T m.k m.d ∧ Spw w' w.heap.size 75 1 (m.D 0).A (m.D 0).n (m.D 0).c ∧ m.n ≤ 1000 ∧ m.k ≤ 1000 ∧ (m.D 0).n ≤ 1000) ∧ Hid (Below w.heap.size w w') := by
  have key : ∀ (er : Int) (w' : World), er = rdE xs → er ≠ 0 → (∀ M, ¬ RdOk xs M) → Below w.heap.size w w' → ∃ m er', Ending.returned (.tuple #[.agg (mdc (Mz 0)), .int .i64 er]) = .returned (.tuple #[.agg (mdc m), .int .i64 er']) ∧
      Hid (∃ l t, (∀ Y, Below w'.heap.size w' Y → Prd Y Y.heap.size m l t) ∧ (∀ k, k < 4 → 0 ≤ (m.D k).x) ∧ ((er' = 0 ∧ RdOk xs (mlOf m l t)) ∨ (er' = rdE xs ∧ er' ≠ 0 ∧ m = Mz 0 ∧ l = [] ∧ t = (fun _ => 0) ∧ ∀ M, ¬ RdOk xs M))) ∧
      Hid (Spw w' w.heap.size 73 2 m.A m.n m.c ∧ Spw w' w.heap.size 75 1 m.T m.k m.d ∧ Spw w' w.heap.size 75 1 (m.D 0).A (m.D 0).n (m.D 0).c ∧ m.n ≤ 1000 ∧ m.k ≤ 1000 ∧ (m.D 0).n ≤ 1000) ∧ Hid (Below w.heap.size w w') := fun er w' he h0 hn hb =>
    ⟨Mz 0, er, rfl, hid ⟨[], fun _ => 0, fun Y _ => ⟨by decide, fun _ _ => Rd.nil _ _, Ds.nil' _ _, Rd.nil _ _⟩, fun _ _ => Int.le_refl 0, .inr ⟨he, h0, rfl, rfl, rfl, hn⟩⟩, hid ⟨.inl rfl, .inl rfl, .inl rfl, Nat.zero_le _, Nat.zero_le _, Nat.zero_le _⟩, hid hb⟩
  by_cases hf : flt xs = 0
  · by_cases hr : ∃ M, RdOk xs M
    · obtain ⟨M, hM⟩ := hr
      refine (read_good h hM).mono ?_
      rintro e w' ⟨m, rfl, hO, hb⟩
      obtain ⟨hml, hx⟩ := out_ml hO.out
      have hfit := hM.may.fit.fit
      have hkd : m.kd < 256 := by rw [hO.out.kd]; have := hfit.kd; omega
      have hd0 := hO.out.S
      have hs := hM.may.fit.S.1.1
      refine ⟨m, 0, rfl, hid ⟨M.ls, fun j => (M.le[j]?).getD 0, fun Y hY => ?_, hx, .inl ⟨rfl, by rw [hml]; exact hM⟩⟩, hid ⟨?_, ?_, (hO.out.dv 0 (by omega)).spw, ?_, ?_, ?_⟩, hb⟩
      · exact ((hO.out.prd (by rw [← hO.out.kd]; exact hkd) (fun D hD => hD.rd)).below hY).mono hY.size
      · have h1 := hO.out.ls
        obtain ⟨A', c', e', -⟩ := h1.form
        injection e' with e1 e2 e3
        exact h1.spw e2
      · have h1 := hO.out.tg
        rcases h1.own.2 with ⟨e', _⟩ | ⟨k, cap, cur, e', hk, hh, hc, hmx, hsz, _⟩
        · injection e' with _ e' _
          exact .inl e'
        · injection e' with e1 e2 e3
          exact .inr ⟨k, cur, e1, hk, hh, by omega, by omega⟩
      · have h1 := hO.out.ls
        obtain ⟨A', c', e', -⟩ := h1.form
        injection e' with e1 e2 e3
        have := hfit.lsn
        omega
      · have h1 := hO.out.tg.rd.1
        have := hfit.len
        omega
      · have := hd0.2.1
        omega
    · refine (read_none h hf (fun M hM => hr ⟨M, hM⟩)).mono ?_
      rintro e w' ⟨rfl, hb⟩
      exact key 41 w' (if_pos hf).symm (by decide) (fun M hM => hr ⟨M, hM⟩) hb.out
  · refine (read_frame h hf).mono ?_
    rintro e w' ⟨rfl, hb⟩
    exact key (flt xs) w' (if_neg hf).symm hf (fun M hM => hf hM.flt) hb.out
noncomputable def wX (P : Prop) (xs : List Nat) : List Nat := open Classical in if P then xs else []
noncomputable def wE (P : Prop) : Int := open Classical in if P then 0 else 100
theorem mwrite_any {w : World} {m : Md} {l : List De} {t : Nat → Nat} (h : Prd w w.heap.size m l t) :
    Calls Tryz.prog 6 #[.agg (mdc m)] w fun e w' => ∃ v, e = .returned (.tuple #[v, .int .i64 (wE (PMay m l t))]) ∧ Hid (Ow w' w.heap.size v (wX (PMay m l t) (frm m.kd (cont (mlOf m l t))))) ∧ Hid (Below w.heap.size w w') := by
  unfold wX wE
  by_cases hm : PMay m l t
  · rw [if_pos hm, if_pos hm]; exact write_good h hm
  · rw [if_neg hm, if_neg hm]
    exact (write_bad h hm).mono fun e w' ⟨he, hb⟩ => ⟨_, he, hid (Ow.nil _ _), hb⟩
theorem dwrite_any {w : World} {m : Md} {l : List De} {t : Nat → Nat} (h : Prd w w.heap.size m l t) :
    Calls Tryz.prog 7 #[.agg (mdc m)] w fun e w' => ∃ v, e = .returned (.tuple #[v, .int .i64 (wE (PMay m l t))]) ∧ Hid (Ow w' w.heap.size v (wX (PMay m l t) (frm m.kd (cont (mlOf m l t))))) ∧ Hid (Below w.heap.size w w') := by
  unfold wX wE
  by_cases hm : PMay m l t
  · rw [if_pos hm, if_pos hm]; exact pwrite_good h hm
  · rw [if_neg hm, if_neg hm]
    exact (pwrite_bad h hm).mono fun e w' ⟨he, hb⟩ => ⟨_, he, hid (Ow.nil _ _), hb⟩
theorem mcheck_all {w : World} {m : Md} {l : List De} {t : Nat → Nat} (h : Prd w w.heap.size m l t) :
    Calls Tryz.prog 11 #[.agg (mdc m)] w fun e w' => e = .returned (.int .i64 (wE (PMay m l t))) ∧ Hid (Below w.heap.size w w') := by
  unfold wE
  by_cases hm : PMay m l t
  · rw [if_pos hm]; exact check_yes h hm
  · rw [if_neg hm]; exact check_no h hm
theorem dcheck_all {w : World} {m : Md} {l : List De} {t : Nat → Nat} (h : Prd w w.heap.size m l t) :
    Calls Tryz.prog 12 #[.agg (mdc m)] w fun e w' => e = .returned (.int .i64 (wE (PMay m l t))) ∧ Hid (Below w.heap.size w w') := by
  refine (pcheck_any (P := PMay m l t) h (hid Iff.rfl)).mono ?_
  rintro e w' ⟨er, rfl, hr, hb⟩
  unfold wE
  by_cases hm : PMay m l t
  · rw [if_pos hm, hr.out.1 hm]; exact ⟨rfl, hb⟩
  · rw [if_neg hm, hr.out.2 hm]; exact ⟨rfl, hb⟩
theorem wX_len {w : World} {B : Nat} {m : Md} {l : List De} {t : Nat → Nat} (h : Prd w B m l t) : (wX (PMay m l t) (frm m.kd (cont (mlOf m l t)))).length ≤ 100000 := by
  unfold wX
  by_cases hm : PMay m l t
  · rw [if_pos hm, frm_length]
    have := cont_length h.ls.len hm
    omega
  · rw [if_neg hm]; exact Nat.zero_le _
set_option maxHeartbeats 51200000 in
theorem mtells_walk {w : World} {m o : Md} {l r : List De} {t u : Nat → Nat} {A : Option Addr} {n c : Nat} {bs : List Nat} (h : Prd w w.heap.size m l t) (hnil : (∀ k, k < 4 → (m.D k).A = none → (m.D k).n = 0 ∧ (m.D k).c = 0) ∧ (m.A = none → m.n = 0 ∧ m.c = 0) ∧ (m.T = none → m.k = 0 ∧ m.d = 0))
    (k : Prd w w.heap.size o r u) (hb : By w w.heap.size A n c bs) :
    Calls Tryz.prog 3 #[.agg (mdc m), .agg (mdc o), .slice A n c] w fun e w' => e = .returned (.bool true) ∧ Below w.heap.size w w' := by
  obtain ⟨w1, hw1⟩ : ∃ w1, w1 = (w.alloc (.cells (mdc m) 31)).alloc (.cells (mdc o) 31) := ⟨_, rfl⟩
  have B0 := hid (show Below w.heap.size w w1 from hw1 ▸ ((Below.refl _ w).alloc (Nat.le_refl _) _).alloc (by simp) _)
  have P3 := hid (show Pbox w1 w.heap.size m from hw1 ▸ pheap0 w _ _)
  have P4 := hid (show Pbox w1 (w.heap.size + 1) o from hw1 ▸ pheap1 w _ _)
  have HW := hid hw1
  have H := hid h
  have HK := hid k
  have HBs := hid hb
  have HN := hid hnil
  have hbl := hb.len
  have HBL := hid hbl
  clear hw1 h k hb hnil hbl
  go_enter Tryz.func3, Tryz.ntmps3
  go_upto_region 1 with fail
  rw [← HW.out]
  clear HW
  by_cases hg1 : PGr m
  · have CG := hid (great_yes (H.out.on B0.out) hg1)
    clear hg1
    go_wp2_with (first | (refine wp_gmail (by kernel_rfl) (.tmp 3) (by with_reducible rfl) w.heap.size m (by rfl) P3.out ?_) | fail)
    refine CG.out.mono ?_
    rintro e w3 ⟨rfl, hb⟩
    go_wp2
    go_ret
    exact ⟨rfl, B0.out.trans (hb.out.mono B0.out.size)⟩
  have CG := hid (great_no (H.out.on B0.out) hg1)
  have HG := hid hg1
  have HGR := hid (show ¬ MGr m.D ∧ m.n ≤ 70 ∧ m.k ≤ 70 from ⟨fun hh => hg1 (.inl hh), by have : ¬ 70 < m.n := fun hh => hg1 (.inr (.inl hh)); omega, by have : ¬ 70 < m.k := fun hh => hg1 (.inr (.inr hh)); omega⟩)
  clear hg1
  go_wp2_with (first | (refine wp_gmail (by kernel_rfl) (.tmp 3) (by with_reducible rfl) w.heap.size m (by rfl) P3.out ?_) | fail)
  refine CG.out.mono ?_
  rintro e w3 ⟨rfl, hb⟩
  replace B0 := hid (B0.out.trans (hb.out.mono B0.out.size))
  replace P3 := hid (P3.out.below hb.out P3.out.lt)
  replace P4 := hid (P4.out.below hb.out P4.out.lt)
  clear hb CG
  by_cases hg1 : PGr o
  · have CG := hid (great_yes (HK.out.on B0.out) hg1)
    clear hg1
    go_wp2_with (first | (refine wp_gmail (by kernel_rfl) (.tmp 4) (by with_reducible rfl) (w.heap.size + 1) o (by rfl) P4.out ?_) | fail)
    refine CG.out.mono ?_
    rintro e w4 ⟨rfl, hb⟩
    go_wp2
    go_ret
    exact ⟨rfl, B0.out.trans (hb.out.mono B0.out.size)⟩
  have CG := hid (great_no (HK.out.on B0.out) hg1)
  clear hg1
  go_wp2_with (first | (refine wp_gmail (by kernel_rfl) (.tmp 4) (by with_reducible rfl) (w.heap.size + 1) o (by rfl) P4.out ?_) | fail)
  refine CG.out.mono ?_
  rintro e w4 ⟨rfl, hb⟩
  replace B0 := hid (B0.out.trans (hb.out.mono B0.out.size))
  replace P3 := hid (P3.out.below hb.out P3.out.lt)
  replace P4 := hid (P4.out.below hb.out P4.out.lt)
  clear hb CG
  by_cases hn : 1000 < n
  · have hn1 : (1000 : Int) < (n : Int) := by omega
    go_wp2
    go_ret
    exact ⟨rfl, B0.out⟩
  have hn1 : ¬ (1000 : Int) < (n : Int) := by omega
  have Hn := hid hn
  clear hn
  go_upto_region 3 with fail
  clear hn1
  have hgr := HG.out
  have CW := hid (ptwin_any (H.out.on B0.out) HN.out.1 HN.out.2.2 (fun k hk => by have : ¬ MGr m.D := fun hh => hgr (.inl hh); by_cases hq : 42 < (m.D k).n; exact absurd ⟨k, hk, .inl hq⟩ this; omega) (by have : ¬ 70 < m.n := fun hh => hgr (.inr (.inl hh)); omega) (by have : ¬ 70 < m.k := fun hh => hgr (.inr (.inr hh)); omega))
  clear hgr
  go_wp2_with (first | (refine wp_gmail (by kernel_rfl) (.tmp 3) (by with_reducible rfl) w.heap.size m (by rfl) P3.out ?_) | fail)
  refine CW.out.mono ?_
  rintro e w5 ⟨m', rfl, hT, hb⟩
  have SL4 := hid (show w.heap.size ≤ w4.heap.size from B0.out.size)
  replace B0 := hid (B0.out.trans (hb.out.mono B0.out.size))
  replace P3 := hid (P3.out.below hb.out P3.out.lt)
  replace P4 := hid (P4.out.below hb.out P4.out.lt)
  clear hb CW
  have HE := hid (ow_empty w5)
  have KE := hid (show Below w5.heap.size w5 (w5.alloc (.cells #[] 5)) from (Below.refl _ w5).alloc (Nat.le_refl _) _)
  have HBe := hid ((HBs.out.below (B0.out.trans (KE.out.mono B0.out.size))).mono (show w.heap.size ≤ (w5.alloc (.cells #[] 5)).heap.size from (B0.out.trans (KE.out.mono B0.out.size)).size))
  go_upto_region 4 with (first
    | (at_builtin; refine app_bytes rfl (.tmp 34) (.tmp 35) rfl (w := w5.alloc (.cells #[] 5)) rfl rfl HE.out (by simp) HBe.out (by have := Hn.out; simp; omega) ?_; intro vt wt hOt hbt; obtain ⟨At, ct, et, -⟩ := hOt.out.shape; obtain ⟨nt, hnt⟩ : ∃ k, ([] ++ bs : List Nat).length = k := ⟨_, rfl⟩; rw [hnt] at et; subst et; replace hnt := hid hnt; have PZ := hid (show Pbox (wt.alloc (.cells (mdc (Mz 0)) 31)) wt.heap.size (Mz 0) from heap_alloc_new wt _))
    | (refine wp_row_k rfl 31 (.tmp 7) (.tmp 33) (by with_reducible rfl) wt.heap.size 31 (mdc (Mz 0)) (mdc m') (by rfl) (by rfl) PZ.out rfl (by kernel_rfl) (mdc_one _) ?_; intro Y3 Q7 h7; replace h7 := (show Wq wt.heap.size (wt.alloc (.cells (mdc (Mz 0)) 31)) Y3 from h7))
    | fail)
  have Kt := hid (show Below w5.heap.size w5 wt from KE.out.trans hbt.out)
  have K7 := hid (show Below wt.heap.size wt Y3 from h7.bel ((Below.refl _ wt).alloc (Nat.le_refl _) _) (Nat.le_refl _))
  have K5 := hid (show Below w5.heap.size w5 Y3 from Kt.out.trans (K7.out.mono Kt.out.size))
  have P7 := hid (show Pbox Y3 wt.heap.size m' from Q7)
  have HT := hid (show Tw w4.heap.size Y3 m m' l t from hT.out.hi (Hi.bel K5.out))
  have HTx := hid (show By Y3 Y3.heap.size At nt ct bs from ow_by hOt.out K7.out hnt.out)
  replace B0 := hid (B0.out.trans (K5.out.mono B0.out.size))
  replace P3 := hid (P3.out.below K5.out P3.out.lt)
  replace P4 := hid (P4.out.below K5.out P4.out.lt)
  clear Q7 h7 PZ hOt hbt KE HE HBe hT Kt K7 K5 HG SL4 hnt
  obtain ⟨g7, hg7⟩ : ∃ g, g = wt.heap.size := ⟨_, rfl⟩
  rw [← hg7] at P7
  replace hg7 := hid hg7
  have HB := hid (show Below Y3.heap.size Y3 Y3 from Below.refl _ _)
  have F7 := hid (fun X (hb : Below Y3.heap.size Y3 X) => ((HT.out.prd H.out.kd).below hb).mono hb.size)
  have F3 := hid (fun X (hb : Below Y3.heap.size Y3 X) => H.out.on (B0.out.trans (hb.mono B0.out.size)))
  have F4 := hid (fun X (hb : Below Y3.heap.size Y3 X) => HK.out.on (B0.out.trans (hb.mono B0.out.size)))
  have FT := hid (fun X (hb : Below Y3.heap.size Y3 X) => (HTx.out.below hb).mono hb.size)
  have FB := hid (fun X (hb : Below Y3.heap.size Y3 X) => (HBs.out.below (B0.out.trans (hb.mono B0.out.size))).mono (B0.out.trans (hb.mono B0.out.size)).size)
  have MAY := hid (HT.out.may H.out.ls.len.symm)
  have MLQ := hid HT.out.ml
  have C4 := mwrite_any (F7.out _ HB.out)
  rw [propext MAY.out, MLQ.out, HT.out.kd] at C4
  replace C4 := hid C4
  obtain ⟨XS, hXS⟩ : ∃ XS, XS = wX (PMay m l t) (frm m.kd (cont (mlOf m l t))) := ⟨_, rfl⟩
  obtain ⟨ER, hER⟩ : ∃ ER, ER = wE (PMay m l t) := ⟨_, rfl⟩
  rw [← hXS, ← hER] at C4
  go_wp2_with (first | (refine wp_gmail (by kernel_rfl) (.tmp 7) (by with_reducible rfl) (wt.heap.size) m' (by rfl) (hg7.out ▸ P7.out) ?_) | fail)
  refine C4.out.mono ?_
  rintro e Y4 ⟨vx, rfl, hOx, hb⟩
  replace HB := hid (HB.out.trans (hb.out.mono HB.out.size))
  obtain ⟨Ax, cx, ex, -⟩ := hOx.out.shape
  obtain ⟨nx, hnx⟩ : ∃ k, XS.length = k := ⟨_, rfl⟩
  rw [hnx] at ex
  subst ex
  have Ox := hid hOx.out
  clear hb C4 hOx
  have C5 := dwrite_any (F3.out _ HB.out)
  rw [← hXS, ← hER] at C5
  replace C5 := hid C5
  replace hXS := hid hXS
  replace hER := hid hER
  replace hnx := hid hnx
  have P3b := hid (P3.out.below HB.out P3.out.lt)
  go_wp2_with (first | (refine wp_gmail (by kernel_rfl) (.tmp 3) (by with_reducible rfl) (w.heap.size) m (by rfl) P3b.out ?_) | fail)
  refine C5.out.mono ?_
  rintro e Y5 ⟨vy, rfl, hOy, hb⟩
  replace HB := hid (HB.out.trans (hb.out.mono HB.out.size))
  replace Ox := hid (Ox.out.below hb.out (Nat.le_refl _))
  obtain ⟨Ay, cy, ey, -⟩ := hOy.out.shape
  rw [hnx.out] at ey
  subst ey
  have Oy := hid hOy.out
  clear hb C5 hOy P3b
  have C6 := hid (mread_any (FT.out _ HB.out))
  go_wp2_with fail
  refine C6.out.mono ?_
  rintro e Y6 ⟨mp, eg, rfl, hP, hSp, hb⟩
  have S5 := hid HB.out.size
  replace HB := hid (HB.out.trans (hb.out.mono HB.out.size))
  replace Ox := hid (Ox.out.below hb.out (Nat.le_refl _))
  replace Oy := hid (Oy.out.below hb.out (Nat.le_refl _))
  have SPp := hid (show Spw Y6 Y3.heap.size 73 2 mp.A mp.n mp.c ∧ Spw Y6 Y3.heap.size 75 1 mp.T mp.k mp.d ∧ Spw Y6 Y3.heap.size 75 1 (mp.D 0).A (mp.D 0).n (mp.D 0).c from ⟨hSp.out.1.mono S5.out, hSp.out.2.1.mono S5.out, hSp.out.2.2.1.mono S5.out⟩)
  have BPp := hid (show mp.n ≤ 100000 ∧ mp.k ≤ 100000 ∧ (mp.D 0).n ≤ 100000 from by obtain ⟨_, _, _, a1, a2, a3⟩ := hSp.out; omega)
  clear hb C6 hSp
  have PZ := hid (show Pbox (Y6.alloc (.cells (mdc (Mz 0)) 31)) Y6.heap.size (Mz 0) from heap_alloc_new Y6 _)
  go_upto_region 7 with (first | (refine wp_row_k rfl 31 (.tmp 13) (.tmp 50) (by with_reducible rfl) Y6.heap.size 31 (mdc (Mz 0)) (mdc mp) (by rfl) (by rfl) PZ.out rfl (by kernel_rfl) (mdc_one _) ?_; intro Z6 Qq hq; replace hq := (show Wq Y6.heap.size (Y6.alloc (.cells (mdc (Mz 0)) 31)) Z6 from hq)) | fail)
  have P13 := hid (show Pbox Z6 Y6.heap.size mp from Qq)
  have KQ := hid (show Below Y6.heap.size Y6 Z6 from hq.bel ((Below.refl _ Y6).alloc (Nat.le_refl _) _) (Nat.le_refl _))
  replace HB := hid (HB.out.trans (KQ.out.mono HB.out.size))
  clear PZ Qq hq
  replace Ox := hid (Ox.out.below KQ.out (Nat.le_refl _))
  replace Oy := hid (Oy.out.below KQ.out (Nat.le_refl _))
  replace SPp := hid (⟨SPp.out.1.sto (Sto.of_below (L := 0) KQ.out), SPp.out.2.1.sto (Sto.of_below (L := 0) KQ.out), SPp.out.2.2.sto (Sto.of_below (L := 0) KQ.out)⟩ : _ ∧ _ ∧ _)
  replace hP := hid (show ∃ l' t', (∀ Y, Below Z6.heap.size Z6 Y → Prd Y Y.heap.size mp l' t') ∧ (∀ k, k < 4 → 0 ≤ (mp.D k).x) ∧ ((eg = 0 ∧ RdOk bs (mlOf mp l' t')) ∨ (eg = rdE bs ∧ eg ≠ 0 ∧ mp = Mz 0 ∧ l' = [] ∧ t' = (fun _ => 0) ∧ ∀ M, ¬ RdOk bs M)) from by obtain ⟨l', t', a, b⟩ := hP.out; exact ⟨l', t', fun Y hY => a Y (KQ.out.trans (hY.mono KQ.out.size)), b⟩)
  clear KQ
  have C7 := hid (pread_any (FB.out _ HB.out) (by rw [HBL.out]; have := Hn.out; omega))
  go_wp2_with fail
  refine C7.out.mono ?_
  rintro e Y7 ⟨mq, eh, rfl, hQ1, hQ2, hb⟩
  replace HB := hid (HB.out.trans (hb.out.mono HB.out.size))
  replace P13 := hid (P13.out.below hb.out P13.out.lt)
  replace Ox := hid (Ox.out.below hb.out (Nat.le_refl _))
  replace Oy := hid (Oy.out.below hb.out (Nat.le_refl _))
  replace SPp := hid (⟨SPp.out.1.sto (Sto.of_below (L := 0) hb.out), SPp.out.2.1.sto (Sto.of_below (L := 0) hb.out), SPp.out.2.2.sto (Sto.of_below (L := 0) hb.out)⟩ : _ ∧ _ ∧ _)
  have PQ : Hid (eg = eh ∧ ∃ lp tp lq tq, (∀ Y, Below Y7.heap.size Y7 Y → Prd Y Y.heap.size mp lp tp ∧ Prd Y Y.heap.size mq lq tq) ∧ PSm mp mq lp lq tp tq) := hid (by
    obtain ⟨lp, tp, a1, a2, a3⟩ := hP.out
    have a1' : ∀ Y, Below Y7.heap.size Y7 Y → Prd Y Y.heap.size mp lp tp := fun Y hY => a1 Y (hb.out.trans (hY.mono hb.out.size))
    rcases a3 with ⟨e0, hR⟩ | ⟨e0, e1, rfl, rfl, rfl, hR⟩
    · by_cases hz : eh = 0
      · obtain ⟨lq, tq, b1, b2, b3⟩ := hQ1.out hz
        have b1' : ∀ Y, Below Y7.heap.size Y7 Y → Prd Y Y.heap.size mq lq tq := fun Y hY => b1 Y (Hi.bel hY)
        exact ⟨e0.trans hz.symm, lp, tp, lq, tq, fun Y hY => ⟨a1' Y hY, b1' Y hY⟩, (psm_prd (a1' _ (Below.refl _ _)) (b1' _ (Below.refl _ _)) a2 b2).2 (rdok_uniq hR b3)⟩
      · exact absurd hR ((hQ2.out hz).2.2 _)
    · by_cases hz : eh = 0
      · obtain ⟨lq, tq, b1, b2, b3⟩ := hQ1.out hz
        exact absurd b3 (hR _)
      · obtain ⟨c1, c2, c3⟩ := hQ2.out hz
        subst c1
        exact ⟨e0.trans c2.symm, [], fun _ => 0, [], fun _ => 0, fun Y hY => ⟨a1' Y hY, a1' Y hY⟩, psm_self _ _ _⟩)
  clear hb C7 hP hQ1 hQ2
  have PZ := hid (show Pbox (Y7.alloc (.cells (mdc (Mz 0)) 31)) Y7.heap.size (Mz 0) from heap_alloc_new Y7 _)
  go_upto_region 8 with (first | (refine wp_row_k rfl 31 (.tmp 15) (.tmp 55) (by with_reducible rfl) Y7.heap.size 31 (mdc (Mz 0)) (mdc mq) (by rfl) (by rfl) PZ.out rfl (by kernel_rfl) (mdc_one _) ?_; intro Z7 Qq hq; replace hq := (show Wq Y7.heap.size (Y7.alloc (.cells (mdc (Mz 0)) 31)) Z7 from hq)) | fail)
  have P15 := hid (show Pbox Z7 Y7.heap.size mq from Qq)
  have KQ := hid (show Below Y7.heap.size Y7 Z7 from hq.bel ((Below.refl _ Y7).alloc (Nat.le_refl _) _) (Nat.le_refl _))
  replace HB := hid (HB.out.trans (KQ.out.mono HB.out.size))
  clear PZ Qq hq
  replace Ox := hid (Ox.out.below KQ.out (Nat.le_refl _))
  replace Oy := hid (Oy.out.below KQ.out (Nat.le_refl _))
  replace P13 := hid (P13.out.below KQ.out P13.out.lt)
  replace SPp := hid (⟨SPp.out.1.sto (Sto.of_below (L := 0) KQ.out), SPp.out.2.1.sto (Sto.of_below (L := 0) KQ.out), SPp.out.2.2.sto (Sto.of_below (L := 0) KQ.out)⟩ : _ ∧ _ ∧ _)
  obtain ⟨rfl, lp, tp, lq, tq, hPQ, hSM⟩ := PQ.out
  have FPQ := hid (fun Y (hY : Below Z7.heap.size Z7 Y) => hPQ Y (KQ.out.trans (hY.mono KQ.out.size)))
  have HSM := hid hSM
  clear KQ PQ hPQ hSM
  have hgr := HT.out
  have CT := hid (mtwinm_any (F7.out _ HB.out) (fun k hk => by have q := HT.out.D k hk; rcases q.lim.own with ⟨_, a, b⟩ | ⟨g, cs, e, _⟩; exact fun _ => ⟨a, b⟩; exact fun e2 => by rw [e] at e2; cases e2) (fun e2 => by rcases HT.out.tg.own with ⟨_, a, b⟩ | ⟨g, cs, e, _⟩; exact ⟨a, b⟩; rw [e] at e2; cases e2) (fun k hk => by rw [(HT.out.D k hk).n]; have : ¬ MGr m.D := HGR.out.1; by_cases hq : 42 < (m.D k).n; exact absurd ⟨k, hk, .inl hq⟩ this; omega) (by rw [HT.out.n, H.out.ls.len]; exact HGR.out.2.1) (by rw [HT.out.k]; exact HGR.out.2.2))
  clear hgr
  have P7b := hid (P7.out.below HB.out P7.out.lt)
  go_wp2_with (first | (refine wp_gmail (by kernel_rfl) (.tmp 7) (by with_reducible rfl) (wt.heap.size) m' (by rfl) (hg7.out ▸ P7b.out) ?_) | fail)
  refine CT.out.mono ?_
  rintro e Y8 ⟨mt, rfl, hTt, hb⟩
  have S7 := hid HB.out.size
  replace HB := hid (HB.out.trans (hb.out.mono HB.out.size))
  replace P13 := hid (P13.out.below hb.out P13.out.lt)
  replace P15 := hid (P15.out.below hb.out P15.out.lt)
  replace Ox := hid (Ox.out.below hb.out (Nat.le_refl _))
  replace Oy := hid (Oy.out.below hb.out (Nat.le_refl _))
  replace SPp := hid (⟨SPp.out.1.sto (Sto.of_below (L := 0) hb.out), SPp.out.2.1.sto (Sto.of_below (L := 0) hb.out), SPp.out.2.2.sto (Sto.of_below (L := 0) hb.out)⟩ : _ ∧ _ ∧ _)
  replace FPQ := hid (fun Y (hY : Below Y8.heap.size Y8 Y) => FPQ.out Y (hb.out.trans (hY.mono hb.out.size)))
  clear hb CT P7b
  have PZ := hid (show Pbox (Y8.alloc (.cells (mdc (Mz 0)) 31)) Y8.heap.size (Mz 0) from heap_alloc_new Y8 _)
  go_upto_region 9 with (first | (refine wp_row_k rfl 31 (.tmp 17) (.tmp 58) (by with_reducible rfl) Y8.heap.size 31 (mdc (Mz 0)) (mdc mt) (by rfl) (by rfl) PZ.out rfl (by kernel_rfl) (mdc_one _) ?_; intro Z8 Qq hq; replace hq := (show Wq Y8.heap.size (Y8.alloc (.cells (mdc (Mz 0)) 31)) Z8 from hq)) | fail)
  have P17 := hid (show Pbox Z8 Y8.heap.size mt from Qq)
  have KQ := hid (show Below Y8.heap.size Y8 Z8 from hq.bel ((Below.refl _ Y8).alloc (Nat.le_refl _) _) (Nat.le_refl _))
  replace HB := hid (HB.out.trans (KQ.out.mono HB.out.size))
  clear PZ Qq hq
  replace Ox := hid (Ox.out.below KQ.out (Nat.le_refl _))
  replace Oy := hid (Oy.out.below KQ.out (Nat.le_refl _))
  replace P13 := hid (P13.out.below KQ.out P13.out.lt)
  replace P15 := hid (P15.out.below KQ.out P15.out.lt)
  replace SPp := hid (⟨SPp.out.1.sto (Sto.of_below (L := 0) KQ.out), SPp.out.2.1.sto (Sto.of_below (L := 0) KQ.out), SPp.out.2.2.sto (Sto.of_below (L := 0) KQ.out)⟩ : _ ∧ _ ∧ _)
  replace FPQ := hid (fun Y (hY : Below Z8.heap.size Z8 Y) => FPQ.out Y (KQ.out.trans (hY.mono KQ.out.size)))
  have HTt := hid (show Tw Z7.heap.size Z8 m' mt l t from hTt.out.hi (Hi.bel KQ.out))
  clear KQ hTt
  have BX : Hid (Below Z8.heap.size Z8 Z8.drew) := hid (Below.refl Z8.heap.size Z8).drew
  have Yx := hid (show By Z8 Z8.heap.size Ax nx cx XS from ow_by' Ox.out hnx.out)
  have Yy := hid (show By Z8 Z8.heap.size Ay nx cy XS from ow_by' Oy.out hnx.out)
  have CF : Hid (∀ Y, Below Z8.heap.size Z8 Y → (fun X => Pbox X g7 m' ∧ Pbox X w.heap.size m ∧ Pbox X (w.heap.size + 1) o ∧ Pbox X Y6.heap.size mp ∧ Pbox X Y7.heap.size mq ∧ Pbox X Y8.heap.size mt ∧ (∃ B, By X B Ax nx cx XS) ∧ ∃ B, By X B Ay nx cy XS) Y) := hid fun Y hb => ⟨(P7.out.below HB.out P7.out.lt).below hb (Nat.lt_of_lt_of_le P7.out.lt HB.out.size), (P3.out.below HB.out P3.out.lt).below hb (Nat.lt_of_lt_of_le P3.out.lt HB.out.size), (P4.out.below HB.out P4.out.lt).below hb (Nat.lt_of_lt_of_le P4.out.lt HB.out.size), P13.out.below hb P13.out.lt, P15.out.below hb P15.out.lt, P17.out.below hb P17.out.lt, ⟨_, Yx.out.below hb⟩, ⟨_, Yy.out.below hb⟩⟩
  have HBx := hid (fun Y (hb : Below Z8.heap.size Z8 Y) => HB.out.trans (hb.mono HB.out.size))
  rw [← hg7.out]
  refine wp_region_held_drew (S := (fun X => Pbox X g7 m' ∧ Pbox X w.heap.size m ∧ Pbox X (w.heap.size + 1) o ∧ Pbox X Y6.heap.size mp ∧ Pbox X Y7.heap.size mq ∧ Pbox X Y8.heap.size mt ∧ (∃ B, By X B Ax nx cx XS) ∧ ∃ B, By X B Ay nx cy XS)) (by kernel_rfl) (CF.out _ BX.out) (fun hHeld => ?_)
  have CK1 := mcheck_all (F7.out _ (HBx.out _ BX.out))
  rw [propext MAY.out, ← hER.out] at CK1
  replace CK1 := hid CK1
  refine wpAnyH_take (i := 0) rfl (by kernel_rfl) (by kernel_rfl) (by kernel_rfl) (fun _ _ _ h => h) (yields_pl (by rfl) (.tmp 7) rfl (g7) m' rfl (fun X hX => hX.1)) hHeld ?_
  (try simp only [Act.put, List.setIfInBounds_toArray, List.set_cons_zero, List.set_cons_succ, List.getElem_toArray, List.getElem_cons_zero])
  refine wpAnyH_take (i := 2) rfl (by kernel_rfl) (by kernel_rfl) (by kernel_rfl) (fun _ _ _ h => h) (yields_pl (by rfl) (.tmp 3) rfl (w.heap.size) m rfl (fun X hX => hX.2.1)) hHeld ?_
  (try simp only [Act.put, List.setIfInBounds_toArray, List.set_cons_zero, List.set_cons_succ, List.getElem_toArray, List.getElem_cons_succ, List.getElem_cons_zero])
  refine wpAnyH_ready (rs := [1]) (by kernel_rfl) (by simp) ?_
  refine AllReadyH.cons rfl (fun K' hK => ?_) AllReadyH.nil
  (try simp only [Act.put, List.setIfInBounds_toArray, List.set_cons_zero, List.set_cons_succ, List.getElem_toArray, List.getElem_cons_succ, List.getElem_cons_zero])
  go_simp
  refine CK1.out.mono ?_
  rintro e y1 ⟨rfl, hb⟩
  replace BX := hid (BX.out.trans (hb.out.mono BX.out.size))
  clear hb CK1
  try dsimp only
  refine hK.out _ _ (CF.out _ BX.out) (fun hHeld => ?_)
  clear hK K'
  (try simp only [Act.put, List.setIfInBounds_toArray, List.set_cons_zero, List.set_cons_succ, List.getElem_toArray, List.getElem_cons_succ, List.getElem_cons_zero])
  have CK2 := dcheck_all (F3.out _ (HBx.out _ BX.out))
  rw [← hER.out] at CK2
  replace CK2 := hid CK2
  refine wpAnyH_ready (rs := [3]) (by kernel_rfl) (by simp) ?_
  refine AllReadyH.cons rfl (fun K' hK => ?_) AllReadyH.nil
  (try simp only [Act.put, List.setIfInBounds_toArray, List.set_cons_zero, List.set_cons_succ, List.getElem_toArray, List.getElem_cons_succ, List.getElem_cons_zero])
  go_simp
  refine CK2.out.mono ?_
  rintro e y2 ⟨rfl, hb⟩
  replace BX := hid (BX.out.trans (hb.out.mono BX.out.size))
  clear hb CK2
  try dsimp only
  refine hK.out _ _ (CF.out _ BX.out) (fun hHeld => ?_)
  clear hK K'
  (try simp only [Act.put, List.setIfInBounds_toArray, List.set_cons_zero, List.set_cons_succ, List.getElem_toArray, List.getElem_cons_succ, List.getElem_cons_zero])
  refine tkH (i := 4) (.bool true) rfl (by kernel_rfl) (fun _ _ _ h => h) (by rfl) (fun _ _ => by go_simp) hHeld ?_
  (try simp only [Act.put, List.setIfInBounds_toArray, List.set_cons_zero, List.set_cons_succ, List.getElem_toArray, List.getElem_cons_succ, List.getElem_cons_zero])
  refine tkH (i := 5) (.bool true) rfl (by kernel_rfl) (fun _ _ _ h => h) (by rfl) (fun _ _ => by go_simp) hHeld ?_
  (try simp only [Act.put, List.setIfInBounds_toArray, List.set_cons_zero, List.set_cons_succ, List.getElem_toArray, List.getElem_cons_succ, List.getElem_cons_zero])
  refine tkH (i := 6) (.slice Ax nx cx) rfl (by kernel_rfl) (fun _ _ _ h => h) (by rfl) (fun _ _ => by go_simp) hHeld ?_
  (try simp only [Act.put, List.setIfInBounds_toArray, List.set_cons_zero, List.set_cons_succ, List.getElem_toArray, List.getElem_cons_succ, List.getElem_cons_zero])
  refine wpAnyH_take (i := 7) rfl (by kernel_rfl) (by kernel_rfl) (by kernel_rfl) (fun _ _ _ h => h) (yields_conv (by rfl) (.tmp 65) rfl rfl (fun X hX => hX.2.2.2.2.2.2.1)) hHeld ?_
  (try simp only [Act.put, List.setIfInBounds_toArray, List.set_cons_zero, List.set_cons_succ, List.getElem_toArray, List.getElem_cons_succ, List.getElem_cons_zero])
  refine tkH (i := 8) (.slice Ay nx cy) rfl (by kernel_rfl) (fun _ _ _ h => h) (by rfl) (fun _ _ => by go_simp) hHeld ?_
  (try simp only [Act.put, List.setIfInBounds_toArray, List.set_cons_zero, List.set_cons_succ, List.getElem_toArray, List.getElem_cons_succ, List.getElem_cons_zero])
  refine wpAnyH_take (i := 9) rfl (by kernel_rfl) (by kernel_rfl) (by kernel_rfl) (fun _ _ _ h => h) (yields_conv (by rfl) (.tmp 67) rfl rfl (fun X hX => hX.2.2.2.2.2.2.2)) hHeld ?_
  (try simp only [Act.put, List.setIfInBounds_toArray, List.set_cons_zero, List.set_cons_succ, List.getElem_toArray, List.getElem_cons_succ, List.getElem_cons_zero])
  have hsx : ((str XS).toList == (str XS).toList) = true := by simp
  refine tkH (i := 10) (.bool true) rfl (by kernel_rfl) (fun _ _ _ h => h) (by rfl) (fun _ _ => by go_simp) hHeld ?_
  (try simp only [Act.put, List.setIfInBounds_toArray, List.set_cons_zero, List.set_cons_succ, List.getElem_toArray, List.getElem_cons_succ, List.getElem_cons_zero])
  refine tkH (i := 11) (.bool true) rfl (by kernel_rfl) (fun _ _ _ h => h) (by rfl) (fun _ _ => by go_simp) hHeld ?_
  (try simp only [Act.put, List.setIfInBounds_toArray, List.set_cons_zero, List.set_cons_succ, List.getElem_toArray, List.getElem_cons_succ, List.getElem_cons_zero])
  refine tkH (i := 12) (.bool true) rfl (by kernel_rfl) (fun _ _ _ h => h) (by rfl) (fun _ _ => by go_simp) hHeld ?_
  (try simp only [Act.put, List.setIfInBounds_toArray, List.set_cons_zero, List.set_cons_succ, List.getElem_toArray, List.getElem_cons_succ, List.getElem_cons_zero])
  refine tkH (i := 13) (.int .i64 ER) rfl (by kernel_rfl) (fun _ _ _ h => h) (by rfl) (fun _ _ => by go_simp) hHeld ?_
  (try simp only [Act.put, List.setIfInBounds_toArray, List.set_cons_zero, List.set_cons_succ, List.getElem_toArray, List.getElem_cons_succ, List.getElem_cons_zero])
  refine tkH (i := 14) (.int .i64 ER) rfl (by kernel_rfl) (fun _ _ _ h => h) (by rfl) (fun _ _ => by go_simp) hHeld ?_
  (try simp only [Act.put, List.setIfInBounds_toArray, List.set_cons_zero, List.set_cons_succ, List.getElem_toArray, List.getElem_cons_succ, List.getElem_cons_zero])
  refine tkH (i := 15) (.bool true) rfl (by kernel_rfl) (fun _ _ _ h => h) (by rfl) (fun _ _ => by go_simp) hHeld ?_
  (try simp only [Act.put, List.setIfInBounds_toArray, List.set_cons_zero, List.set_cons_succ, List.getElem_toArray, List.getElem_cons_succ, List.getElem_cons_zero])
  refine tkH (i := 16) (.bool true) rfl (by kernel_rfl) (fun _ _ _ h => h) (by rfl) (fun _ _ => by go_simp) hHeld ?_
  (try simp only [Act.put, List.setIfInBounds_toArray, List.set_cons_zero, List.set_cons_succ, List.getElem_toArray, List.getElem_cons_succ, List.getElem_cons_zero])
  refine tkH (i := 17) (.bool true) rfl (by kernel_rfl) (fun _ _ _ h => h) (by rfl) (fun _ _ => by go_simp) hHeld ?_
  (try simp only [Act.put, List.setIfInBounds_toArray, List.set_cons_zero, List.set_cons_succ, List.getElem_toArray, List.getElem_cons_succ, List.getElem_cons_zero])
  clear hsx
  refine wpAnyH_take (i := 18) rfl (by kernel_rfl) (by kernel_rfl) (by kernel_rfl) (fun _ _ _ h => h) (yields_pl (by rfl) (.tmp 13) rfl (Y6.heap.size) mp rfl (fun X hX => hX.2.2.2.1)) hHeld ?_
  (try simp only [Act.put, List.setIfInBounds_toArray, List.set_cons_zero, List.set_cons_succ, List.getElem_toArray, List.getElem_cons_succ, List.getElem_cons_zero])
  refine wpAnyH_take (i := 19) rfl (by kernel_rfl) (by kernel_rfl) (by kernel_rfl) (fun _ _ _ h => h) (yields_pl (by rfl) (.tmp 15) rfl (Y7.heap.size) mq rfl (fun X hX => hX.2.2.2.2.1)) hHeld ?_
  (try simp only [Act.put, List.setIfInBounds_toArray, List.set_cons_zero, List.set_cons_succ, List.getElem_toArray, List.getElem_cons_succ, List.getElem_cons_zero])
  have CS := hid (fun Y (hb : Below Z8.heap.size Z8 Y) => psame_any (P := PSm mp mq lp lq tp tq) (FPQ.out Y hb).1 (FPQ.out Y hb).2 (hid Iff.rfl))
  refine wpAnyH_ready (rs := [20]) (by kernel_rfl) (by simp) ?_
  refine AllReadyH.cons rfl (fun K' hK => ?_) AllReadyH.nil
  (try simp only [Act.put, List.setIfInBounds_toArray, List.set_cons_zero, List.set_cons_succ, List.getElem_toArray, List.getElem_cons_succ, List.getElem_cons_zero])
  go_simp
  refine (CS.out _ BX.out).mono ?_
  rintro e y3 ⟨q, rfl, hr, hb⟩
  replace BX := hid (BX.out.trans (hb.out.mono BX.out.size))
  obtain rfl : q = true := hr.out.2 HSM.out
  clear hb hr CS
  try dsimp only
  refine hK.out _ _ (CF.out _ BX.out) (fun hHeld => ?_)
  clear hK K'
  (try simp only [Act.put, List.setIfInBounds_toArray, List.set_cons_zero, List.set_cons_succ, List.getElem_toArray, List.getElem_cons_succ, List.getElem_cons_zero])
  refine tkH (i := 21) (.bool true) rfl (by kernel_rfl) (fun _ _ _ h => h) (by rfl) (fun _ _ => by go_simp) hHeld ?_
  (try simp only [Act.put, List.setIfInBounds_toArray, List.set_cons_zero, List.set_cons_succ, List.getElem_toArray, List.getElem_cons_succ, List.getElem_cons_zero])
  refine tkH (i := 22) (.bool true) rfl (by kernel_rfl) (fun _ _ _ h => h) (by rfl) (fun _ _ => by go_simp) hHeld ?_
  (try simp only [Act.put, List.setIfInBounds_toArray, List.set_cons_zero, List.set_cons_succ, List.getElem_toArray, List.getElem_cons_succ, List.getElem_cons_zero])
  refine tkH (i := 23) (.int .i64 eg) rfl (by kernel_rfl) (fun _ _ _ h => h) (by rfl) (fun _ _ => by go_simp) hHeld ?_
  (try simp only [Act.put, List.setIfInBounds_toArray, List.set_cons_zero, List.set_cons_succ, List.getElem_toArray, List.getElem_cons_succ, List.getElem_cons_zero])
  refine tkH (i := 24) (.int .i64 eg) rfl (by kernel_rfl) (fun _ _ _ h => h) (by rfl) (fun _ _ => by go_simp) hHeld ?_
  (try simp only [Act.put, List.setIfInBounds_toArray, List.set_cons_zero, List.set_cons_succ, List.getElem_toArray, List.getElem_cons_succ, List.getElem_cons_zero])
  refine tkH (i := 25) (.bool true) rfl (by kernel_rfl) (fun _ _ _ h => h) (by rfl) (fun _ _ => by go_simp) hHeld ?_
  (try simp only [Act.put, List.setIfInBounds_toArray, List.set_cons_zero, List.set_cons_succ, List.getElem_toArray, List.getElem_cons_succ, List.getElem_cons_zero])
  refine tkH (i := 26) (.bool true) rfl (by kernel_rfl) (fun _ _ _ h => h) (by rfl) (fun _ _ => by go_simp) hHeld ?_
  (try simp only [Act.put, List.setIfInBounds_toArray, List.set_cons_zero, List.set_cons_succ, List.getElem_toArray, List.getElem_cons_succ, List.getElem_cons_zero])
  refine tkH (i := 27) (.bool true) rfl (by kernel_rfl) (fun _ _ _ h => h) (by rfl) (fun _ _ => by go_simp) hHeld ?_
  (try simp only [Act.put, List.setIfInBounds_toArray, List.set_cons_zero, List.set_cons_succ, List.getElem_toArray, List.getElem_cons_succ, List.getElem_cons_zero])
  refine wpAnyH_done (by kernel_rfl) ?_ _
  go_upto_region 10 with fail
  clear CF Yx Yy hHeld
  replace P13 := hid (P13.out.below BX.out P13.out.lt)
  replace P17 := hid (P17.out.below BX.out P17.out.lt)
  replace Ox := hid (Ox.out.below BX.out (Nat.le_refl _))
  replace SPp := hid (⟨SPp.out.1.sto (Sto.of_below (L := 0) BX.out), SPp.out.2.1.sto (Sto.of_below (L := 0) BX.out), SPp.out.2.2.sto (Sto.of_below (L := 0) BX.out)⟩ : _ ∧ _ ∧ _)
  replace HTt := hid (HTt.out.hi (Hi.bel BX.out))
  replace HB := hid (HBx.out _ BX.out)
  clear BX HBx FPQ HSM P15 Oy
  have BX : Hid (Below y3.heap.size y3 y3.drew) := hid (Below.refl y3.heap.size y3).drew
  have CF : Hid (∀ Y, Below y3.heap.size y3 Y → (fun X => Pbox X g7 m' ∧ Pbox X w.heap.size m ∧ Pbox X (w.heap.size + 1) o ∧ Pbox X Y8.heap.size mt) Y) := hid fun Y hb => ⟨(P7.out.below HB.out P7.out.lt).below hb (Nat.lt_of_lt_of_le P7.out.lt HB.out.size), (P3.out.below HB.out P3.out.lt).below hb (Nat.lt_of_lt_of_le P3.out.lt HB.out.size), (P4.out.below HB.out P4.out.lt).below hb (Nat.lt_of_lt_of_le P4.out.lt HB.out.size), P17.out.below hb P17.out.lt⟩
  have HBx := hid (fun Y (hb : Below y3.heap.size y3 Y) => HB.out.trans (hb.mono HB.out.size))
  have FT8 := hid (fun Y (hb : Below y3.heap.size y3 Y) => (((HTt.out.prd (by rw [HT.out.kd]; exact H.out.kd)).below hb).mono hb.size))
  refine wp_region_held_drew (S := (fun X => Pbox X g7 m' ∧ Pbox X w.heap.size m ∧ Pbox X (w.heap.size + 1) o ∧ Pbox X Y8.heap.size mt)) (by kernel_rfl) (CF.out _ BX.out) (fun hHeld => ?_)
  refine wpAnyH_take (i := 0) rfl (by kernel_rfl) (by kernel_rfl) (by kernel_rfl) (fun _ _ _ h => h) (yields_pl (by rfl) (.tmp 17) rfl (Y8.heap.size) mt rfl (fun X hX => hX.2.2.2)) hHeld ?_
  (try simp only [Act.put, List.setIfInBounds_toArray, List.set_cons_zero, List.set_cons_succ, List.getElem_toArray, List.getElem_cons_zero])
  refine wpAnyH_take (i := 1) rfl (by kernel_rfl) (by kernel_rfl) (by kernel_rfl) (fun _ _ _ h => h) (yields_pl (by rfl) (.tmp 3) rfl (w.heap.size) m rfl (fun X hX => hX.2.1)) hHeld ?_
  (try simp only [Act.put, List.setIfInBounds_toArray, List.set_cons_zero, List.set_cons_succ, List.getElem_toArray, List.getElem_cons_succ, List.getElem_cons_zero])
  have CS := hid (psame_any (P := True) (FT8.out _ BX.out) (F3.out _ (HBx.out _ BX.out)) (hid ⟨fun _ => (HTt.out.sm).2 ((HT.out.sm).2 (psm_self m l t)), fun _ => trivial⟩))
  refine wpAnyH_ready (rs := [2]) (by kernel_rfl) (by simp) ?_
  refine AllReadyH.cons rfl (fun K' hK => ?_) AllReadyH.nil
  (try simp only [Act.put, List.setIfInBounds_toArray, List.set_cons_zero, List.set_cons_succ, List.getElem_toArray, List.getElem_cons_succ, List.getElem_cons_zero])
  go_simp
  refine CS.out.mono ?_
  rintro e z1 ⟨q, rfl, hr, hb⟩
  replace BX := hid (BX.out.trans (hb.out.mono BX.out.size))
  obtain rfl : q = true := hr.out.2 trivial
  clear hb hr CS
  try dsimp only
  refine hK.out _ _ (CF.out _ BX.out) (fun hHeld => ?_)
  clear hK K'
  (try simp only [Act.put, List.setIfInBounds_toArray, List.set_cons_zero, List.set_cons_succ, List.getElem_toArray, List.getElem_cons_succ, List.getElem_cons_zero])
  refine tkH (i := 3) (.bool true) rfl (by kernel_rfl) (fun _ _ _ h => h) (by rfl) (fun _ _ => by go_simp) hHeld ?_
  (try simp only [Act.put, List.setIfInBounds_toArray, List.set_cons_zero, List.set_cons_succ, List.getElem_toArray, List.getElem_cons_succ, List.getElem_cons_zero])
  refine wpAnyH_take (i := 4) rfl (by kernel_rfl) (by kernel_rfl) (by kernel_rfl) (fun _ _ _ h => h) (yields_pl (by rfl) (.tmp 7) rfl (g7) m' rfl (fun X hX => hX.1)) hHeld ?_
  (try simp only [Act.put, List.setIfInBounds_toArray, List.set_cons_zero, List.set_cons_succ, List.getElem_toArray, List.getElem_cons_succ, List.getElem_cons_zero])
  refine wpAnyH_take (i := 5) rfl (by kernel_rfl) (by kernel_rfl) (by kernel_rfl) (fun _ _ _ h => h) (yields_pl (by rfl) (.tmp 4) rfl (w.heap.size + 1) o rfl (fun X hX => hX.2.2.1)) hHeld ?_
  (try simp only [Act.put, List.setIfInBounds_toArray, List.set_cons_zero, List.set_cons_succ, List.getElem_toArray, List.getElem_cons_succ, List.getElem_cons_zero])
  refine wpAnyH_take (i := 7) rfl (by kernel_rfl) (by kernel_rfl) (by kernel_rfl) (fun _ _ _ h => h) (yields_pl (by rfl) (.tmp 3) rfl (w.heap.size) m rfl (fun X hX => hX.2.1)) hHeld ?_
  (try simp only [Act.put, List.setIfInBounds_toArray, List.set_cons_zero, List.set_cons_succ, List.getElem_toArray, List.getElem_cons_succ, List.getElem_cons_zero])
  refine wpAnyH_take (i := 8) rfl (by kernel_rfl) (by kernel_rfl) (by kernel_rfl) (fun _ _ _ h => h) (yields_pl (by rfl) (.tmp 4) rfl (w.heap.size + 1) o rfl (fun X hX => hX.2.2.1)) hHeld ?_
  (try simp only [Act.put, List.setIfInBounds_toArray, List.set_cons_zero, List.set_cons_succ, List.getElem_toArray, List.getElem_cons_succ, List.getElem_cons_zero])
  have CS := hid (wsame_any (P := PSm m o l r t u) (F7.out _ (HBx.out _ BX.out)) (F4.out _ (HBx.out _ BX.out)) (hid (HT.out.sm).symm))
  refine wpAnyH_ready (rs := [6]) (by kernel_rfl) (by simp) ?_
  refine AllReadyH.cons rfl (fun K' hK => ?_) AllReadyH.nil
  (try simp only [Act.put, List.setIfInBounds_toArray, List.set_cons_zero, List.set_cons_succ, List.getElem_toArray, List.getElem_cons_succ, List.getElem_cons_zero])
  go_simp
  refine CS.out.mono ?_
  rintro e z2 ⟨q1, rfl, hr1, hb⟩
  replace BX := hid (BX.out.trans (hb.out.mono BX.out.size))
  clear hb CS
  try dsimp only
  refine hK.out _ _ (CF.out _ BX.out) (fun hHeld => ?_)
  clear hK K'
  (try simp only [Act.put, List.setIfInBounds_toArray, List.set_cons_zero, List.set_cons_succ, List.getElem_toArray, List.getElem_cons_succ, List.getElem_cons_zero])
  have CS := hid (psame_any (P := PSm m o l r t u) (F3.out _ (HBx.out _ BX.out)) (F4.out _ (HBx.out _ BX.out)) (hid Iff.rfl))
  refine wpAnyH_ready (rs := [9]) (by kernel_rfl) (by simp) ?_
  refine AllReadyH.cons rfl (fun K' hK => ?_) AllReadyH.nil
  (try simp only [Act.put, List.setIfInBounds_toArray, List.set_cons_zero, List.set_cons_succ, List.getElem_toArray, List.getElem_cons_succ, List.getElem_cons_zero])
  go_simp
  refine CS.out.mono ?_
  rintro e z3 ⟨q2, rfl, hr2, hb⟩
  replace BX := hid (BX.out.trans (hb.out.mono BX.out.size))
  obtain rfl : q1 = q2 := by cases q1 <;> cases q2; rfl; exact absurd (hr1.out.2 (hr2.out.1 rfl)) (by decide); exact absurd (hr2.out.2 (hr1.out.1 rfl)) (by decide); rfl
  clear hb hr1 hr2 CS
  try dsimp only
  refine hK.out _ _ (CF.out _ BX.out) (fun hHeld => ?_)
  clear hK K'
  (try simp only [Act.put, List.setIfInBounds_toArray, List.set_cons_zero, List.set_cons_succ, List.getElem_toArray, List.getElem_cons_succ, List.getElem_cons_zero])
  have hqq : (q1 == q1) = true := by simp
  refine tkH (i := 10) (.bool true) rfl (by kernel_rfl) (fun _ _ _ h => h) (by rfl) (fun _ _ => by go_simp) hHeld ?_
  (try simp only [Act.put, List.setIfInBounds_toArray, List.set_cons_zero, List.set_cons_succ, List.getElem_toArray, List.getElem_cons_succ, List.getElem_cons_zero])
  refine tkH (i := 11) (.bool true) rfl (by kernel_rfl) (fun _ _ _ h => h) (by rfl) (fun _ _ => by go_simp) hHeld ?_
  (try simp only [Act.put, List.setIfInBounds_toArray, List.set_cons_zero, List.set_cons_succ, List.getElem_toArray, List.getElem_cons_succ, List.getElem_cons_zero])
  refine tkH (i := 12) (.bool true) rfl (by kernel_rfl) (fun _ _ _ h => h) (by rfl) (fun _ _ => by go_simp) hHeld ?_
  (try simp only [Act.put, List.setIfInBounds_toArray, List.set_cons_zero, List.set_cons_succ, List.getElem_toArray, List.getElem_cons_succ, List.getElem_cons_zero])
  clear hqq
  refine wpAnyH_take (i := 13) rfl (by kernel_rfl) (by kernel_rfl) (by kernel_rfl) (fun _ _ _ h => h) (yields_pl (by rfl) (.tmp 7) rfl (g7) m' rfl (fun X hX => hX.1)) hHeld ?_
  (try simp only [Act.put, List.setIfInBounds_toArray, List.set_cons_zero, List.set_cons_succ, List.getElem_toArray, List.getElem_cons_succ, List.getElem_cons_zero])
  refine wpAnyH_take (i := 14) rfl (by kernel_rfl) (by kernel_rfl) (by kernel_rfl) (fun _ _ _ h => h) (yields_pl (by rfl) (.tmp 3) rfl (w.heap.size) m rfl (fun X hX => hX.2.1)) hHeld ?_
  (try simp only [Act.put, List.setIfInBounds_toArray, List.set_cons_zero, List.set_cons_succ, List.getElem_toArray, List.getElem_cons_succ, List.getElem_cons_zero])
  have CS := hid (wsame_any (P := True) (F7.out _ (HBx.out _ BX.out)) (F3.out _ (HBx.out _ BX.out)) (hid ⟨fun _ => (HT.out.sm).2 (psm_self m l t), fun _ => trivial⟩))
  refine wpAnyH_ready (rs := [15]) (by kernel_rfl) (by simp) ?_
  refine AllReadyH.cons rfl (fun K' hK => ?_) AllReadyH.nil
  (try simp only [Act.put, List.setIfInBounds_toArray, List.set_cons_zero, List.set_cons_succ, List.getElem_toArray, List.getElem_cons_succ, List.getElem_cons_zero])
  go_simp
  refine CS.out.mono ?_
  rintro e z4 ⟨q, rfl, hr, hb⟩
  replace BX := hid (BX.out.trans (hb.out.mono BX.out.size))
  obtain rfl : q = true := hr.out.2 trivial
  clear hb hr CS
  try dsimp only
  refine hK.out _ _ (CF.out _ BX.out) (fun hHeld => ?_)
  clear hK K'
  (try simp only [Act.put, List.setIfInBounds_toArray, List.set_cons_zero, List.set_cons_succ, List.getElem_toArray, List.getElem_cons_succ, List.getElem_cons_zero])
  refine tkH (i := 16) (.bool true) rfl (by kernel_rfl) (fun _ _ _ h => h) (by rfl) (fun _ _ => by go_simp) hHeld ?_
  (try simp only [Act.put, List.setIfInBounds_toArray, List.set_cons_zero, List.set_cons_succ, List.getElem_toArray, List.getElem_cons_succ, List.getElem_cons_zero])
  refine tkH (i := 17) (.bool true) rfl (by kernel_rfl) (fun _ _ _ h => h) (by rfl) (fun _ _ => by go_simp) hHeld ?_
  (try simp only [Act.put, List.setIfInBounds_toArray, List.set_cons_zero, List.set_cons_succ, List.getElem_toArray, List.getElem_cons_succ, List.getElem_cons_zero])
  refine wpAnyH_done (by kernel_rfl) ?_ _
  go_upto_region 11 with fail
  clear CF hHeld FT8
  replace P13 := hid (P13.out.below BX.out P13.out.lt)
  replace P17 := hid (P17.out.below BX.out P17.out.lt)
  replace Ox := hid (Ox.out.below BX.out (Nat.le_refl _))
  replace SPp := hid (⟨SPp.out.1.sto (Sto.of_below (L := 0) BX.out), SPp.out.2.1.sto (Sto.of_below (L := 0) BX.out), SPp.out.2.2.sto (Sto.of_below (L := 0) BX.out)⟩ : _ ∧ _ ∧ _)
  replace HTt := hid (HTt.out.hi (Hi.bel BX.out))
  replace HB := hid (HBx.out _ BX.out)
  clear BX HBx
  have SPt := hid (show Spw z4 Y3.heap.size 73 2 mt.A mt.n mt.c ∧ Spw z4 Y3.heap.size 75 1 mt.T mt.k mt.d ∧ Spw z4 Y3.heap.size 75 1 (mt.D 0).A (mt.D 0).n (mt.D 0).c from ⟨(HTt.out.ls.spw HTt.out.n).mono S7.out, HTt.out.tg.spw.mono S7.out, (HTt.out.D 0 (by omega)).lim.spw.mono S7.out⟩)
  have BPt := hid (show mt.n ≤ 100000 ∧ mt.k ≤ 100000 ∧ (mt.D 0).n ≤ 100000 from by have a1 := HGR.out.2.1; have a2 := HGR.out.2.2; have a3 := HTt.out.n; have a4 := H.out.ls.len; have a5 := HTt.out.k; have a6 := HT.out.k; have a7 := (HTt.out.D 0 (by omega)).n; have a8 := (HT.out.D 0 (by omega)).n; have a9 : ¬ 42 < (m.D 0).n := fun hq => HGR.out.1 ⟨0, by omega, .inl hq⟩; omega)
  have SPx := hid (show Spw z4 Y3.heap.size 5 1 Ax nx cx from ow_spw Ox.out hnx.out)
  have CP := hid (spoilm_any SPp.out.1 SPp.out.2.1 SPp.out.2.2 BPp.out.1 BPp.out.2.1 BPp.out.2.2)
  go_wp2_with (first | (refine wp_gmail (by kernel_rfl) (.tmp 13) (by with_reducible rfl) (Y6.heap.size) mp (by rfl) P13.out ?_) | fail)
  refine CP.out.mono ?_
  rintro e u1 ⟨rfl, hs⟩
  have SS := hid hs.out
  replace P17 := hid (hs.out.pbox P17.out)
  have CP2 := hid (spoilm_any (SPt.out.1.sto hs.out) (SPt.out.2.1.sto hs.out) (SPt.out.2.2.sto hs.out) BPt.out.1 BPt.out.2.1 BPt.out.2.2)
  clear hs CP SPp
  go_wp2_with (first | (refine wp_gmail (by kernel_rfl) (.tmp 17) (by with_reducible rfl) (Y8.heap.size) mt (by rfl) P17.out ?_) | fail)
  refine CP2.out.mono ?_
  rintro e u2 ⟨rfl, hs⟩
  replace SS := hid (SS.out.trans hs.out)
  clear hs CP2 SPt P17 P13
  have HNX := hid (show nx ≤ 100000 from by rw [← hnx.out, hXS.out]; exact wX_len (H.out) )
  go_wp2
  go_loopg [20] nx (fun gg s2 wr => ∃ kk : Nat, kk ≤ nx ∧ nx - kk ≤ gg ∧ s2 = .int .i64 kk ∧ Hid (Sto Y3.heap.size z4 wr))
  case atStart => exact ⟨0, Nat.zero_le _, by omega, rfl, SS⟩
  case round =>
    obtain ⟨kk, hkk, hg, rfl, SX⟩ := hrel
    by_cases hlt : kk < nx
    case pos =>
      have hltz : (kk : Int) < (nx : Int) := by omega
      rcases (SPx.out.sto SX.out) with h0 | ⟨g, cs, hA, hL, hh, hs, hc⟩
      · omega
      subst hA
      obtain ⟨q, hq⟩ : ∃ q, cs[kk]? = some q := ⟨_, Array.getElem?_eq_getElem (by omega)⟩
      have hcell : wr.cell? ⟨g, kk, none⟩ = some q := (cell_of_row wr g _ cs _ (0, 0) hh).trans hq
      have hfz : wr.frozen? ⟨g, kk, none⟩ = false := frozen_of_row wr g _ cs _ hh
      have HS := hid (Sto.set hh hL (.inr (.inr rfl)) kk (.int .u8 7))
      have hwi : IntKind.i64.wrap ((kk : Int) + 1) = (kk : Int) + 1 := IntWalk.i64_in _ (by have := HNX.out; omega)
      clear hh hs hc hq
      go_wp2
      go_roundg (nx - (kk + 1))
      case measure => omega
      case rel => exact ⟨kk + 1, by omega, by omega, by go_num, hid (SX.out.trans HS.out)⟩
    have hltz : ¬ (kk : Int) < (nx : Int) := by omega
    go_upto_region 17 with fail
    clear hltz hlt hkk hg SPx
    have KS := hid (SX.out.bel (show Y3.heap.size ≤ z4.heap.size from HB.out.size))
    have HE := hid (HB.out.trans KS.out)
    have CS := hid (psame_any (P := True) (F7.out _ HE.out) (F3.out _ HE.out) (hid ⟨fun _ => (HT.out.sm).2 (psm_self m l t), fun _ => trivial⟩))
    have P7e := hid (P7.out.below HE.out P7.out.lt)
    have P3e := hid (P3.out.below HE.out P3.out.lt)
    go_wp2_with (first | (refine wp_gmail (by kernel_rfl) (.tmp 7) (by with_reducible rfl) (g7) m' (by rfl) P7e.out ?_) | (refine wp_gmail (by kernel_rfl) (.tmp 3) (by with_reducible rfl) (w.heap.size) m (by rfl) P3e.out ?_) | fail)
    refine CS.out.mono ?_
    rintro e u3 ⟨q, rfl, hr, hb⟩
    obtain rfl : q = true := hr.out.2 trivial
    have HE2 := hid (HE.out.trans (hb.out.mono HE.out.size))
    have cv1 := conv_any (FT.out _ HE2.out)
    have cv2 := conv_any (FB.out _ HE2.out)
    have hse : ((str bs).toList == (str bs).toList) = true := by simp
    have BE := hid (B0.out.trans (HE2.out.mono B0.out.size))
    clear hb hr CS P7e P3e HE KS HB F7 F3 F4 FT FB HTx HBs SX
    go_wp2
    all_goals
      go_ret
      exact ⟨by first | rfl | simp, BE.out⟩
end Go.Proofs.YtbankbehfjogpaaGreat
