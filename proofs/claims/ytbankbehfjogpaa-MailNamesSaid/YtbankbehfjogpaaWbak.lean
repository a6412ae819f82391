/- MailBack, walked. -/
import Derived.Test.YtbankbehfjogpaaWapa
import Derived.Test.YtbankbehfjogpaaWrd3
namespace Go.Proofs.Ytbankbehfjogpaa
open Go.RowKit Go.Shelf Go.Lib
set_option maxRecDepth 100000

theorem wp_pstore_c {ops : Array Oper} {rest : List Oper} {o : Oper} {a : Act} {w : World} {Q : Exit → Act → World → Prop} (hgd : o.guard = none) (x y : Operand) (ho : o.op = .store 31 x y)
    (h : ∃ (g : Nat) (p m : Md), a.eval x = .pointer (some ⟨g, 0, none⟩) ∧ a.eval y = .agg (mdc m) ∧ Pbox w g p ∧ wpList Try.prog ops Q rest (a.put o.dst undef) (pstore w g m)) : wpList Try.prog ops Q (o :: rest) a w := by
  obtain ⟨g, p, m, hx, hy, hg, h⟩ := h
  exact wp_pstore hgd x y ho g p m hx hy hg h
theorem read_not {w : World} {A : Option Addr} {n c : Nat} {xs : List Nat} (h : By w w.heap.size A n c xs) (hn : ∀ M, ¬ RdOk xs M) :
    Calls Try.prog 12 #[.slice A n c] w fun e w' => ∃ er : Int, e = .returned (.tuple #[.agg (mdc (Mz 0)), .int .i64 er]) ∧ Hid (er ≠ 0 ∧ er = if flt xs = 0 then 41 else flt xs) ∧ Hid (Below w.heap.size w w') := by
  by_cases hf : flt xs = 0
  · exact (read_none h hf hn).mono fun _ _ ⟨he, hb⟩ => ⟨41, he, hid ⟨by decide, (if_pos hf).symm⟩, hb⟩
  · exact (read_frame h hf).mono fun _ _ ⟨he, hb⟩ => ⟨flt xs, he, hid ⟨hf, (if_neg hf).symm⟩, hb⟩
theorem Mk.stay {w w' : World} {B n c : Nat} {A : Option Addr} {f : Nat → Nat} (h : Mk w 34 B A n c f) (hb : Below w.heap.size w w') : Mk w' 34 B A n c f := h.below hb (Nat.le_refl _)
theorem Out.stay {w w' : World} {B C : Nat} {m : Md} {M : Ml} (h : Out (fun X D => Mk X 34 B D.A D.n D.c D.f) w C m M) (hb : Below w.heap.size w w') : Out (fun X D => Mk X 34 B D.A D.n D.c D.f) w' C m M :=
  ⟨h.kd, h.fr, h.tu, h.ep, h.nu, h.ab, fun k hk => (h.dv k hk).stay hb, h.S, h.W, h.C, h.A, h.wa, h.ls.below hb, h.ha, h.mn, h.mx, h.tg.below hb⟩
theorem mz_no : ¬ PMay (Mz 0) [] (fun _ => 0) := fun h => absurd h.1.1 (by decide)
theorem mz_prd (w : World) (k : Nat) (hk : k < 256) : Prd w w.heap.size (Mz k) [] (fun _ => 0) := ⟨hk, fun _ _ => Rd.nil _ _, Ds.nil' _ _, Rd.nil _ _⟩
theorem same_mz (w : World) : Calls Try.prog 16 #[.agg (mdc (Mz 0)), .agg (mdc (Mz 0))] w fun e w' => e = .returned (.bool true) ∧ Hid (Below w.heap.size w w') :=
  (wsame_any (P := True) (mz_prd w 0 (by decide)) (mz_prd w 0 (by decide)) (hid ⟨fun _ => ⟨⟨rfl, rfl, rfl, rfl, rfl, rfl⟩, fun _ _ => ⟨rfl, rfl, rfl, fun _ => rfl⟩, rfl, rfl, ⟨rfl, rfl, rfl⟩, rfl, fun _ => rfl⟩, fun _ => trivial⟩)).mono fun _ _ ⟨r, he, hr, hb⟩ => ⟨by rw [he, hr.out.2 trivial], hb⟩
/-- A text of a mail that may be. -/
theorem rdok_frm {w : World} {B : Nat} {m : Md} {l : List De} {t : Nat → Nat} (h : Prd w B m l t) (hm : PMay m l t) (hb : ∀ x ∈ cont (mlOf m l t), x < 256) : RdOk (frm m.kd (cont (mlOf m l t))) (mlOf m l t) :=
  have hf := fit_of h hm
  ⟨flt_frm h.kd (by have := cont_len hf; omega) hb, (may_iff h (may_x hm)).1 hm, (frm_kind _ _).symm, (frm_body _ _).symm⟩
theorem frm_of' {xs : List Nat} {M : Ml} (hx : ∀ x ∈ xs, x < 256) (h : RdOk xs M) : frm M.kd (cont M) = xs := by
  rw [h.kd, h.cont]
  exact frm_of hx h.flt
theorem cont_lt {M : Ml} : ∀ x ∈ cont M, x < 256 := by
  intro x hx
  unfold cont body at hx
  simp only [List.mem_append] at hx
  have hbe : ∀ {V k : Nat}, x ∈ be V k → x < 256 := be_lt
  have hdf : ∀ {D : Ddy}, x ∈ dfx D → x < 256 := fun h => dtx_lt h
  have hls : x ∈ lsx M.ls → x < 256 := fun h => by
    obtain ⟨d, _, hd⟩ := List.mem_flatMap.1 h
    rcases List.mem_append.1 hd with hd | hd <;> exact be_lt hd
  have htg : x ∈ tgx M.le → x < 256 := fun h => by
    obtain ⟨d, _, hd⟩ := List.mem_flatMap.1 h
    exact be_lt hd
  rcases hx with ((((h | h) | h) | h) | h) | h
  · exact hbe h
  · exact hbe h
  · exact hbe h
  · exact hbe h
  · split at h
    · exact hbe h
    · cases h
  · split at h
    · rcases List.mem_append.1 h with h | h <;> exact hdf h
    split at h
    · rcases List.mem_append.1 h with h | h <;> exact hdf h
    split at h
    · simp only [List.mem_append] at h
      rcases h with (h | h) | h
      · exact hbe h
      · exact hbe h
      · exact hls h
    split at h
    · simp only [List.mem_append] at h
      rcases h with (((h | h) | h) | h) | h
      · exact hbe h
      · exact hbe h
      · exact hbe h
      · exact hbe h
      · exact htg h
    · cases h
/-- What was read, in its box. -/
theorem box_new (w : World) (m : Md) : Pbox (pstore (w.alloc (.cells (mdc (Mz 0)) 31)) w.heap.size m) w.heap.size m ∧ Below w.heap.size w (pstore (w.alloc (.cells (mdc (Mz 0)) 31)) w.heap.size m) := by
  have h1 : Pbox (w.alloc (.cells (mdc (Mz 0)) 31)) w.heap.size (Mz 0) := heap_alloc_new w _
  have hw := wr_pstore (w.alloc (.cells (mdc (Mz 0)) 31)) w.heap.size m
  have hb : Below w.heap.size w (w.alloc (.cells (mdc (Mz 0)) 31)) := (Below.refl _ w).alloc (Nat.le_refl _) _
  exact ⟨h1.store m, hw.os.trans hb.os, hw.tape.trans hb.tape, hw.output.trans hb.output, Nat.le_trans hb.size (Nat.le_of_eq hw.size), fun b hbl => (hw.block b (by omega)).trans (hb.block b hbl)⟩
theorem box_zero (w : World) : Pbox (w.alloc (.cells (mdc (Mz 0)) 31)) w.heap.size (Mz 0) := heap_alloc_new w _

set_option maxHeartbeats 51200000 in
theorem back_walk' {w : World} {m : Md} {l : List De} {t : Nat → Nat} {A : Option Addr} {n c : Nat} {bs : List Nat} (h : Prd w w.heap.size m l t) (k : By w w.heap.size A n c bs) :
    Calls Try.prog 4 #[.agg (mdc m), .slice A n c] w fun e w' => e = .returned (.bool true) ∧ Below w.heap.size w w' := by
  obtain ⟨w1, hw1⟩ : ∃ w1, w1 = w.alloc (.cells (mdc m) 31) := ⟨_, rfl⟩
  have B0 := hid (show Below w.heap.size w w1 from hw1 ▸ (Below.refl _ w).alloc (Nat.le_refl _) _)
  have P0 := hid (show Pbox w1 w.heap.size m from hw1 ▸ heap_alloc_new w _)
  have HW := hid hw1
  have H := hid h
  have HK := hid k
  have hmax := k.max
  clear hw1 h k
  go_enter Try.func4, Try.ntmps4
  go_upto_region 1 with fail
  rw [← HW.out]
  clear HW
  go_wp2_with fail
  refine (wlive_any w1).mono ?_
  rintro e w2 ⟨rfl, hb⟩
  replace B0 := hid (B0.out.trans (hb.out.mono B0.out.size))
  replace P0 := hid (P0.out.below hb.out P0.out.lt)
  clear hb
  by_cases hg1 : PGr m
  · have CG := hid (great_yes (H.out.on B0.out) hg1)
    clear hg1
    go_wp2_with (first | (refine wp_pload rfl (.tmp 2) (by with_reducible rfl) w.heap.size m (by rfl) P0.out ?_) | fail)
    refine CG.out.mono ?_
    rintro e w3 ⟨rfl, hb⟩
    go_wp2
    go_ret
    exact ⟨rfl, B0.out.trans (hb.out.mono B0.out.size)⟩
  have CG := hid (great_no (H.out.on B0.out) hg1)
  clear hg1
  go_wp2_with (first | (refine wp_pload rfl (.tmp 2) (by with_reducible rfl) w.heap.size m (by rfl) P0.out ?_) | fail)
  refine CG.out.mono ?_
  rintro e w3 ⟨rfl, hb⟩
  replace B0 := hid (B0.out.trans (hb.out.mono B0.out.size))
  replace P0 := hid (P0.out.below hb.out P0.out.lt)
  clear hb CG
  by_cases hn : 1000 < n
  · have hz : decide ((1000 : Int) < (n : Int)) = true := decide_eq_true (by omega)
    clear hn
    go_wp2
    go_ret
    exact ⟨rfl, B0.out⟩
  have hz : decide ((1000 : Int) < (n : Int)) = false := decide_eq_false (by omega)
  clear hn
  by_cases hm : PMay m l t
  · have C1 := hid (write_good (H.out.on B0.out) hm)
    have HM0 := hid hm
    clear hm
    go_wp2_with (first | (refine wp_pload rfl (.tmp 2) (by with_reducible rfl) w.heap.size m (by rfl) P0.out ?_) | fail)
    refine C1.out.mono ?_
    rintro e w4 ⟨v4, rfl, hO4, hb⟩
    replace B0 := hid (B0.out.trans (hb.out.mono B0.out.size))
    replace P0 := hid (P0.out.below hb.out P0.out.lt)
    have hok := rdok_frm H.out HM0.out cont_lt
    obtain ⟨A4, c4, rfl, hY4⟩ := hO4.out.shape
    have C2 := hid (read_good hY4 hok)
    clear hb C1 hO4 hY4 hok
    go_wp2_with fail
    refine C2.out.mono ?_
    rintro e w5 ⟨m1, rfl, hO5, hb⟩
    replace B0 := hid (B0.out.trans (hb.out.mono B0.out.size))
    replace P0 := hid (P0.out.below hb.out P0.out.lt)
    have HO5 := hid hO5.out
    clear hb C2 hO5
    obtain ⟨Wn, hWn⟩ : ∃ Wn, Wn = w5.alloc (.cells (mdc (Mz 0)) 31) := ⟨_, rfl⟩
    have PN := hid (show Pbox Wn w5.heap.size (Mz 0) from hWn ▸ box_zero w5)
    have HWn := hid hWn
    clear hWn
    go_upto_region 6 with (first | (refine wp_pstore_c rfl (.tmp 8) (.tmp 35) (by with_reducible rfl) ?_; refine ⟨w5.heap.size, Mz 0, m1, by rfl, by rfl, HWn.out ▸ PN.out, ?_⟩) | fail)
    clear PN HWn
    have hbx := box_new w5 m1
    obtain ⟨w6, hw6⟩ : ∃ w6, w6 = pstore (w5.alloc (.cells (mdc (Mz 0)) 31)) w5.heap.size m1 := ⟨_, rfl⟩
    change Code.wp _ _ _ _ (pstore (w5.alloc (.cells (mdc (Mz 0)) 31)) w5.heap.size m1)
    rw [← hw6] at hbx ⊢
    have PY := hid hbx.1
    have KY := hid hbx.2
    clear hw6 hbx
    replace B0 := hid (B0.out.trans (KY.out.mono B0.out.size))
    replace P0 := hid (P0.out.below KY.out P0.out.lt)
    have HO6 := hid (show Out (fun X D => Mk X 34 0 D.A D.n D.c D.f) w6 0 m1 (mlOf m l t) from ((HO5.out.dv' (Dv' := fun X D => Mk X 34 0 D.A D.n D.c D.f) (fun D hD => hD.mono (Nat.zero_le _))).mono (Nat.zero_le _)).stay KY.out)
    have HP6 := hid (HO6.out.prd H.out.kd (fun D hD => hD.rd))
    have CS := hid (wsame_any (P := True) HP6.out (H.out.on B0.out) (hid ⟨fun _ => (psm_prd HP6.out (H.out.on B0.out) (out_ml HO6.out).2 (may_x HM0.out)).2 (out_ml HO6.out).1, fun _ => trivial⟩))
    clear HO5 HO6 KY
    go_wp2_with (first | (refine wp_gmail (by kernel_rfl) (.tmp 8) (by with_reducible rfl) w5.heap.size m1 (by rfl) PY.out ?_) | (refine wp_gmail (by kernel_rfl) (.tmp 2) (by with_reducible rfl) w.heap.size m (by rfl) P0.out ?_) | fail)
    refine CS.out.mono ?_
    rintro e w7 ⟨q, rfl, hr, hb⟩
    obtain rfl : q = true := hr.out.2 trivial
    replace B0 := hid (B0.out.trans (hb.out.mono B0.out.size))
    clear hb hr CS HP6 PY P0 HM0
    go_upto_region 8 with fail
    have HBs := hid (HK.out.below B0.out)
    by_cases hrd : ∃ M, RdOk bs M
    · obtain ⟨M, hM⟩ := hrd
      have C1 := hid (read_good (HBs.out.mono B0.out.size) hM)
      have HM := hid hM
      clear hM
      go_wp2_with fail
      refine C1.out.mono ?_
      rintro e X1 ⟨m2, rfl, hO, hb⟩
      replace B0 := hid (B0.out.trans (hb.out.mono B0.out.size))
      have HOX := hid hO.out
      clear hO hb C1
      obtain ⟨Wn, hWn⟩ : ∃ Wn, Wn = X1.alloc (.cells (mdc (Mz 0)) 31) := ⟨_, rfl⟩
      have PN := hid (show Pbox Wn X1.heap.size (Mz 0) from hWn ▸ box_zero X1)
      have HWn := hid hWn
      clear hWn
      go_upto_region 9 with (first | (refine wp_pstore_c rfl (.tmp 10) (.tmp 67) (by with_reducible rfl) ?_; refine ⟨X1.heap.size, Mz 0, m2, by rfl, by rfl, HWn.out ▸ PN.out, ?_⟩) | fail)
      clear PN HWn
      have hbx := box_new X1 m2
      obtain ⟨X2, hX2⟩ : ∃ X2, X2 = pstore (X1.alloc (.cells (mdc (Mz 0)) 31)) X1.heap.size m2 := ⟨_, rfl⟩
      change Code.wp _ _ _ _ (pstore (X1.alloc (.cells (mdc (Mz 0)) 31)) X1.heap.size m2)
      rw [← hX2] at hbx ⊢
      have PX := hid hbx.1
      have KX := hid hbx.2
      clear hX2 hbx
      replace B0 := hid (B0.out.trans (KX.out.mono B0.out.size))
      have HO2 := hid (show Out (fun X D => Mk X 34 0 D.A D.n D.c D.f) X2 0 m2 M from ((HOX.out.dv' (Dv' := fun X D => Mk X 34 0 D.A D.n D.c D.f) (fun D hD => hD.mono (Nat.zero_le _))).mono (Nat.zero_le _)).stay KX.out)
      have HP2 := hid (HO2.out.prd (by rw [HM.out.kd]; exact getD_lt' HK.out.lt 2) (fun D hD => hD.rd))
      have hml := out_ml HO2.out
      have C2 := hid (write_good HP2.out ((may_iff HP2.out hml.2).2 (by rw [hml.1]; exact HM.out.may)))
      rw [hml.1, HO2.out.kd, frm_of' HK.out.lt HM.out] at C2
      clear hml
      go_wp2_with (first | (refine wp_pload rfl (.tmp 10) (by with_reducible rfl) X1.heap.size m2 (by rfl) PX.out ?_) | fail)
      refine C2.out.mono ?_
      rintro e X3 ⟨v, rfl, hO3, hb3⟩
      obtain ⟨A3, c3, rfl, hY3⟩ := hO3.out.shape
      have cv1 := conv_any hY3
      have cv2 := conv_any (HK.out.below (B0.out.trans (hb3.out.mono B0.out.size)))
      have BE := hid (B0.out.trans (hb3.out.mono B0.out.size))
      have hse : ((str bs).toList == (str bs).toList) = true := by simp
      clear hY3 hO3 hb3 C2 HO2 HP2 HM HK HBs HOX H KX
      go_wp2
      all_goals
        go_ret
        exact ⟨by first | rfl | simp, BE.out⟩
    · have C1 := hid (read_not (HBs.out.mono B0.out.size) (fun M hM => hrd ⟨M, hM⟩))
      clear hrd
      go_wp2_with fail
      refine C1.out.mono ?_
      rintro e X1 ⟨er, rfl, hne, hb⟩
      replace B0 := hid (B0.out.trans (hb.out.mono B0.out.size))
      have hz1 : (er != 0) = true := by simpa using hne.out.1
      clear hb C1 hne
      obtain ⟨Wn, hWn⟩ : ∃ Wn, Wn = X1.alloc (.cells (mdc (Mz 0)) 31) := ⟨_, rfl⟩
      have PN := hid (show Pbox Wn X1.heap.size (Mz 0) from hWn ▸ box_zero X1)
      have HWn := hid hWn
      clear hWn
      go_upto_region 9 with (first | (refine wp_pstore_c rfl (.tmp 10) (.tmp 67) (by with_reducible rfl) ?_; refine ⟨X1.heap.size, Mz 0, (Mz 0), by rfl, by rfl, HWn.out ▸ PN.out, ?_⟩) | fail)
      clear PN HWn
      have hbx := box_new X1 (Mz 0)
      obtain ⟨X2, hX2⟩ : ∃ X2, X2 = pstore (X1.alloc (.cells (mdc (Mz 0)) 31)) X1.heap.size (Mz 0) := ⟨_, rfl⟩
      change Code.wp _ _ _ _ (pstore (X1.alloc (.cells (mdc (Mz 0)) 31)) X1.heap.size (Mz 0))
      rw [← hX2] at hbx ⊢
      have PX := hid hbx.1
      have KX := hid hbx.2
      clear hX2 hbx
      replace B0 := hid (B0.out.trans (KX.out.mono B0.out.size))
      have C2 := hid (write_bad (mz_prd X2 0 (by decide)) mz_no)
      go_wp2_with (first | (refine wp_pload rfl (.tmp 10) (by with_reducible rfl) X1.heap.size (Mz 0) (by rfl) PX.out ?_) | fail)
      refine C2.out.mono ?_
      rintro e X3 ⟨rfl, hb3⟩
      have PX3 := hid (PX.out.below hb3.out PX.out.lt)
      replace B0 := hid (B0.out.trans (hb3.out.mono B0.out.size))
      clear hb3 C2 KX PX
      go_wp2_with (first | (refine wp_gmail (by kernel_rfl) (.tmp 10) (by with_reducible rfl) X1.heap.size (Mz 0) (by rfl) PX3.out ?_) | fail)
      refine (same_mz X3).mono ?_
      rintro e X4 ⟨rfl, hb4⟩
      have BE := hid (B0.out.trans (hb4.out.mono B0.out.size))
      clear hb4
      go_wp2
      all_goals
        go_ret
        exact ⟨by first | rfl | simp, BE.out⟩
  · have C1 := hid (write_bad (H.out.on B0.out) hm)
    have HM0 := hid hm
    clear hm
    go_wp2_with (first | (refine wp_pload rfl (.tmp 2) (by with_reducible rfl) w.heap.size m (by rfl) P0.out ?_) | fail)
    refine C1.out.mono ?_
    rintro e w4 ⟨rfl, hb⟩
    replace B0 := hid (B0.out.trans (hb.out.mono B0.out.size))
    replace P0 := hid (P0.out.below hb.out P0.out.lt)
    have C2 := hid (read_frame (By.nul w4 w4.heap.size) (show flt [] ≠ 0 by decide))
    rw [show flt [] = 40 from rfl] at C2
    clear hb C1
    go_wp2_with fail
    refine C2.out.mono ?_
    rintro e w5 ⟨rfl, hb⟩
    replace B0 := hid (B0.out.trans (hb.out.mono B0.out.size))
    replace P0 := hid (P0.out.below hb.out P0.out.lt)
    clear hb C2
    obtain ⟨Wn, hWn⟩ : ∃ Wn, Wn = w5.alloc (.cells (mdc (Mz 0)) 31) := ⟨_, rfl⟩
    have PN := hid (show Pbox Wn w5.heap.size (Mz 0) from hWn ▸ box_zero w5)
    have HWn := hid hWn
    clear hWn
    go_upto_region 6 with (first | (refine wp_pstore_c rfl (.tmp 8) (.tmp 35) (by with_reducible rfl) ?_; refine ⟨w5.heap.size, Mz 0, (Mz 0), by rfl, by rfl, HWn.out ▸ PN.out, ?_⟩) | fail)
    clear PN HWn
    have hbx := box_new w5 (Mz 0)
    obtain ⟨w6, hw6⟩ : ∃ w6, w6 = pstore (w5.alloc (.cells (mdc (Mz 0)) 31)) w5.heap.size (Mz 0) := ⟨_, rfl⟩
    change Code.wp _ _ _ _ (pstore (w5.alloc (.cells (mdc (Mz 0)) 31)) w5.heap.size (Mz 0))
    rw [← hw6] at hbx ⊢
    have KY := hid hbx.2
    clear hw6 hbx
    replace B0 := hid (B0.out.trans (KY.out.mono B0.out.size))
    replace P0 := hid (P0.out.below KY.out P0.out.lt)
    have CC := hid (check_no (H.out.on B0.out) HM0.out)
    clear KY HM0
    go_wp2_with (first | (refine wp_gmail (by kernel_rfl) (.tmp 2) (by with_reducible rfl) w.heap.size m (by rfl) P0.out ?_) | fail)
    refine CC.out.mono ?_
    rintro e w7 ⟨rfl, hb⟩
    replace B0 := hid (B0.out.trans (hb.out.mono B0.out.size))
    clear hb CC P0
    go_upto_region 8 with fail
    have HBs := hid (HK.out.below B0.out)
    by_cases hrd : ∃ M, RdOk bs M
    · obtain ⟨M, hM⟩ := hrd
      have C1 := hid (read_good (HBs.out.mono B0.out.size) hM)
      have HM := hid hM
      clear hM
      go_wp2_with fail
      refine C1.out.mono ?_
      rintro e X1 ⟨m2, rfl, hO, hb⟩
      replace B0 := hid (B0.out.trans (hb.out.mono B0.out.size))
      have HOX := hid hO.out
      clear hO hb C1
      obtain ⟨Wn, hWn⟩ : ∃ Wn, Wn = X1.alloc (.cells (mdc (Mz 0)) 31) := ⟨_, rfl⟩
      have PN := hid (show Pbox Wn X1.heap.size (Mz 0) from hWn ▸ box_zero X1)
      have HWn := hid hWn
      clear hWn
      go_upto_region 9 with (first | (refine wp_pstore_c rfl (.tmp 10) (.tmp 67) (by with_reducible rfl) ?_; refine ⟨X1.heap.size, Mz 0, m2, by rfl, by rfl, HWn.out ▸ PN.out, ?_⟩) | fail)
      clear PN HWn
      have hbx := box_new X1 m2
      obtain ⟨X2, hX2⟩ : ∃ X2, X2 = pstore (X1.alloc (.cells (mdc (Mz 0)) 31)) X1.heap.size m2 := ⟨_, rfl⟩
      change Code.wp _ _ _ _ (pstore (X1.alloc (.cells (mdc (Mz 0)) 31)) X1.heap.size m2)
      rw [← hX2] at hbx ⊢
      have PX := hid hbx.1
      have KX := hid hbx.2
      clear hX2 hbx
      replace B0 := hid (B0.out.trans (KX.out.mono B0.out.size))
      have HO2 := hid (show Out (fun X D => Mk X 34 0 D.A D.n D.c D.f) X2 0 m2 M from ((HOX.out.dv' (Dv' := fun X D => Mk X 34 0 D.A D.n D.c D.f) (fun D hD => hD.mono (Nat.zero_le _))).mono (Nat.zero_le _)).stay KX.out)
      have HP2 := hid (HO2.out.prd (by rw [HM.out.kd]; exact getD_lt' HK.out.lt 2) (fun D hD => hD.rd))
      have hml := out_ml HO2.out
      have C2 := hid (write_good HP2.out ((may_iff HP2.out hml.2).2 (by rw [hml.1]; exact HM.out.may)))
      rw [hml.1, HO2.out.kd, frm_of' HK.out.lt HM.out] at C2
      clear hml
      go_wp2_with (first | (refine wp_pload rfl (.tmp 10) (by with_reducible rfl) X1.heap.size m2 (by rfl) PX.out ?_) | fail)
      refine C2.out.mono ?_
      rintro e X3 ⟨v, rfl, hO3, hb3⟩
      obtain ⟨A3, c3, rfl, hY3⟩ := hO3.out.shape
      have cv1 := conv_any hY3
      have cv2 := conv_any (HK.out.below (B0.out.trans (hb3.out.mono B0.out.size)))
      have BE := hid (B0.out.trans (hb3.out.mono B0.out.size))
      have hse : ((str bs).toList == (str bs).toList) = true := by simp
      clear hY3 hO3 hb3 C2 HO2 HP2 HM HK HBs HOX H KX
      go_wp2
      all_goals
        go_ret
        exact ⟨by first | rfl | simp, BE.out⟩
    · have C1 := hid (read_not (HBs.out.mono B0.out.size) (fun M hM => hrd ⟨M, hM⟩))
      clear hrd
      go_wp2_with fail
      refine C1.out.mono ?_
      rintro e X1 ⟨er, rfl, hne, hb⟩
      replace B0 := hid (B0.out.trans (hb.out.mono B0.out.size))
      have hz1 : (er != 0) = true := by simpa using hne.out.1
      clear hb C1 hne
      obtain ⟨Wn, hWn⟩ : ∃ Wn, Wn = X1.alloc (.cells (mdc (Mz 0)) 31) := ⟨_, rfl⟩
      have PN := hid (show Pbox Wn X1.heap.size (Mz 0) from hWn ▸ box_zero X1)
      have HWn := hid hWn
      clear hWn
      go_upto_region 9 with (first | (refine wp_pstore_c rfl (.tmp 10) (.tmp 67) (by with_reducible rfl) ?_; refine ⟨X1.heap.size, Mz 0, (Mz 0), by rfl, by rfl, HWn.out ▸ PN.out, ?_⟩) | fail)
      clear PN HWn
      have hbx := box_new X1 (Mz 0)
      obtain ⟨X2, hX2⟩ : ∃ X2, X2 = pstore (X1.alloc (.cells (mdc (Mz 0)) 31)) X1.heap.size (Mz 0) := ⟨_, rfl⟩
      change Code.wp _ _ _ _ (pstore (X1.alloc (.cells (mdc (Mz 0)) 31)) X1.heap.size (Mz 0))
      rw [← hX2] at hbx ⊢
      have PX := hid hbx.1
      have KX := hid hbx.2
      clear hX2 hbx
      replace B0 := hid (B0.out.trans (KX.out.mono B0.out.size))
      have C2 := hid (write_bad (mz_prd X2 0 (by decide)) mz_no)
      go_wp2_with (first | (refine wp_pload rfl (.tmp 10) (by with_reducible rfl) X1.heap.size (Mz 0) (by rfl) PX.out ?_) | fail)
      refine C2.out.mono ?_
      rintro e X3 ⟨rfl, hb3⟩
      have PX3 := hid (PX.out.below hb3.out PX.out.lt)
      replace B0 := hid (B0.out.trans (hb3.out.mono B0.out.size))
      clear hb3 C2 KX PX
      go_wp2_with (first | (refine wp_gmail (by kernel_rfl) (.tmp 10) (by with_reducible rfl) X1.heap.size (Mz 0) (by rfl) PX3.out ?_) | fail)
      refine (same_mz X3).mono ?_
      rintro e X4 ⟨rfl, hb4⟩
      have BE := hid (B0.out.trans (hb4.out.mono B0.out.size))
      clear hb4
      go_wp2
      all_goals
        go_ret
        exact ⟨by first | rfl | simp, BE.out⟩
end Go.Proofs.Ytbankbehfjogpaa
