/- MailApart, walked. -/
import Derived.Test.YtbankbehfjogpaaVau
namespace Go.Proofs.Ytbankbehfjogpaa
open Go.RowKit Go.Shelf Go.Lib
set_option maxRecDepth 100000

theorem psm_prd {w w' : World} {B C : Nat} {m o : Md} {l r : List De} {t u : Nat → Nat} (h : Prd w B m l t) (k : Prd w' C o r u) (hx : ∀ k, k < 4 → 0 ≤ (m.D k).x) (hy : ∀ k, k < 4 → 0 ≤ (o.D k).x) :
    PSm m o l r t u ↔ mlOf m l t = mlOf o r u := by
  have dd : ∀ k, k < 4 → (Dsm (m.D k) (o.D k) ↔ ddy (m.D k) = ddy (o.D k)) := fun k hk => dsm_iff ⟨rfl, rfl, rfl, by have := hy k hk; show (o.D k).x = ((o.D k).x.toNat : Int); omega⟩ (hx k hk)
  have ht : (m.k = o.k ∧ ∀ j, t j = u j) ↔ (List.range m.k).map t = (List.range o.k).map u := by
    constructor
    · rintro ⟨a, b⟩
      rw [a, show t = u from funext b]
    · intro e
      have hl := congrArg List.length e
      simp only [List.length_map, List.length_range] at hl
      refine ⟨hl, fun j => ?_⟩
      have h1 := range_map_get m.k t h.tg.out j
      have h2 := range_map_get o.k u k.tg.out j
      rw [← h1, ← h2, e]
  unfold PSm ISm mlOf
  rw [ht]
  simp only [Ml.mk.injEq]
  constructor
  · rintro ⟨⟨a1, a2, a3, a4, a5, a6⟩, hd, a7, a8, ⟨a9, a10, a11⟩, a12⟩
    exact ⟨a1, a2, a3, a4, a5, a6, (dd 0 (by omega)).1 (hd 0 (by omega)), (dd 1 (by omega)).1 (hd 1 (by omega)), (dd 2 (by omega)).1 (hd 2 (by omega)), (dd 3 (by omega)).1 (hd 3 (by omega)), a7, a8, a9, a10, a11, a12⟩
  · rintro ⟨a1, a2, a3, a4, a5, a6, b0, b1, b2, b3, a7, a8, a9, a10, a11, a12⟩
    refine ⟨⟨a1, a2, a3, a4, a5, a6⟩, fun k hk => ?_, a7, a8, ⟨a9, a10, a11⟩, a12⟩
    have hc : k = 0 ∨ k = 1 ∨ k = 2 ∨ k = 3 := by omega
    rcases hc with rfl | rfl | rfl | rfl
    · exact (dd 0 hk).2 b0
    · exact (dd 1 hk).2 b1
    · exact (dd 2 hk).2 b2
    · exact (dd 3 hk).2 b3
theorem frm_inj {a b : Nat} {xs ys : List Nat} (h : frm a xs = frm b ys) : a = b ∧ xs = ys := by
  have h1 := congrArg (fun z => z.getD 2 0) h
  simp only [frm_kind] at h1
  have h2 := congrArg (fun z => (z.take (z.length - 4)).drop 5) h
  simp only [frm_body] at h2
  exact ⟨h1, h2⟩
theorem may_x {m : Md} {l : List De} {t : Nat → Nat} (h : PMay m l t) : ∀ k, k < 4 → 0 ≤ (m.D k).x := fun k hk => (h.2.2.2.1 k hk).2.1
theorem apart_iff {w w' : World} {B C : Nat} {m o : Md} {l r : List De} {t u : Nat → Nat} (h : Prd w B m l t) (k : Prd w' C o r u) (hm : PMay m l t) (ho : PMay o r u) :
    PSm m o l r t u ↔ frm m.kd (cont (mlOf m l t)) = frm o.kd (cont (mlOf o r u)) := by
  rw [psm_prd h k (may_x hm) (may_x ho)]
  constructor
  · intro e
    rw [e, show m.kd = o.kd from congrArg Ml.kd e]
  · intro e
    obtain ⟨e1, e2⟩ := frm_inj e
    exact cont_inj (fit_of h hm).fit (fit_of k ho).fit e1 e2
/-- What is Great is told. -/
theorem great_yes {w : World} {m : Md} {l : List De} {t : Nat → Nat} (h : Prd w w.heap.size m l t) (hg : PGr m) : Calls Try.prog 15 #[.agg (mdc m)] w fun e w' => e = .returned (.bool true) ∧ Hid (Below w.heap.size w w') :=
  (pgreat_any (P := True) h (hid ⟨fun _ => hg, fun _ => trivial⟩)).mono fun _ _ ⟨r, he, hr, hb⟩ => ⟨by rw [he, hr.out.2 trivial], hb⟩
theorem great_no {w : World} {m : Md} {l : List De} {t : Nat → Nat} (h : Prd w w.heap.size m l t) (hg : ¬ PGr m) : Calls Try.prog 15 #[.agg (mdc m)] w fun e w' => e = .returned (.bool false) ∧ Hid (Below w.heap.size w w') :=
  (pgreat_any (P := False) h (hid ⟨fun h => h.elim, fun x => hg x⟩)).mono fun _ _ ⟨r, he, hr, hb⟩ => ⟨by cases r with | false => exact he | true => exact (hr.out.1 rfl).elim, hb⟩
theorem yields_conv {ops : Array Oper} {S : World → Prop} {o : Oper} {a : Act} (hw : Region.wanted o (yielded ops a.tmps) = true) (x : Operand) (ho : o.op = .convert 37 9 x)
    {A : Option Addr} {n c : Nat} {xs : List Nat} (hx : a.eval x = .slice A n c) (hS : ∀ w, S w → ∃ B, By w B A n c xs) : YieldsIf Try.prog ops S o (.string (str xs)) a :=
  .inl ⟨hw, fun w hw' => by
    obtain ⟨B, hB⟩ := hS w hw'
    unfold execOp
    simp only [ho, hx, Sem.run_bind, conv_any hB, Result.andThen_ok, Sem.run_pure]⟩

set_option maxHeartbeats 25600000 in
theorem apart_walk {w : World} {m o : Md} {l r : List De} {t u : Nat → Nat} (h : Prd w w.heap.size m l t) (k : Prd w w.heap.size o r u) :
    Calls Try.prog 6 #[.agg (mdc m), .agg (mdc o)] w fun e w' => e = .returned (.bool true) ∧ Below w.heap.size w w' := by
  obtain ⟨w1, hw1⟩ : ∃ w1, w1 = (w.alloc (.cells (mdc m) 31)).alloc (.cells (mdc o) 31) := ⟨_, rfl⟩
  have B0 := hid (show Below w.heap.size w w1 from hw1 ▸ ((Below.refl _ w).alloc (Nat.le_refl _) _).alloc (by simp) _)
  have P0 := hid (show Pbox w1 w.heap.size m from hw1 ▸ pheap0 w _ _)
  have Q0 := hid (show Pbox w1 (w.heap.size + 1) o from hw1 ▸ pheap1 w _ _)
  have HW := hid hw1
  have H := hid h
  have HK := hid k
  clear hw1 h k
  go_enter Try.func6, Try.ntmps6
  go_upto_region 1 with fail
  rw [← HW.out]
  clear HW
  go_wp2_with fail
  refine (wlive_any w1).mono ?_
  rintro e w2 ⟨rfl, hb⟩
  replace B0 := hid (B0.out.trans (hb.out.mono B0.out.size))
  replace P0 := hid (P0.out.below hb.out P0.out.lt)
  replace Q0 := hid (Q0.out.below hb.out Q0.out.lt)
  clear hb
  by_cases hg1 : PGr m
  · have CG := hid (great_yes (H.out.on B0.out) hg1)
    clear hg1
    go_wp2_with (first | (refine wp_pload rfl (.tmp 2) (by with_reducible rfl) w.heap.size m (by rfl) P0.out ?_) | fail)
    refine CG.out.mono ?_
    rintro e w3 ⟨rfl, hb⟩
    go_wp2
    go_ret
    exact ⟨rfl, B0.out.trans (hb.out.mono B0.out.size)⟩
  have CG := hid (great_no (H.out.on B0.out) hg1)
  clear hg1
  go_wp2_with (first | (refine wp_pload rfl (.tmp 2) (by with_reducible rfl) w.heap.size m (by rfl) P0.out ?_) | fail)
  refine CG.out.mono ?_
  rintro e w3 ⟨rfl, hb⟩
  replace B0 := hid (B0.out.trans (hb.out.mono B0.out.size))
  replace P0 := hid (P0.out.below hb.out P0.out.lt)
  replace Q0 := hid (Q0.out.below hb.out Q0.out.lt)
  clear hb CG
  by_cases hg1 : PGr o
  · have CG := hid (great_yes (HK.out.on B0.out) hg1)
    clear hg1
    go_wp2_with (first | (refine wp_gmail (by kernel_rfl) (.tmp 3) (by with_reducible rfl) (w.heap.size + 1) o (by rfl) Q0.out ?_) | fail)
    refine CG.out.mono ?_
    rintro e w4 ⟨rfl, hb⟩
    go_wp2
    go_ret
    exact ⟨rfl, B0.out.trans (hb.out.mono B0.out.size)⟩
  have CG := hid (great_no (HK.out.on B0.out) hg1)
  clear hg1
  go_wp2_with (first | (refine wp_gmail (by kernel_rfl) (.tmp 3) (by with_reducible rfl) (w.heap.size + 1) o (by rfl) Q0.out ?_) | fail)
  refine CG.out.mono ?_
  rintro e w4 ⟨rfl, hb⟩
  replace B0 := hid (B0.out.trans (hb.out.mono B0.out.size))
  replace P0 := hid (P0.out.below hb.out P0.out.lt)
  replace Q0 := hid (Q0.out.below hb.out Q0.out.lt)
  clear hb CG
  by_cases hm : PMay m l t
  case neg =>
    have C1 := hid (write_bad (H.out.on B0.out) hm)
    clear hm
    go_wp2_with (first | (refine wp_pload rfl (.tmp 2) (by with_reducible rfl) w.heap.size m (by rfl) P0.out ?_) | fail)
    refine C1.out.mono ?_
    rintro e w5 ⟨rfl, hb⟩
    replace B0 := hid (B0.out.trans (hb.out.mono B0.out.size))
    replace Q0 := hid (Q0.out.below hb.out Q0.out.lt)
    clear hb C1
    by_cases ho : PMay o r u
    · have C2 := hid (write_good (HK.out.on B0.out) ho)
      clear ho
      go_wp2_with (first | (refine wp_pload rfl (.tmp 3) (by with_reducible rfl) (w.heap.size + 1) o (by rfl) Q0.out ?_) | fail)
      refine C2.out.mono ?_
      rintro e w6 ⟨v, rfl, _, hb⟩
      go_wp2
      go_ret
      exact ⟨rfl, B0.out.trans (hb.out.mono B0.out.size)⟩
    · have C2 := hid (write_bad (HK.out.on B0.out) ho)
      clear ho
      go_wp2_with (first | (refine wp_pload rfl (.tmp 3) (by with_reducible rfl) (w.heap.size + 1) o (by rfl) Q0.out ?_) | fail)
      refine C2.out.mono ?_
      rintro e w6 ⟨rfl, hb⟩
      go_wp2
      go_ret
      exact ⟨rfl, B0.out.trans (hb.out.mono B0.out.size)⟩
  have C1 := hid (write_good (H.out.on B0.out) hm)
  have HM := hid hm
  clear hm
  go_wp2_with (first | (refine wp_pload rfl (.tmp 2) (by with_reducible rfl) w.heap.size m (by rfl) P0.out ?_) | fail)
  refine C1.out.mono ?_
  rintro e w5 ⟨v5, rfl, hO5, hb⟩
  replace B0 := hid (B0.out.trans (hb.out.mono B0.out.size))
  replace P0 := hid (P0.out.below hb.out P0.out.lt)
  replace Q0 := hid (Q0.out.below hb.out Q0.out.lt)
  clear hb C1
  by_cases ho : PMay o r u
  case neg =>
    have C2 := hid (write_bad (HK.out.on B0.out) ho)
    clear ho
    go_wp2_with (first | (refine wp_pload rfl (.tmp 3) (by with_reducible rfl) (w.heap.size + 1) o (by rfl) Q0.out ?_) | fail)
    refine C2.out.mono ?_
    rintro e w6 ⟨rfl, hb⟩
    go_wp2
    go_ret
    exact ⟨rfl, B0.out.trans (hb.out.mono B0.out.size)⟩
  have C2 := hid (write_good (HK.out.on B0.out) ho)
  have HO := hid ho
  clear ho
  go_wp2_with (first | (refine wp_pload rfl (.tmp 3) (by with_reducible rfl) (w.heap.size + 1) o (by rfl) Q0.out ?_) | fail)
  refine C2.out.mono ?_
  rintro e w6 ⟨v6, rfl, hO6, hb⟩
  replace B0 := hid (B0.out.trans (hb.out.mono B0.out.size))
  replace P0 := hid (P0.out.below hb.out P0.out.lt)
  replace Q0 := hid (Q0.out.below hb.out Q0.out.lt)
  replace hO5 := hid (hO5.out.below hb.out (Nat.le_refl _))
  obtain ⟨xs, hxs⟩ : ∃ xs, xs = frm m.kd (cont (mlOf m l t)) := ⟨_, rfl⟩
  obtain ⟨ys, hys⟩ : ∃ ys, ys = frm o.kd (cont (mlOf o r u)) := ⟨_, rfl⟩
  rw [← hxs] at hO5
  rw [← hys] at hO6
  have HI := hid (show PSm m o l r t u ↔ xs = ys by rw [hxs, hys]; exact apart_iff H.out HK.out HM.out HO.out)
  obtain ⟨A5, c5, rfl, hX⟩ := hO5.out.shape
  obtain ⟨A6, c6, rfl, hY⟩ := hO6.out.shape
  have HX := hid hX
  have HY := hid hY
  have hxl := hX.lt
  have hyl := hY.lt
  have HSB := hid (show ((str xs).toList == (str ys).toList) = decide (xs = ys) by rw [← str_beq hxl hyl]; exact (beq_toListBytes _ _).symm)
  clear hb C2 hO5 hO6 hX hY hxs hys hxl hyl
  go_upto_region 8 with fail
  have BX : Hid (Below w6.heap.size w6 w6.drew) := hid (Below.refl w6.heap.size w6).drew
  have CF : Hid (∀ Y, Below w6.heap.size w6 Y → Pbox Y w.heap.size m ∧ Pbox Y (w.heap.size + 1) o ∧ (∃ B, By Y B A5 xs.length c5 xs) ∧ ∃ B, By Y B A6 ys.length c6 ys) := hid fun Y hb => ⟨P0.out.below hb P0.out.lt, Q0.out.below hb Q0.out.lt, ⟨_, HX.out.below hb⟩, ⟨_, HY.out.below hb⟩⟩
  have hsb := HSB.out
  refine wp_region_held_drew (S := fun X => Pbox X w.heap.size m ∧ Pbox X (w.heap.size + 1) o ∧ (∃ B, By X B A5 xs.length c5 xs) ∧ ∃ B, By X B A6 ys.length c6 ys) (by kernel_rfl) (CF.out _ BX.out) (fun hHeld => ?_)
  refine wpAnyH_take (i := 0) (v := ?v1) rfl (by kernel_rfl) (by kernel_rfl) (by kernel_rfl) (fun _ _ _ h => h) (Or.inl ⟨by rfl, ?y1⟩) (by assumption) ?r1
  case y1 => (intro w0 hSw; (try dsimp only at hSw); (try simp only [List.getElem_toArray, List.getElem_cons_zero]); go_simp; try with_reducible rfl)
  (try simp only [Act.put, List.setIfInBounds_toArray, List.set_cons_zero, List.set_cons_succ, List.getElem_toArray, List.getElem_cons_zero])
  refine wpAnyH_take (i := 1) (v := ?v2) rfl (by kernel_rfl) (by kernel_rfl) (by kernel_rfl) (fun _ _ _ h => h) (Or.inl ⟨by rfl, ?y2⟩) (by assumption) ?r2
  case y2 => (intro w0 hSw; (try dsimp only at hSw); (try simp only [List.getElem_toArray, List.getElem_cons_succ, List.getElem_cons_zero]); go_simp; try with_reducible rfl)
  (try simp only [Act.put, List.setIfInBounds_toArray, List.set_cons_zero, List.set_cons_succ, List.getElem_toArray, List.getElem_cons_succ, List.getElem_cons_zero])
  refine wpAnyH_take (i := 2) (v := ?v3) rfl (by kernel_rfl) (by kernel_rfl) (by kernel_rfl) (fun _ _ _ h => h) (Or.inl ⟨by rfl, ?y3⟩) (by assumption) ?r3
  case y3 => (intro w0 hSw; (try dsimp only at hSw); (try simp only [List.getElem_toArray, List.getElem_cons_succ, List.getElem_cons_zero]); go_simp; try with_reducible rfl)
  (try simp only [Act.put, List.setIfInBounds_toArray, List.set_cons_zero, List.set_cons_succ, List.getElem_toArray, List.getElem_cons_succ, List.getElem_cons_zero])
  refine wpAnyH_take (i := 3) rfl (by kernel_rfl) (by kernel_rfl) (by kernel_rfl) (fun _ _ _ h => h) (yields_conv (by rfl) (.tmp 41) rfl rfl (fun X hX => hX.2.2.1)) hHeld ?_
  (try simp only [Act.put, List.setIfInBounds_toArray, List.set_cons_zero, List.set_cons_succ, List.getElem_toArray, List.getElem_cons_succ, List.getElem_cons_zero])
  refine wpAnyH_take (i := 4) (v := ?v4) rfl (by kernel_rfl) (by kernel_rfl) (by kernel_rfl) (fun _ _ _ h => h) (Or.inl ⟨by rfl, ?y4⟩) (by assumption) ?r4
  case y4 => (intro w0 hSw; (try dsimp only at hSw); (try simp only [List.getElem_toArray, List.getElem_cons_succ, List.getElem_cons_zero]); go_simp; try with_reducible rfl)
  (try simp only [Act.put, List.setIfInBounds_toArray, List.set_cons_zero, List.set_cons_succ, List.getElem_toArray, List.getElem_cons_succ, List.getElem_cons_zero])
  refine wpAnyH_take (i := 5) rfl (by kernel_rfl) (by kernel_rfl) (by kernel_rfl) (fun _ _ _ h => h) (yields_conv (by rfl) (.tmp 43) rfl rfl (fun X hX => hX.2.2.2)) hHeld ?_
  (try simp only [Act.put, List.setIfInBounds_toArray, List.set_cons_zero, List.set_cons_succ, List.getElem_toArray, List.getElem_cons_succ, List.getElem_cons_zero])
  refine wpAnyH_take (i := 6) (v := ?v5) rfl (by kernel_rfl) (by kernel_rfl) (by kernel_rfl) (fun _ _ _ h => h) (Or.inl ⟨by rfl, ?y5⟩) (by assumption) ?r5
  case y5 => (intro w0 hSw; (try dsimp only at hSw); (try simp only [List.getElem_toArray, List.getElem_cons_succ, List.getElem_cons_zero]); go_simp; try with_reducible rfl)
  (try simp only [Act.put, List.setIfInBounds_toArray, List.set_cons_zero, List.set_cons_succ, List.getElem_toArray, List.getElem_cons_succ, List.getElem_cons_zero])
  refine wpAnyH_take (i := 7) rfl (by kernel_rfl) (by kernel_rfl) (by kernel_rfl) (fun _ _ _ h => h) (yields_pload (by rfl) (.tmp 2) rfl w.heap.size m rfl (fun X hX => hX.1)) hHeld ?_
  (try simp only [Act.put, List.setIfInBounds_toArray, List.set_cons_zero, List.set_cons_succ, List.getElem_toArray, List.getElem_cons_succ, List.getElem_cons_zero])
  refine wpAnyH_take (i := 8) rfl (by kernel_rfl) (by kernel_rfl) (by kernel_rfl) (fun _ _ _ h => h) (yields_pload (by rfl) (.tmp 3) rfl (w.heap.size + 1) o rfl (fun X hX => hX.2.1)) hHeld ?_
  (try simp only [Act.put, List.setIfInBounds_toArray, List.set_cons_zero, List.set_cons_succ, List.getElem_toArray, List.getElem_cons_succ, List.getElem_cons_zero])
  have CS := hid (wsame_any (P := PSm m o l r t u) (H.out.on (B0.out.trans (BX.out.mono B0.out.size))) (HK.out.on (B0.out.trans (BX.out.mono B0.out.size))) (hid Iff.rfl))
  refine wpAnyH_ready (rs := [9]) (by kernel_rfl) (by simp) ?_
  refine AllReadyH.cons rfl (fun K' hK => ?_) AllReadyH.nil
  (try simp only [Act.put, List.setIfInBounds_toArray, List.set_cons_zero, List.set_cons_succ, List.getElem_toArray, List.getElem_cons_succ, List.getElem_cons_zero])
  go_simp
  refine (CS.out).mono ?_
  rintro e y9 ⟨q, rfl, hr, hb⟩
  replace BX := hid (BX.out.trans (hb.out.mono BX.out.size))
  obtain rfl : q = decide (xs = ys) := by
    by_cases e : xs = ys
    · rw [decide_eq_true e]; exact hr.out.2 (HI.out.2 e)
    · rw [decide_eq_false e]; cases q; rfl; exact absurd (HI.out.1 (hr.out.1 rfl)) e
  clear hb hr
  try dsimp only
  refine hK.out _ _ (CF.out _ BX.out) (fun hHeld => ?_)
  clear hK K'
  (try simp only [Act.put, List.setIfInBounds_toArray, List.set_cons_zero, List.set_cons_succ, List.getElem_toArray, List.getElem_cons_succ, List.getElem_cons_zero])
  clear hsb
  refine wpAnyH_take (i := 10) (v := ?v6) rfl (by kernel_rfl) (by kernel_rfl) (by kernel_rfl) (fun _ _ _ h => h) (Or.inl ⟨by rfl, ?y6⟩) (by assumption) ?r6
  case y6 => (intro w0 hSw; (try dsimp only at hSw); (try simp only [List.getElem_toArray, List.getElem_cons_succ, List.getElem_cons_zero]); go_simp; try with_reducible rfl)
  (try simp only [Act.put, List.setIfInBounds_toArray, List.set_cons_zero, List.set_cons_succ, List.getElem_toArray, List.getElem_cons_succ, List.getElem_cons_zero])
  refine wpAnyH_take (i := 11) (v := ?v7) rfl (by kernel_rfl) (by kernel_rfl) (by kernel_rfl) (fun _ _ _ h => h) (Or.inl ⟨by rfl, ?y7⟩) (by assumption) ?r7
  case y7 => (intro w0 hSw; (try dsimp only at hSw); (try simp only [List.getElem_toArray, List.getElem_cons_succ, List.getElem_cons_zero]); go_simp; try with_reducible rfl)
  (try simp only [Act.put, List.setIfInBounds_toArray, List.set_cons_zero, List.set_cons_succ, List.getElem_toArray, List.getElem_cons_succ, List.getElem_cons_zero])
  refine wpAnyH_take (i := 12) (v := ?v8) rfl (by kernel_rfl) (by kernel_rfl) (by kernel_rfl) (fun _ _ _ h => h) (Or.inl ⟨by rfl, ?y8⟩) (by assumption) ?r8
  case y8 => (intro w0 hSw; (try dsimp only at hSw); (try simp only [List.getElem_toArray, List.getElem_cons_succ, List.getElem_cons_zero]); go_simp; try with_reducible rfl)
  (try simp only [Act.put, List.setIfInBounds_toArray, List.set_cons_zero, List.set_cons_succ, List.getElem_toArray, List.getElem_cons_succ, List.getElem_cons_zero])
  refine wpAnyH_done (by kernel_rfl) ?_ _
  go_wp2
  go_ret
  exact ⟨by first | rfl | simp, B0.out.trans (BX.out.mono B0.out.size)⟩
end Go.Proofs.Ytbankbehfjogpaa
