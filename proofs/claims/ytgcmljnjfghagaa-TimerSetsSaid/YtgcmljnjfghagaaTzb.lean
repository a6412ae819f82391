/- The program's Set, Next, Due and Off. -/
import Derived.Test.YtgcmljnjfghagaaTza
import Derived.Laws.ResultCell
namespace Go.Proofs.Ytgcmljnjfghagaa.Tm
open Go.RowKit Go.Shelf Go.Lib
set_option maxRecDepth 100000

set_option maxHeartbeats 6400000 in
theorem pset_any {w : World} {B n c : Nat} {A : Option Addr} {l : List De} (t : De) (h : Ds w B A n c l) (hB : B ≤ w.heap.size) :
    Calls Try.prog 9 #[.slice A n c, dv t] w (LstE w (setL l t) (setE l t)) := by
  have HL := hid h.len
  have hm := h.max
  have hcap := h.cap
  obtain ⟨t1, t2⟩ := t
  obtain ⟨W, hW⟩ : ∃ W, W = w.alloc (.cells #[.int .i64 t1, .int .i64 t2] 23) := ⟨_, rfl⟩
  have B0 : Hid (Below w.heap.size w W) := hid (hW ▸ box1 w t1 t2)
  have X0 : Hid (W.heap[w.heap.size]? = some (.cells #[.int .i64 t1, .int .i64 t2] 23 (0, 0))) := hid (hW ▸ heap_alloc_new w _)
  have HW := hid hW
  have HD := hid ((h.mono hB).below B0.out)
  have HX : Hid (∀ X, Below W.heap.size W X → X.cell? ⟨w.heap.size, 0, none⟩ = some (.int .i64 t1) ∧ X.cell? ⟨w.heap.size, 1, none⟩ = some (.int .i64 t2)) := hid fun X hb => by
    have hx := (hb.block _ (lt_of_heap X0.out)).trans X0.out
    exact ⟨(cell_of_row X _ 0 _ _ (0, 0) hx).trans rfl, (cell_of_row X _ 1 _ _ (0, 0) hx).trans rfl⟩
  have C1 := hid (pcheck_any HD.out B0.out.size)
  clear hW h
  show Calls Try.prog 9 #[.slice A n c, .agg #[.int .i64 t1, .int .i64 t2]] w _
  have start : ∀ L er, setL l (t1, t2) = L → setE l (t1, t2) = er → True := fun _ _ _ _ => trivial
  clear start
  by_cases hk : chk l = 0
  case neg =>
    obtain ⟨e1, e2⟩ := set_chk (t := (t1, t2)) hk
    rw [e1, e2]
    generalize chk l = q at hk C1 ⊢
    clear e1 e2
    go_enter Try.func9, Try.ntmps9
    go_upto_region 1 with fail
    rw [← HW.out]
    go_wp2_with (first
      | (go_at_call 15; with_reducible refine C1.out.mono ?_; rintro e w1 ⟨rfl, hb1⟩)
      | fail)
    go_ret2
    exact LstE.none' (B0.out.trans (hb1.out.mono B0.out.size))
  obtain ⟨hl, ho⟩ := chk_zero hk
  have HK := hid hk
  rw [hk] at C1
  have CM := hid (fun X => mayBe_any (t1, t2) X)
  unfold Tel dv at CM
  generalize hmm : may (t1, t2) = mr at CM
  have HM := hid hmm
  clear hmm
  cases mr with
  | false =>
    obtain ⟨e1, e2⟩ := set_may HK.out HM.out
    rw [e1, e2]
    clear e1 e2 hk ho
    go_enter Try.func9, Try.ntmps9
    go_upto_region 1 with fail
    rw [← HW.out]
    go_wp2_with (first
      | (go_at_call 15; with_reducible refine C1.out.mono ?_; rintro e w1 ⟨rfl, hb1⟩
         obtain ⟨x0, x1⟩ := HX.out _ hb1.out)
      | (go_at_call 25; with_reducible refine (CM.out _).mono ?_; rintro e w2 ⟨rfl, hb2⟩)
      | fail)
    go_ret2
    exact LstE.none' ((B0.out.trans (hb1.out.mono B0.out.size)).trans (hb2.out.mono (Nat.le_trans B0.out.size hb1.out.size)))
  | true =>
    have CI : Hid (∀ X, Below W.heap.size W X → Calls Try.prog 26 #[.slice A n c, .agg #[.int .i64 t1, .int .i64 t2]] X (Tel X (decide ((t1, t2) ∈ l)))) := hid fun X hb => contains_any (t1, t2) (HD.out.below (hb.mono B0.out.size)) (Nat.le_trans B0.out.size hb.size)
    unfold Tel at CI
    by_cases hin : (t1, t2) ∈ l
    case pos =>
      obtain ⟨e1, e2⟩ := set_in HK.out HM.out hin
      rw [e1, e2]
      rw [decide_eq_true hin] at CI
      clear e1 e2 hk ho hin
      go_enter Try.func9, Try.ntmps9
      go_upto_region 1 with fail
      rw [← HW.out]
      go_wp2_with (first
        | (go_at_call 15; with_reducible refine C1.out.mono ?_; rintro e w1 ⟨rfl, hb1⟩
           obtain ⟨x0, x1⟩ := HX.out _ hb1.out)
        | (go_at_call 25; with_reducible refine (CM.out _).mono ?_; rintro e w2 ⟨rfl, hb2⟩
           have BZ := hid (hb1.out.trans (hb2.out.mono hb1.out.size))
           have CI2 := hid (CI.out w2 BZ.out)
           obtain ⟨y0, y1⟩ := HX.out w2 BZ.out)
        | (go_at_call 26; with_reducible refine CI2.out.mono ?_; rintro e w3 ⟨rfl, hb3⟩)
        | fail)
      go_ret2
      exact LstE.none' (B0.out.trans ((BZ.out.trans (hb3.out.mono BZ.out.size)).mono B0.out.size))
    case neg =>
      rw [decide_eq_false hin] at CI
      have HI := hid hin
      by_cases hf : 1024 ≤ n
      case pos =>
        obtain ⟨e1, e2⟩ := set_full HK.out HM.out hin (by rw [HL.out]; exact hf)
        rw [e1, e2]
        have hnz : ((n : Int) == 1024) = true := by simp; have := HL.out; omega
        clear e1 e2 hk ho hin hf
        go_enter Try.func9, Try.ntmps9
        go_upto_region 1 with fail
        rw [← HW.out]
        go_wp2_with (first
          | (go_at_call 15; with_reducible refine C1.out.mono ?_; rintro e w1 ⟨rfl, hb1⟩
             obtain ⟨x0, x1⟩ := HX.out _ hb1.out)
          | (go_at_call 25; with_reducible refine (CM.out _).mono ?_; rintro e w2 ⟨rfl, hb2⟩
             have BZ := hid (hb1.out.trans (hb2.out.mono hb1.out.size))
             have CI2 := hid (CI.out w2 BZ.out)
             obtain ⟨y0, y1⟩ := HX.out w2 BZ.out)
          | (go_at_call 26; with_reducible refine CI2.out.mono ?_; rintro e w3 ⟨rfl, hb3⟩)
          | fail)
        go_ret2
        exact LstE.none' (B0.out.trans ((BZ.out.trans (hb3.out.mono BZ.out.size)).mono B0.out.size))
      case neg =>
        obtain ⟨e1, e2⟩ := set_ok HK.out HM.out hin (by rw [HL.out]; exact hf)
        rw [e1, e2]
        have hnz : ((n : Int) == 1024) = false := by simp; omega
        have HO := hid ho
        have CG : Hid (∀ X, Below W.heap.size W X → Calls Try.prog 27 #[.func (.func 28) #[] #[], .slice A n c] X (FillS X fun r => r = l)) := hid fun X hb => fill_lay (HD.out.below (hb.mono B0.out.size)) (Nat.le_trans B0.out.size hb.size) (by rw [HL.out]; omega)
        unfold FillS at CG
        clear e1 e2 hk ho hin
        go_enter Try.func9, Try.ntmps9
        go_upto_region 1 with fail
        rw [← HW.out]
        go_wp2_with (first
          | (go_at_call 15; with_reducible refine C1.out.mono ?_; rintro e w1 ⟨rfl, hb1⟩
             obtain ⟨x0, x1⟩ := HX.out _ hb1.out)
          | (go_at_call 25; with_reducible refine (CM.out _).mono ?_; rintro e w2 ⟨rfl, hb2⟩
             have BZ := hid (hb1.out.trans (hb2.out.mono hb1.out.size))
             have CI2 := hid (CI.out w2 BZ.out)
             obtain ⟨y0, y1⟩ := HX.out w2 BZ.out)
          | (go_at_call 26; with_reducible refine CI2.out.mono ?_; rintro e w3 ⟨rfl, hb3⟩
             have BY := hid (BZ.out.trans (hb3.out.mono BZ.out.size))
             have CG2 := hid (CG.out w3 BY.out))
          | (go_at_call 27; with_reducible refine CG2.out.mono ?_; rintro e w4 ⟨g, rfl, H4⟩
             obtain ⟨v4, r4, q4, p4, b4⟩ := H4.out
             have hr : Hid (r4 = l) := hid p4
             have BX := hid (BY.out.trans (b4.mono BY.out.size))
             obtain ⟨z0, z1⟩ := HX.out w4 BX.out
             have hll := HL.out
             have CP : Hid (Calls Try.prog 29 #[.pointer (some ⟨g, 0, none⟩), .agg #[.int .i64 t1, .int .i64 t2]] w4 fun e w' => e = .returned (.tuple #[]) ∧ Hid (HeapS w4 w3.heap.size g ((t1, t2) :: r4) w')) := hid (put_any (t1, t2) q4 (by rw [hr.out]; omega) (by rw [hr.out]; exact st_heap HO.out.2.so))
             have HB4 := hid b4
             clear q4 p4 b4 H4 CG CG2 hll)
          | (go_at_call 29; with_reducible refine CP.out.mono ?_; rintro e w5 ⟨rfl, H5⟩
             obtain ⟨l5, ⟨v5, q5, b5⟩, p5, h5⟩ := H5.out
             have CE := hid (emptied_any q5 h5)
             unfold EmpS at CE
             have HP5 := hid (And.intro p5 b5)
             clear q5 b5 p5 h5 H5)
          | (go_at_call 30; with_reducible refine CE.out.mono ?_; rintro e w6 ⟨u6, s6, rfl, H6⟩)
          | fail)
        go_ret2
        obtain ⟨o6, p6, so6, b6⟩ := H6.out
        obtain ⟨p5, b5⟩ := HP5.out
        have B3 : Below w.heap.size w w3 := B0.out.trans (BY.out.mono B0.out.size)
        have B5 : Below w.heap.size w w5 := (B3.trans (HB4.out.mono B3.size)).trans (b5.mono B3.size)
        have hs : s6 = wi (t1, t2) l := set_wi HO.out.2 HI.out ((p6.trans p5).trans (by rw [hr.out])) so6
        refine ⟨u6, rfl, hid ⟨?_, B5.trans (b6.mono B3.size)⟩⟩
        rw [hs] at o6
        exact o6.mono B5.size
end Go.Proofs.Ytgcmljnjfghagaa.Tm
