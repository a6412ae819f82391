/- The document's Order, Set, Due, Off; Same; the law's spoil. -/
import Derived.Test.YtgcmljnjfghagaaTze
namespace Go.Proofs.Ytgcmljnjfghagaa.Tm
open Go.RowKit Go.Shelf Go.Lib
set_option maxRecDepth 100000

set_option maxHeartbeats 3200000 in
theorem rset_any {w : World} {B n c : Nat} {A : Option Addr} {l : List De} (t : De) (h : Ds w B A n c l) (hB : B ≤ w.heap.size) :
    Calls Try.prog 17 #[.slice A n c, dv t] w (LstE w (setL l t) (setE l t)) := by
  obtain ⟨t1, t2⟩ := t
  obtain ⟨W, hW⟩ : ∃ W, W = w.alloc (.cells #[.int .i64 t1, .int .i64 t2] 23) := ⟨_, rfl⟩
  have B0 : Hid (Below w.heap.size w W) := hid (hW ▸ box1 w t1 t2)
  have X0 : Hid (W.heap[w.heap.size]? = some (.cells #[.int .i64 t1, .int .i64 t2] 23 (0, 0))) := hid (hW ▸ heap_alloc_new w _)
  have HX : Hid (∀ X, Below W.heap.size W X → X.cell? ⟨w.heap.size, 0, none⟩ = some (.int .i64 t1) ∧ X.cell? ⟨w.heap.size, 1, none⟩ = some (.int .i64 t2)) := hid fun X hb => by
    have hx := (hb.block _ (lt_of_heap X0.out)).trans X0.out
    exact ⟨(cell_of_row X _ 0 _ _ (0, 0) hx).trans rfl, (cell_of_row X _ 1 _ _ (0, 0) hx).trans rfl⟩
  have HW := hid hW
  have HD := hid ((h.mono hB).below B0.out)
  have HL := hid h.len
  have hcap := h.cap
  have hm := h.max
  clear hW h
  have C1 := hid (rcheck_any HD.out B0.out.size)
  show Calls Try.prog 17 #[.slice A n c, .agg #[.int .i64 t1, .int .i64 t2]] w _
  by_cases hk : chk l = 0
  case neg =>
    obtain ⟨e1, e2⟩ := set_chk (t := (t1, t2)) hk
    rw [e1, e2]
    generalize chk l = q at hk C1 ⊢
    clear e1 e2
    go_enter Try.func17, Try.ntmps17
    go_upto_region 1 with fail
    rw [← HW.out]
    go_wp2_with (first
      | (go_at_call 22; with_reducible refine C1.out.mono ?_; rintro e w1 ⟨rfl, hb1⟩)
      | fail)
    go_ret2
    exact LstE.none' (B0.out.trans (hb1.out.mono B0.out.size))
  obtain ⟨hl, ho⟩ := chk_zero hk
  have HK := hid hk
  rw [hk] at C1
  have CM := hid (fun X => rmay_any (t1, t2) X)
  unfold Tel dv at CM
  generalize hmm : may (t1, t2) = mr at CM
  have HM := hid hmm
  clear hmm
  have HLl := hid hl
  cases mr with
  | false =>
    obtain ⟨e1, e2⟩ := set_may HK.out HM.out
    rw [e1, e2]
    clear e1 e2 hk ho hl
    go_enter Try.func17, Try.ntmps17
    go_upto_region 1 with fail
    rw [← HW.out]
    go_wp2_with (first
      | (go_at_call 22; with_reducible refine C1.out.mono ?_; rintro e w1 ⟨rfl, hb1⟩
         obtain ⟨x0, x1⟩ := HX.out _ hb1.out)
      | (go_at_call 41; with_reducible refine (CM.out _).mono ?_; rintro e w2 ⟨rfl, hb2⟩)
      | fail)
    go_ret2
    exact LstE.none' ((B0.out.trans (hb1.out.mono B0.out.size)).trans (hb2.out.mono (Nat.le_trans B0.out.size hb1.out.size)))
  | true =>
    have CI : Hid (∀ X, Below W.heap.size W X → Calls Try.prog 42 #[.slice A n c, .agg #[.int .i64 t1, .int .i64 t2]] X (Tel X (decide ((t1, t2) ∈ l)))) := hid fun X hb => rin_any (t1, t2) (HD.out.below (hb.mono B0.out.size)) (Nat.le_trans B0.out.size hb.size)
    unfold Tel at CI
    have CW : Hid (∀ X, Below W.heap.size W X → Calls Try.prog 43 #[.slice A n c, .agg #[.int .i64 t1, .int .i64 t2]] X fun e w' => ∃ v, e = .returned v ∧ Hid (Od w' X.heap.size v (wi (t1, t2) l) ∧ Below X.heap.size X w')) := hid fun X hb => rwith_any (t1, t2) (HD.out.below (hb.mono B0.out.size)) (Nat.le_trans B0.out.size hb.size) (by have := HLl.out; omega)
    by_cases hin : (t1, t2) ∈ l
    case pos =>
      obtain ⟨e1, e2⟩ := set_in HK.out HM.out hin
      rw [e1, e2]
      rw [decide_eq_true hin] at CI
      clear e1 e2 hk ho hin hl
      go_enter Try.func17, Try.ntmps17
      go_upto_region 1 with fail
      rw [← HW.out]
      go_wp2_with (first
        | (go_at_call 22; with_reducible refine C1.out.mono ?_; rintro e w1 ⟨rfl, hb1⟩
           obtain ⟨x0, x1⟩ := HX.out _ hb1.out)
        | (go_at_call 41; with_reducible refine (CM.out _).mono ?_; rintro e w2 ⟨rfl, hb2⟩
           have BZ := hid (hb1.out.trans (hb2.out.mono hb1.out.size))
           have CI2 := hid (CI.out w2 BZ.out)
           obtain ⟨y0, y1⟩ := HX.out w2 BZ.out)
        | (go_at_call 42; with_reducible refine CI2.out.mono ?_; rintro e w3 ⟨rfl, hb3⟩)
        | fail)
      go_ret2
      exact LstE.none' (B0.out.trans ((BZ.out.trans (hb3.out.mono BZ.out.size)).mono B0.out.size))
    case neg =>
      rw [decide_eq_false hin] at CI
      by_cases hf : 1024 ≤ n
      case pos =>
        obtain ⟨e1, e2⟩ := set_full HK.out HM.out hin (by rw [HL.out]; exact hf)
        rw [e1, e2]
        have hnz : (n : Int) ≥ 1024 := by omega
        clear e1 e2 hk ho hin hf hl
        go_enter Try.func17, Try.ntmps17
        go_upto_region 1 with fail
        rw [← HW.out]
        go_wp2_with (first
          | (go_at_call 22; with_reducible refine C1.out.mono ?_; rintro e w1 ⟨rfl, hb1⟩
             obtain ⟨x0, x1⟩ := HX.out _ hb1.out)
          | (go_at_call 41; with_reducible refine (CM.out _).mono ?_; rintro e w2 ⟨rfl, hb2⟩
             have BZ := hid (hb1.out.trans (hb2.out.mono hb1.out.size))
             have CI2 := hid (CI.out w2 BZ.out)
             obtain ⟨y0, y1⟩ := HX.out w2 BZ.out)
          | (go_at_call 42; with_reducible refine CI2.out.mono ?_; rintro e w3 ⟨rfl, hb3⟩)
          | fail)
        go_ret2
        exact LstE.none' (B0.out.trans ((BZ.out.trans (hb3.out.mono BZ.out.size)).mono B0.out.size))
      case neg =>
        obtain ⟨e1, e2⟩ := set_ok HK.out HM.out hin (by rw [HL.out]; exact hf)
        rw [e1, e2]
        have hnz : ¬ (n : Int) ≥ 1024 := by omega
        clear e1 e2 hk ho hin hf hl
        go_enter Try.func17, Try.ntmps17
        go_upto_region 1 with fail
        rw [← HW.out]
        go_wp2_with (first
          | (go_at_call 22; with_reducible refine C1.out.mono ?_; rintro e w1 ⟨rfl, hb1⟩
             obtain ⟨x0, x1⟩ := HX.out _ hb1.out)
          | (go_at_call 41; with_reducible refine (CM.out _).mono ?_; rintro e w2 ⟨rfl, hb2⟩
             have BZ := hid (hb1.out.trans (hb2.out.mono hb1.out.size))
             have CI2 := hid (CI.out w2 BZ.out)
             obtain ⟨y0, y1⟩ := HX.out w2 BZ.out)
          | (go_at_call 42; with_reducible refine CI2.out.mono ?_; rintro e w3 ⟨rfl, hb3⟩
             have BY := hid (BZ.out.trans (hb3.out.mono BZ.out.size))
             have CW2 := hid (CW.out w3 BY.out)
             obtain ⟨v0, v1⟩ := HX.out w3 BY.out)
          | (go_at_call 43; with_reducible refine CW2.out.mono ?_; rintro e w4 ⟨u, rfl, H4⟩)
          | fail)
        go_ret2
        have B3 : Below w.heap.size w w3 := B0.out.trans (BY.out.mono B0.out.size)
        exact ⟨u, rfl, hid ⟨H4.out.1.mono B3.size, B3.trans (H4.out.2.mono B3.size)⟩⟩

set_option maxHeartbeats 6400000 in
theorem rorder_any {w : World} {B n c : Nat} {A : Option Addr} {l : List De} (h : Ds w B A n c l) (hB : B ≤ w.heap.size) :
    Calls Try.prog 24 #[.slice A n c] w (LstE w (orL l) (orE l)) := by
  have HD := hid (h.mono hB)
  have HL := hid h.len
  have hm := h.max
  have hcap := h.cap
  by_cases hn : 1024 < n
  · obtain ⟨e1, e2⟩ := or_many (l := l) (by rw [h.len]; exact hn)
    rw [e1, e2]
    have hz : (n : Int) > 1024 := by omega
    clear h
    go_enter Try.func24, Try.ntmps24
    go_wp2
    go_ret2
    exact LstE.none' (Below.refl _ _)
  have hz : ¬ (n : Int) > 1024 := by omega
  have HNL := hid (show ¬ 1024 < l.length by rw [h.len]; exact hn)
  obtain ⟨oe, hoe⟩ : ∃ oe, oe = orE l := ⟨_, rfl⟩
  obtain ⟨ol, hol⟩ : ∃ ol, ol = orL l := ⟨_, rfl⟩
  have HO := hid (And.intro hoe hol)
  rw [← hoe, ← hol]
  clear h hoe hol
  go_enter Try.func24, Try.ntmps24
  go_wp2
  go_loopg [4] n (fun gg s4 wr => ∃ kk : Nat, s4 = .int .i64 kk ∧ kk ≤ n ∧ n - kk ≤ gg ∧ Hid (Below w.heap.size w wr) ∧ Hid (∀ j e, j < kk → l[j]? = some e → may e = true))
  case atStart => exact ⟨0, rfl, Nat.zero_le _, by omega, hid (Below.refl _ w), hid (fun j _ hj => absurd hj (Nat.not_lt_zero _))⟩
  case round =>
    obtain ⟨kk, rfl, hk, hg, BW, HA⟩ := hrel
    by_cases hkn : kk < n
    case pos =>
      have hlt : (kk : Int) < (n : Int) := by omega
      obtain ⟨x, hx⟩ := HD.out.get hkn
      have HXK := hid hx
      obtain ⟨b, off, rfl, hb, hcc⟩ := (HD.out.below BW.out).at_ (by omega)
      obtain ⟨c1, c2⟩ := hcc kk x hx
      have CM := hid (rmay_any x wr)
      obtain ⟨x1, x2⟩ := x
      change wr.cell? ⟨b, off + kk * 2, none⟩ = some (.int .i64 x1) at c1
      change wr.cell? ⟨b, off + kk * 2 + 1, none⟩ = some (.int .i64 x2) at c2
      unfold Tel dv at CM
      generalize hmm : may (x1, x2) = mr at CM
      have HM := hid hmm
      clear hmm hx hcc
      cases mr with
      | false =>
        go_wp2_with (first
          | (go_at_call 41; with_reducible refine CM.out.mono ?_; rintro e w2 ⟨rfl, hb2⟩)
          | fail)
        go_ret2
        obtain ⟨e1, e2⟩ := or_bad HNL.out (List.any_eq_true.2 ⟨_, List.mem_of_getElem? HXK.out, by rw [HM.out]; rfl⟩)
        rw [HO.out.1, HO.out.2, e1, e2]
        exact LstE.none' (BW.out.trans (hb2.out.mono BW.out.size))
      | true =>
        go_wp2_with (first
          | (go_at_call 41; with_reducible refine CM.out.mono ?_; rintro e w2 ⟨rfl, hb2⟩)
          | fail)
        go_roundg (n - (kk + 1))
        case measure => omega
        case rel =>
          refine ⟨kk + 1, by go_num, by omega, by omega, hid (BW.out.trans (hb2.out.mono BW.out.size)), hid (fun j e hj he => ?_)⟩
          by_cases hjk : j = kk
          · subst hjk
            rw [HXK.out] at he
            injection he with he
            rw [← he]
            exact HM.out
          · exact HA.out j e (by omega) he
    have hlt : ¬ (kk : Int) < (n : Int) := by omega
    obtain rfl : kk = n := by omega
    obtain ⟨e1, e2⟩ := or_ok HNL.out (List.any_eq_false.2 fun x hx => by
      obtain ⟨j, hj⟩ := List.mem_iff_getElem?.1 hx
      rw [HA.out j x (by have := (List.getElem?_eq_some_iff.1 hj).1; have := HL.out; omega) hj]
      simp)
    have HE := hid (And.intro e1 e2)
    clear e1 e2
    go_wp2
    go_loopg [5, 6] kk (fun gg s5 s6 wq => ∃ (i : Nat) (A2 : Option Addr) (n2 c2 : Nat) (s : List De), s5 = .slice A2 n2 c2 ∧ s6 = .int .i64 i ∧ i ≤ kk ∧ kk - i ≤ gg ∧ Hid (Below w.heap.size w wq) ∧ Hid (Od wq w.heap.size (.slice A2 n2 c2) s) ∧ Hid (s = ordL (l.take i)))
    case atStart => exact ⟨0, none, 0, 0, [], rfl, rfl, Nat.zero_le _, by omega, BW, hid (Od.nil _ _), hid rfl⟩
    case round =>
      obtain ⟨i, A2, n2, c2, s, rfl, rfl, hi, hig, BQ, HS, HQ⟩ := hrel
      by_cases hin : i < kk
      case neg =>
        have hlt2 : ¬ (i : Int) < (kk : Int) := by omega
        obtain rfl : i = kk := by omega
        go_wp2
        go_ret2
        rw [HO.out.1, HO.out.2, HE.out.1, HE.out.2]
        have ht : l.take i = l := List.take_of_length_le (by rw [HL.out]; exact Nat.le_refl _)
        refine ⟨_, rfl, hid ⟨?_, BQ.out⟩⟩
        have hs := HQ.out
        rw [ht] at hs
        rw [← hs]
        exact HS.out
      have hlt2 : (i : Int) < (kk : Int) := by omega
      obtain ⟨x, hx⟩ := HD.out.get hin
      have HXK := hid hx
      obtain ⟨b, off, rfl, hb, hcc⟩ := (HD.out.below BQ.out).at_ (by omega)
      obtain ⟨c1, c2'⟩ := hcc i x hx
      obtain ⟨x1, x2⟩ := x
      change wr.cell? ⟨b, off + i * 2, none⟩ = some (.int .i64 x1) at c1
      change wr.cell? ⟨b, off + i * 2 + 1, none⟩ = some (.int .i64 x2) at c2'
      have hsl : Hid (s.length < 99999) := hid (by
        have h1 := (ordL_ok (l.take i)).2.2
        have h2 := HNL.out
        rw [HQ.out]
        rw [List.length_take] at h1
        omega)
      have CI : Hid (Calls Try.prog 42 #[.slice A2 n2 c2, .agg #[.int .i64 x1, .int .i64 x2]] wr (Tel wr (decide ((x1, x2) ∈ s)))) := hid (rin_any (x1, x2) HS.out.ds (Nat.le_refl _))
      unfold Tel at CI
      have hbq : b < wr.heap.size := Nat.lt_of_lt_of_le hb BQ.out.size
      clear hx hcc
      by_cases hms : (x1, x2) ∈ s
      case pos =>
        rw [decide_eq_true hms] at CI
        have HMS := hid hms
        clear hms
        go_wp2_with (first
          | (go_at_call 42; with_reducible refine CI.out.mono ?_; rintro e w2 ⟨rfl, hb2⟩)
          | fail)
        go_roundg (kk - (i + 1))
        case measure => omega
        case rel =>
          refine ⟨i + 1, A2, n2, c2, s, rfl, by go_num, by omega, by omega, hid (BQ.out.trans (hb2.out.mono BQ.out.size)), hid (HS.out.below hb2.out), hid ?_⟩
          rw [take_snoc HXK.out, ordL_snoc, ← HQ.out]
          unfold ordS
          rw [if_pos HMS.out]
      case neg =>
        rw [decide_eq_false hms] at CI
        have HMS := hid hms
        clear hms
        have CW : Hid (∀ X, Below wr.heap.size wr X → Calls Try.prog 43 #[.slice A2 n2 c2, .agg #[.int .i64 x1, .int .i64 x2]] X fun e w' => ∃ v, e = .returned v ∧ Hid (Od w' X.heap.size v (wi (x1, x2) s) ∧ Below X.heap.size X w')) := hid fun X hb => rwith_any (x1, x2) (HS.out.below hb).ds (Nat.le_refl _) hsl.out
        go_wp2_with (first
          | (go_at_call 42; with_reducible refine CI.out.mono ?_; rintro e w2 ⟨rfl, hb2⟩
             have d1 := (hb2.out.cell (p := ⟨b, off + i * 2, none⟩) hbq).trans c1
             have d2 := (hb2.out.cell (p := ⟨b, off + i * 2 + 1, none⟩) hbq).trans c2'
             have CW2 := hid (CW.out w2 hb2.out))
          | (go_at_call 43; with_reducible refine CW2.out.mono ?_; rintro e w3 ⟨u3, rfl, H3⟩
             obtain ⟨A3, n3, c3, rfl, _, _⟩ := od_letter H3.out.1)
          | fail)
        go_roundg (kk - (i + 1))
        case measure => omega
        case rel =>
          have BQ2 := BQ.out.trans (hb2.out.mono BQ.out.size)
          refine ⟨i + 1, A3, n3, c3, _, rfl, by go_num, by omega, by omega, hid (BQ2.trans (H3.out.2.mono BQ2.size)), hid (H3.out.1.mono BQ2.size), hid ?_⟩
          rw [take_snoc HXK.out, ordL_snoc, ← HQ.out]
          unfold ordS
          rw [if_neg HMS.out]

/-- What Parted leaves. -/
def TwoL (w : World) (L M : List De) (e : Ending) (w' : World) : Prop := ∃ u v, e = .returned (.tuple #[u, v]) ∧ Hid (Od w' w.heap.size u L ∧ Od w' w.heap.size v M ∧ Far2 u v ∧ Below w.heap.size w w')
theorem Far2.symm {u v : Value} (h : Far2 u v) : Far2 v u := fun b hb hb2 => h b hb2 hb
theorem Far2.kept {X Y : World} {N M : Nat} {u v u' : Value} {l s : List De} (f : Far2 u v) (a : App X Y N u u' l) (hv : Od X M v s) : Od Y M v s ∧ Far2 u' v := by
  refine ⟨hv.kept a.grown ?_, fun b hb hb2 => ?_⟩
  · cases hq : v.ownBlock with
    | none => exact .inl rfl
    | some b => exact .inr (fun e => f b e.symm hq)
  · rcases a.at_ b hb with e | e
    · exact f b e hb2
    · have := (own_lt hv b hb2).2
      omega

set_option maxHeartbeats 6400000 in
theorem rparted_any {w : World} {B n c : Nat} {A : Option Addr} {l : List De} (now : Int) (h : Ds w B A n c l) (hB : B ≤ w.heap.size) (hl : l.length < 99999) :
    Calls Try.prog 44 #[.slice A n c, .int .i64 now] w (TwoL w (l.filter fun t => decide (t.1 ≤ now)) (l.filter fun t => decide (t.1 > now))) := by
  have HD := hid (h.mono hB)
  have HL := hid h.len
  have hm := h.max
  have hcap := h.cap
  have hn5 : n < 99999 := by rw [← h.len]; exact hl
  clear h hl
  go_enter Try.func44, Try.ntmps44
  go_wp2
  go_loopg [6, 7, 8] n (fun gg s6 s7 s8 wr => ∃ (kk : Nat) (A2 : Option Addr) (n2 c2 : Nat) (A3 : Option Addr) (n3 c3 : Nat) (s r : List De), s6 = .slice A2 n2 c2 ∧ s7 = .slice A3 n3 c3 ∧ s8 = .int .i64 kk ∧ kk ≤ n ∧ n - kk ≤ gg ∧ Hid (Below w.heap.size w wr) ∧ Hid (Od wr w.heap.size (.slice A2 n2 c2) s ∧ Od wr w.heap.size (.slice A3 n3 c3) r ∧ Far2 (.slice A2 n2 c2) (.slice A3 n3 c3)) ∧ Hid (s = (l.take kk).filter (fun t => decide (t.1 ≤ now)) ∧ r = (l.take kk).filter (fun t => decide (t.1 > now))))
  case atStart => exact ⟨0, none, 0, 0, none, 0, 0, [], [], rfl, rfl, rfl, Nat.zero_le _, by omega, hid (Below.refl _ w), hid ⟨Od.nil _ _, Od.nil _ _, fun b hb => by simp [Value.ownBlock] at hb⟩, hid ⟨rfl, rfl⟩⟩
  case round =>
    obtain ⟨kk, A2, n2, c2, A3, n3, c3, s, r, rfl, rfl, rfl, hk, hg, BW, HO, HP⟩ := hrel
    by_cases hkn : kk < n
    case neg =>
      have hlt : ¬ (kk : Int) < (n : Int) := by omega
      obtain rfl : kk = n := by omega
      go_wp2
      go_ret2
      have ht : l.take kk = l := List.take_of_length_le (by rw [HL.out]; exact Nat.le_refl _)
      have h1 := HP.out
      rw [ht] at h1
      refine ⟨_, _, rfl, hid ⟨?_, ?_, HO.out.2.2, BW.out⟩⟩
      · rw [← h1.1]; exact HO.out.1
      · rw [← h1.2]; exact HO.out.2.1
    have hlt : (kk : Int) < (n : Int) := by omega
    obtain ⟨x, hx⟩ := HD.out.get hkn
    have HXK := hid hx
    obtain ⟨b, off, rfl, hb, hcc⟩ := (HD.out.below BW.out).at_ (by omega)
    obtain ⟨c1, c2'⟩ := hcc kk x hx
    obtain ⟨x1, x2⟩ := x
    change wr.cell? ⟨b, off + kk * 2, none⟩ = some (.int .i64 x1) at c1
    change wr.cell? ⟨b, off + kk * 2 + 1, none⟩ = some (.int .i64 x2) at c2'
    have hs1 : Hid (s.length < 100000) := hid (by
      rw [HP.out.1]
      have h1 := List.length_filter_le (fun t : De => decide (t.1 ≤ now)) (l.take kk)
      rw [List.length_take] at h1
      omega)
    have hs2 : Hid (r.length < 100000) := hid (by
      rw [HP.out.2]
      have h1 := List.length_filter_le (fun t : De => decide (t.1 > now)) (l.take kk)
      rw [List.length_take] at h1
      omega)
    clear hx hcc
    by_cases hd : x1 ≤ now
    case pos =>
      have OA := hid HO.out.1
      go_wp2_with (first
        | (at_builtin; refine list_app1 (d1 := x1) (d2 := x2) rfl _ _ rfl rfl rfl OA.out hs1.out BW.out.size ?_; intro A4 n4 c4 w4 H4)
        | fail)
      go_roundg (n - (kk + 1))
      case measure => omega
      case rel =>
        obtain ⟨k1, k2⟩ := HO.out.2.2.kept H4.out HO.out.2.1
        refine ⟨kk + 1, A4, n4, c4, A3, n3, c3, s ++ [(x1, x2)], r, rfl, rfl, by go_num, by omega, by omega, hid (H4.out.bel OA.out BW.out BW.out.size), hid ⟨H4.out.own, k1, k2⟩, hid ⟨?_, ?_⟩⟩
        · rw [take_snoc HXK.out, List.filter_append, HP.out.1, List.filter_cons_of_pos (by simpa using hd), List.filter_nil]
        · rw [take_snoc HXK.out, List.filter_append, HP.out.2, List.filter_cons_of_neg (by simpa using hd), List.filter_nil, List.append_nil]
    case neg =>
      have OA := hid HO.out.2.1
      go_wp2_with (first
        | (at_builtin; refine list_app1 (d1 := x1) (d2 := x2) rfl _ _ rfl rfl rfl OA.out hs2.out BW.out.size ?_; intro A4 n4 c4 w4 H4)
        | fail)
      go_roundg (n - (kk + 1))
      case measure => omega
      case rel =>
        obtain ⟨k1, k2⟩ := HO.out.2.2.symm.kept H4.out HO.out.1
        refine ⟨kk + 1, A2, n2, c2, A4, n4, c4, s, r ++ [(x1, x2)], rfl, rfl, by go_num, by omega, by omega, hid (H4.out.bel OA.out BW.out BW.out.size), hid ⟨k1, H4.out.own, k2.symm⟩, hid ⟨?_, ?_⟩⟩
        · rw [take_snoc HXK.out, List.filter_append, HP.out.1, List.filter_cons_of_neg (by simpa using hd), List.filter_nil, List.append_nil]
        · rw [take_snoc HXK.out, List.filter_append, HP.out.2, List.filter_cons_of_pos (by simp; omega), List.filter_nil]

set_option maxHeartbeats 3200000 in
theorem rdue_any {w : World} {B n c : Nat} {A : Option Addr} {l : List De} (now : Int) (h : Ds w B A n c l) (hB : B ≤ w.heap.size) :
    Calls Try.prog 19 #[.slice A n c, .int .i64 now] w (TwoE w (duA l now) (duB l now) (duE l now)) := by
  have HD := hid (h.mono hB)
  have C1 := hid (rcheck_any h hB)
  clear h
  by_cases hk : chk l = 0
  case neg =>
    obtain ⟨e1, e2, e3⟩ := du_chk (now := now) hk
    rw [e1, e2, e3]
    generalize chk l = q at hk C1 ⊢
    clear e1 e2 e3
    go_enter Try.func19, Try.ntmps19
    go_wp2_with (first
      | (go_at_call 22; with_reducible refine C1.out.mono ?_; rintro e w1 ⟨rfl, hb1⟩)
      | fail)
    go_ret3
    exact TwoE.none' hb1.out
  obtain ⟨hl, ho⟩ := chk_zero hk
  have HK := hid hk
  rw [hk] at C1
  by_cases hx : 0 ≤ now ∧ now ≤ 2147483647
  case neg =>
    obtain ⟨e1, e2, e3⟩ := du_arg HK.out hx
    rw [e1, e2, e3]
    by_cases h0 : now < 0
    · clear e1 e2 e3 hk ho hl hx
      go_enter Try.func19, Try.ntmps19
      go_wp2_with (first
        | (go_at_call 22; with_reducible refine C1.out.mono ?_; rintro e w1 ⟨rfl, hb1⟩)
        | fail)
      go_ret3
      exact TwoE.none' hb1.out
    · have h1 : now > 2147483647 := by omega
      clear e1 e2 e3 hk ho hl hx
      go_enter Try.func19, Try.ntmps19
      go_wp2_with (first
        | (go_at_call 22; with_reducible refine C1.out.mono ?_; rintro e w1 ⟨rfl, hb1⟩)
        | fail)
      go_ret3
      exact TwoE.none' hb1.out
  obtain ⟨e1, e2, e3⟩ := du_ok HK.out hx
  rw [e1, e2, e3]
  have h0 : ¬ now < 0 := by omega
  have h1 : ¬ now > 2147483647 := by omega
  have CP : Hid (∀ X, Below w.heap.size w X → Calls Try.prog 44 #[.slice A n c, .int .i64 now] X (TwoL X (l.filter fun t => decide (t.1 ≤ now)) (l.filter fun t => decide (t.1 > now)))) := hid fun X hb => rparted_any now (HD.out.below hb) hb.size (by omega)
  unfold TwoL at CP
  clear e1 e2 e3 hk ho hl hx
  go_enter Try.func19, Try.ntmps19
  go_wp2_with (first
    | (go_at_call 22; with_reducible refine C1.out.mono ?_; rintro e w1 ⟨rfl, hb1⟩; have CP2 := hid (CP.out w1 hb1.out))
    | (go_at_call 44; with_reducible refine CP2.out.mono ?_; rintro e w2 ⟨u, v, rfl, H2⟩)
    | fail)
  go_ret3
  obtain ⟨o1, o2, f, b⟩ := H2.out
  exact ⟨u, v, rfl, hid ⟨o1.mono hb1.out.size, o2.mono hb1.out.size, f, hb1.out.trans (b.mono hb1.out.size)⟩⟩

set_option maxHeartbeats 6400000 in
theorem roff_any {w : World} {B n c : Nat} {A : Option Addr} {l : List De} (x : Int) (h : Ds w B A n c l) (hB : B ≤ w.heap.size) :
    Calls Try.prog 20 #[.slice A n c, .int .i64 x] w (LstE w (ofL l x) (ofE l x)) := by
  have HD := hid (h.mono hB)
  have HL := hid h.len
  have hm := h.max
  have hcap := h.cap
  have C1 := hid (rcheck_any h hB)
  clear h
  by_cases hk : chk l = 0
  case neg =>
    obtain ⟨e1, e2⟩ := of_chk (n := x) hk
    rw [e1, e2]
    generalize chk l = q at hk C1 ⊢
    clear e1 e2
    go_enter Try.func20, Try.ntmps20
    go_wp2_with (first
      | (go_at_call 22; with_reducible refine C1.out.mono ?_; rintro e w1 ⟨rfl, hb1⟩)
      | fail)
    go_ret2
    exact LstE.none' hb1.out
  obtain ⟨hl, ho⟩ := chk_zero hk
  have HK := hid hk
  rw [hk] at C1
  by_cases hx : 0 ≤ x ∧ x ≤ 1048575
  case neg =>
    obtain ⟨e1, e2⟩ := of_arg HK.out hx
    rw [e1, e2]
    by_cases h0 : x < 0
    · clear e1 e2 hk ho hl hx
      go_enter Try.func20, Try.ntmps20
      go_wp2_with (first
        | (go_at_call 22; with_reducible refine C1.out.mono ?_; rintro e w1 ⟨rfl, hb1⟩)
        | fail)
      go_ret2
      exact LstE.none' hb1.out
    · have h1 : x > 1048575 := by omega
      clear e1 e2 hk ho hl hx
      go_enter Try.func20, Try.ntmps20
      go_wp2_with (first
        | (go_at_call 22; with_reducible refine C1.out.mono ?_; rintro e w1 ⟨rfl, hb1⟩)
        | fail)
      go_ret2
      exact LstE.none' hb1.out
  obtain ⟨e1, e2⟩ := of_ok HK.out hx
  rw [e1, e2]
  have h0 : ¬ x < 0 := by omega
  have h1 : ¬ x > 1048575 := by omega
  have HN := hid (show n ≤ 1024 by rw [← HL.out]; exact hl)
  clear e1 e2 hk ho hl hx
  go_enter Try.func20, Try.ntmps20
  go_wp2_with (first
    | (go_at_call 22; with_reducible refine C1.out.mono ?_; rintro e w1 ⟨rfl, hb1⟩)
    | fail)
  go_loopg [7, 8] n (fun gg s7 s8 wr => ∃ (kk : Nat) (A2 : Option Addr) (n2 c2 : Nat) (s : List De), s7 = .slice A2 n2 c2 ∧ s8 = .int .i64 kk ∧ kk ≤ n ∧ n - kk ≤ gg ∧ Hid (Below w.heap.size w wr) ∧ Hid (Od wr w.heap.size (.slice A2 n2 c2) s) ∧ Hid (s = (l.take kk).filter (fun t => !(t.2 == x))))
  case atStart => exact ⟨0, none, 0, 0, [], rfl, rfl, Nat.zero_le _, by omega, hid hb1.out, hid (Od.nil _ _), hid rfl⟩
  case round =>
    obtain ⟨kk, A2, n2, c2, s, rfl, rfl, hk, hg, BW, HO, HP⟩ := hrel
    by_cases hkn : kk < n
    case neg =>
      have hlt : ¬ (kk : Int) < (n : Int) := by omega
      obtain rfl : kk = n := by omega
      go_wp2
      go_ret2
      have ht : l.take kk = l := List.take_of_length_le (by rw [HL.out]; exact Nat.le_refl _)
      have h1 := HP.out
      rw [ht] at h1
      refine ⟨_, rfl, hid ⟨?_, BW.out⟩⟩
      rw [← h1]; exact HO.out
    have hlt : (kk : Int) < (n : Int) := by omega
    obtain ⟨y, hy⟩ := HD.out.get hkn
    have HXK := hid hy
    obtain ⟨b, off, rfl, hb, hcc⟩ := (HD.out.below BW.out).at_ (by omega)
    obtain ⟨c1, c2'⟩ := hcc kk y hy
    obtain ⟨y1, y2⟩ := y
    change wr.cell? ⟨b, off + kk * 2, none⟩ = some (.int .i64 y1) at c1
    change wr.cell? ⟨b, off + kk * 2 + 1, none⟩ = some (.int .i64 y2) at c2'
    have hs1 : Hid (s.length < 100000) := hid (by
      rw [HP.out]
      have h1 := List.length_filter_le (fun t : De => !(t.2 == x)) (l.take kk)
      have := HN.out
      rw [List.length_take] at h1
      omega)
    clear hy hcc
    by_cases hd : y2 = x
    case pos =>
      have hq : (y2 != x) = false := by simp [hd]
      have HQ := hid hd
      clear hd
      go_wp2
      go_roundg (n - (kk + 1))
      case measure => omega
      case rel =>
        refine ⟨kk + 1, A2, n2, c2, s, rfl, by go_num, by omega, by omega, BW, HO, hid ?_⟩
        rw [take_snoc HXK.out, List.filter_append, HP.out, List.filter_cons_of_neg (by simp [HQ.out]), List.filter_nil, List.append_nil]
    case neg =>
      have hq : (y2 != x) = true := by simp [hd]
      have HQ := hid hd
      clear hd
      go_wp2_with (first
        | (at_builtin; refine list_app1 (d1 := y1) (d2 := y2) rfl _ _ rfl rfl rfl HO.out hs1.out BW.out.size ?_; intro A4 n4 c4 w4 H4)
        | fail)
      go_roundg (n - (kk + 1))
      case measure => omega
      case rel =>
        refine ⟨kk + 1, A4, n4, c4, s ++ [(y1, y2)], rfl, by go_num, by omega, by omega, hid (H4.out.bel HO.out BW.out BW.out.size), hid H4.out.own, hid ?_⟩
        rw [take_snoc HXK.out, List.filter_append, HP.out, List.filter_cons_of_pos (by simp [HQ.out]), List.filter_nil]
end Go.Proofs.Ytgcmljnjfghagaa.Tm
