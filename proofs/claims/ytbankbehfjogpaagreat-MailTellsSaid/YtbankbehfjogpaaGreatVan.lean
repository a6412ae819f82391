/- Package mail: whether a mail's numbers may be. -/
/- Package mail: whether edges and tags may be. -/
/- Package mail: whether what kinds use may be. -/
/- The program's Same of two mails: words. -/
/- The program's Same of two mails: numbers that differ, 1. -/
/- The program's Same of two mails: numbers that differ, 2. -/
/- The program's Same of two mails: what is left. -/
/- The program's Same of two mails. -/
import Derived.Test.YtbankbehfjogpaaGreatVae
import Derived.Test.YtbankbehfjogpaaGreatVab
import Derived.Test.YtbankbehfjogpaaGreatVaa
namespace Go.Proofs.YtbankbehfjogpaaGreat
open Go.RowKit Go.Shelf Go.Lib
set_option maxRecDepth 100000
def inB (n most : Int) : Bool := decide (0 ≤ n ∧ n ≤ most)
theorem inB_iff {n most : Int} : inB n most = true ↔ 0 ≤ n ∧ n ≤ most := decide_eq_true_iff
theorem within_any (n most : Int) (w : World) : Calls Tryz.prog 74 #[.int .i64 n, .int .i64 most] w fun e w' => e = .returned (.bool (inB n most)) ∧ w = w' := by
  by_cases h1 : 0 ≤ n
  · by_cases h2 : n ≤ most
    · have hq : inB n most = true := inB_iff.2 ⟨h1, h2⟩
      rw [hq]
      go_enter Tryz.func74, Tryz.ntmps74
      go_wp2
      go_ret
      exact ⟨by simp, rfl⟩
    · have hq : inB n most = false := by cases h : inB n most; rfl; exact absurd (inB_iff.1 h).2 h2
      rw [hq]
      go_enter Tryz.func74, Tryz.ntmps74
      go_wp2
      go_ret
      exact ⟨by simp, rfl⟩
  · have hq : inB n most = false := by cases h : inB n most; rfl; exact absurd (inB_iff.1 h).1 h1
    rw [hq]
    go_enter Tryz.func74, Tryz.ntmps74
    go_wp2
    go_ret
    exact ⟨by simp, rfl⟩
def HMay (m : Md) : Prop := (1 ≤ m.kd ∧ m.kd ≤ 6) ∧ (0 ≤ m.fr ∧ m.fr ≤ 7) ∧ (0 ≤ m.tu ∧ m.tu ≤ 7) ∧ (0 ≤ m.ep ∧ m.ep ≤ 65535) ∧ (0 ≤ m.nu ∧ m.nu ≤ 1048575)
set_option maxHeartbeats 12800000 in
theorem mayHead_any {w : World} {m : Md} {P : Prop} (HP : Hid (P ↔ HMay m)) :
    Calls Tryz.prog 35 #[.agg (mdc m)] w (Says w P) := by
  obtain ⟨W, hW⟩ : ∃ W, W = w.alloc (.cells (mdc m) 31) := ⟨_, rfl⟩
  have K := hid (show Below w.heap.size w W from hW ▸ (Below.refl _ w).alloc (Nat.le_refl _) _)
  have X := hid (show Pbox W w.heap.size m from hW ▸ heap_alloc_new w _)
  have HW := hid hW
  clear hW
  have x0 := X.out.c0
  have x1 := X.out.c1
  have x2 := X.out.c2
  have x3 := X.out.c3
  have x4 := X.out.c4
  clear X
  cases h0 : decide ((1 : Int) ≤ (m.kd : Int)) with
  | false =>
    have HN := hid (show ¬ P from fun hp => by obtain ⟨⟨a1, a2⟩, a3, a4, a5, a6⟩ := HP.out.1 hp; have := a1; simp at h0; omega)
    go_enter Tryz.func35, Tryz.ntmps35
    go_upto_region 1 with fail
    rw [← HW.out]
    clear HW
    go_wp2_with (first | (go_at_call 74; with_reducible refine (within_any _ _ _).mono ?_; rintro e w' ⟨rfl, rfl⟩) | fail)
    all_goals
      go_ret
      exact ⟨false, by first | rfl | simp_all, hid ⟨(fun h => by cases h), fun hp => absurd hp HN.out⟩, K⟩
  | true =>
  cases h1 : decide ((m.kd : Int) ≤ 6) with
  | false =>
    have HN := hid (show ¬ P from fun hp => by obtain ⟨⟨a1, a2⟩, a3, a4, a5, a6⟩ := HP.out.1 hp; have := a2; simp at h1; omega)
    go_enter Tryz.func35, Tryz.ntmps35
    go_upto_region 1 with fail
    rw [← HW.out]
    clear HW
    go_wp2_with (first | (go_at_call 74; with_reducible refine (within_any _ _ _).mono ?_; rintro e w' ⟨rfl, rfl⟩) | fail)
    all_goals
      go_ret
      exact ⟨false, by first | rfl | simp_all, hid ⟨(fun h => by cases h), fun hp => absurd hp HN.out⟩, K⟩
  | true =>
  cases h2 : inB m.fr 7 with
  | false =>
    have HN := hid (show ¬ P from fun hp => by obtain ⟨⟨a1, a2⟩, a3, a4, a5, a6⟩ := HP.out.1 hp; rw [inB_iff.2 a3] at h2; cases h2)
    go_enter Tryz.func35, Tryz.ntmps35
    go_upto_region 1 with fail
    rw [← HW.out]
    clear HW
    go_wp2_with (first | (go_at_call 74; with_reducible refine (within_any _ _ _).mono ?_; rintro e w' ⟨rfl, rfl⟩) | fail)
    all_goals
      go_ret
      exact ⟨false, by first | rfl | simp_all, hid ⟨(fun h => by cases h), fun hp => absurd hp HN.out⟩, K⟩
  | true =>
  cases h3 : inB m.tu 7 with
  | false =>
    have HN := hid (show ¬ P from fun hp => by obtain ⟨⟨a1, a2⟩, a3, a4, a5, a6⟩ := HP.out.1 hp; rw [inB_iff.2 a4] at h3; cases h3)
    go_enter Tryz.func35, Tryz.ntmps35
    go_upto_region 1 with fail
    rw [← HW.out]
    clear HW
    go_wp2_with (first | (go_at_call 74; with_reducible refine (within_any _ _ _).mono ?_; rintro e w' ⟨rfl, rfl⟩) | fail)
    all_goals
      go_ret
      exact ⟨false, by first | rfl | simp_all, hid ⟨(fun h => by cases h), fun hp => absurd hp HN.out⟩, K⟩
  | true =>
  cases h4 : inB m.ep 65535 with
  | false =>
    have HN := hid (show ¬ P from fun hp => by obtain ⟨⟨a1, a2⟩, a3, a4, a5, a6⟩ := HP.out.1 hp; rw [inB_iff.2 a5] at h4; cases h4)
    go_enter Tryz.func35, Tryz.ntmps35
    go_upto_region 1 with fail
    rw [← HW.out]
    clear HW
    go_wp2_with (first | (go_at_call 74; with_reducible refine (within_any _ _ _).mono ?_; rintro e w' ⟨rfl, rfl⟩) | fail)
    all_goals
      go_ret
      exact ⟨false, by first | rfl | simp_all, hid ⟨(fun h => by cases h), fun hp => absurd hp HN.out⟩, K⟩
  | true =>
  cases h5 : inB m.nu 1048575 with
  | false =>
    have HN := hid (show ¬ P from fun hp => by obtain ⟨⟨a1, a2⟩, a3, a4, a5, a6⟩ := HP.out.1 hp; rw [inB_iff.2 a6] at h5; cases h5)
    go_enter Tryz.func35, Tryz.ntmps35
    go_upto_region 1 with fail
    rw [← HW.out]
    clear HW
    go_wp2_with (first | (go_at_call 74; with_reducible refine (within_any _ _ _).mono ?_; rintro e w' ⟨rfl, rfl⟩) | fail)
    all_goals
      go_ret
      exact ⟨false, by first | rfl | simp_all, hid ⟨(fun h => by cases h), fun hp => absurd hp HN.out⟩, K⟩
  | true =>
  have HY := hid (show P from HP.out.2 ⟨⟨by simp at h0; omega, by simp at h1; omega⟩, inB_iff.1 h2, inB_iff.1 h3, inB_iff.1 h4, inB_iff.1 h5⟩)
  go_enter Tryz.func35, Tryz.ntmps35
  go_upto_region 1 with fail
  rw [← HW.out]
  clear HW
  go_wp2_with (first | (go_at_call 74; with_reducible refine (within_any _ _ _).mono ?_; rintro e w' ⟨rfl, rfl⟩) | fail)
  all_goals
    go_ret
    exact ⟨true, by first | rfl | simp_all, hid ⟨fun _ => HY.out, fun _ => rfl⟩, K⟩
open Go.RowKit Go.Shelf Go.Lib
set_option maxHeartbeats 3200000 in
theorem mayEdge_any (ha : Bool) (mn mx : Int) (w : World) :
    Calls Tryz.prog 77 #[.agg #[.bool ha, .int .i64 mn, .int .i64 mx]] w (Says w (EMay ha mn mx)) := by
  have B0 := hid ((Below.refl w.heap.size w).alloc (Nat.le_refl _) (.cells #[.bool ha, .int .i64 mn, .int .i64 mx] 29))
  have hg := grdE
  cases ha with
  | false =>
    have hE := hid (show EMay false mn mx ↔ mn = 0 ∧ mx = 0 from Iff.rfl)
    by_cases h : (false = false ∧ mn = 0 ∧ mx = 0)
    · have hq : ∀ W, Sem.run Tryz.prog (binOp .eql 29 (.agg #[.bool false, .int .i64 mn, .int .i64 mx]) (.agg #[.bool false, .int .i64 0, .int .i64 0])) W = .ok (.bool true) W := fun W => by rw [eqlE, decide_eq_true h]
      have HH := hid h
      clear h
      go_enter Tryz.func77, Tryz.ntmps77
      go_wp2
      go_ret
      exact ⟨true, rfl, hid ⟨fun _ => hE.out.2 HH.out.2, fun _ => rfl⟩, B0⟩
    · have hq : ∀ W, Sem.run Tryz.prog (binOp .eql 29 (.agg #[.bool false, .int .i64 mn, .int .i64 mx]) (.agg #[.bool false, .int .i64 0, .int .i64 0])) W = .ok (.bool false) W := fun W => by rw [eqlE, decide_eq_false h]
      have HH := hid h
      clear h
      go_enter Tryz.func77, Tryz.ntmps77
      go_wp2
      go_ret
      exact ⟨false, rfl, hid ⟨(fun h => by cases h), fun h => absurd ⟨by simp, hE.out.1 h⟩ HH.out⟩, B0⟩
  | true =>
    have hE := hid (show EMay true mn mx ↔ -2147483647 ≤ mn ∧ mn ≤ mx ∧ mx ≤ 2147483647 from Iff.rfl)
    clear hg
    cases h1 : decide ((-2147483647 : Int) ≤ mn) with
    | false =>
      have HN := hid (show ¬ EMay true mn mx from fun h => by have := (hE.out.1 h).1; simp at h1; omega)
      go_enter Tryz.func77, Tryz.ntmps77
      go_wp2
      all_goals
        go_ret
        exact ⟨false, by first | rfl | simp_all, hid ⟨(fun h => by cases h), fun hp => absurd hp HN.out⟩, B0⟩
    | true =>
    cases h2 : decide (mn ≤ mx) with
    | false =>
      have HN := hid (show ¬ EMay true mn mx from fun h => by have := (hE.out.1 h).2.1; simp at h2; omega)
      go_enter Tryz.func77, Tryz.ntmps77
      go_wp2
      all_goals
        go_ret
        exact ⟨false, by first | rfl | simp_all, hid ⟨(fun h => by cases h), fun hp => absurd hp HN.out⟩, B0⟩
    | true =>
    cases h3 : decide (mx ≤ 2147483647) with
    | false =>
      have HN := hid (show ¬ EMay true mn mx from fun h => by have := (hE.out.1 h).2.2; simp at h3; omega)
      go_enter Tryz.func77, Tryz.ntmps77
      go_wp2
      all_goals
        go_ret
        exact ⟨false, by first | rfl | simp_all, hid ⟨(fun h => by cases h), fun hp => absurd hp HN.out⟩, B0⟩
    | true =>
      have HY := hid (show EMay true mn mx from hE.out.2 ⟨by simpa using h1, by simpa using h2, by simpa using h3⟩)
      go_enter Tryz.func77, Tryz.ntmps77
      go_wp2
      all_goals
        go_ret
        exact ⟨true, by first | rfl | simp_all, hid ⟨fun _ => HY.out, fun _ => rfl⟩, B0⟩
set_option maxHeartbeats 3200000 in
theorem mayTags_any {w : World} {B n c : Nat} {A : Option Addr} {t : Nat → Nat} (h : Rd w B A n c t) (hB : B ≤ w.heap.size) :
    Calls Tryz.prog 78 #[.slice A n c] w (Says w (LMay n t)) := by
  have mixed : Tryz.prog.follows .mixedOrders = true := by kernel_rfl
  have H := hid (h.mono hB)
  have hcap := h.cap
  have hmax := h.max
  clear h
  by_cases h8 : n ≤ 8
  case neg =>
    have h8z : ¬ (n : Int) ≤ 8 := by omega
    go_enter Tryz.func78, Tryz.ntmps78
    go_wp2
    go_ret
    exact ⟨false, rfl, hid ⟨(fun h => by cases h), fun hl => absurd hl.1 h8⟩, hid (Below.refl _ _)⟩
  have h8z : (n : Int) ≤ 8 := by omega
  go_enter Tryz.func78, Tryz.ntmps78
  go_wp2
  go_loopg [3] (n + 1) (fun gg s3 wr => ∃ i : Nat, 1 ≤ i ∧ n - i < gg ∧ s3 = .int .i64 i ∧ Hid (i ≤ n + 1) ∧ Hid (Below w.heap.size w wr) ∧ Hid (∀ j, j + 1 < i → j + 1 < n → t j < t (j + 1)))
  case atStart => exact ⟨1, Nat.le_refl _, by omega, rfl, hid (by omega), hid (Below.refl _ w), hid (fun j h1 => by omega)⟩
  case round =>
    obtain ⟨i, hi, hg, rfl, HI, BW, HJ⟩ := hrel
    by_cases hlt : i < n
    · have hltz : (i : Int) < (n : Int) := by omega
      obtain ⟨b, off, rfl, hb, hc⟩ := H.out.at_ (by omega)
      have c0 := (BW.out.cell (p := ⟨b, off + i, none⟩) hb).trans (hc i hlt)
      have c1 := (BW.out.cell (p := ⟨b, off + (i - 1), none⟩) hb).trans (hc (i - 1) (by omega))
      have hw1 : IntKind.i64.wrap ((i : Int) - 1) = ((i - 1 : Nat) : Int) := by rw [IntKind.wrap_i64]; omega
      have hz1 : ((i - 1 : Nat) : Int) < (n : Int) := by omega
      obtain ⟨y, hy⟩ : ∃ y, y = t i := ⟨_, rfl⟩
      obtain ⟨x, hx⟩ : ∃ x, x = t (i - 1) := ⟨_, rfl⟩
      obtain ⟨k, hk⟩ : ∃ k, k = i - 1 := ⟨_, rfl⟩
      rw [← hy] at c0
      rw [← hk] at hx
      rw [← hk] at c1 hw1 hz1
      rw [← hx] at c1
      have HXY := hid (And.intro hy (And.intro hx hk))
      clear hc hx hy hk
      by_cases hxy : y ≤ x
      · have hxz : (y : Int) ≤ (x : Int) := by omega
        go_wp2_with fail
        go_quiet_o (fail)
        go_wp2
        go_ret
        exact ⟨false, rfl, hid ⟨(fun h => by cases h), fun hl => by
          obtain ⟨e1, e2, e3⟩ := HXY.out
          have := hl.2 k (by omega)
          rw [show k + 1 = i by omega] at this
          omega⟩, hid (below_drewN BW.out _)⟩
      · have hxz : ¬ (y : Int) ≤ (x : Int) := by omega
        go_wp2_with fail
        go_quiet_o (fail)
        go_wp2
        go_roundg (n - i)
        case measure => omega
        case rel =>
          refine ⟨i + 1, by omega, by omega, by go_num, hid (by omega), hid (below_drewN BW.out _), hid (fun j h1 h2 => ?_)⟩
          obtain ⟨e1, e2, e3⟩ := HXY.out
          by_cases hj : j + 1 = i
          · obtain rfl : j = k := by omega
            rw [hj, ← e1, ← e2]
            omega
          · exact HJ.out j (by omega) h2
    · have hltz : ¬ (i : Int) < (n : Int) := by omega
      go_wp2
      go_ret
      exact ⟨true, rfl, hid ⟨fun _ => ⟨h8, fun j hj => HJ.out j (by have := HI.out; omega) hj⟩, fun _ => rfl⟩, BW⟩
open Go.RowKit Go.Shelf Go.Lib
def UMay (m : Md) (l : List De) (t : Nat → Nat) : Prop := (0 ≤ m.ab ∧ m.ab ≤ 1048575) ∧ MMay m.D ∧ kchk l = 0 ∧ EMay m.ha m.mn m.mx ∧ LMay m.k t
set_option maxHeartbeats 12800000 in
theorem mayUse_any {w : World} {m : Md} {l : List De} {t : Nat → Nat} {P : Prop} (h : Prd w w.heap.size m l t) (HP : Hid (P ↔ UMay m l t)) :
    Calls Tryz.prog 36 #[.agg (mdc m)] w (Says w P) := by
  obtain ⟨W, hW⟩ : ∃ W, W = w.alloc (.cells (mdc m) 31) := ⟨_, rfl⟩
  have K := hid (show Below w.heap.size w W from hW ▸ (Below.refl _ w).alloc (Nat.le_refl _) _)
  have X := hid (show Pbox W w.heap.size m from hW ▸ heap_alloc_new w _)
  have HW := hid hW
  have H := hid h
  clear hW h
  have x5 := X.out.c5
  cases h1 : inB m.ab 1048575 with
  | false =>
    have HN := hid h1
    go_enter Tryz.func36, Tryz.ntmps36
    go_upto_region 1 with fail
    rw [← HW.out]
    clear HW
    go_wp2_with (first | (go_at_call 74; with_reducible refine (within_any _ _ _).mono ?_; rintro e w' ⟨rfl, rfl⟩) | fail)
    all_goals
      go_ret
      exact ⟨false, by first | rfl | simp_all, hid ⟨(fun h => by cases h), fun hp => by obtain ⟨a1, a2, a3, a4, a5⟩ := HP.out.1 hp; rw [inB_iff.2 a1] at h1; cases h1⟩, K⟩
  | true =>
  have H1 := hid (inB_iff.1 h1)
  have CM := hid (mcheck_any (H.out.on K.out).ms)
  go_enter Tryz.func36, Tryz.ntmps36
  go_upto_region 1 with fail
  rw [← HW.out]
  clear HW
  go_wp2_with (first | (go_at_call 74; with_reducible refine (within_any _ _ _).mono ?_; rintro e w' ⟨rfl, rfl⟩) | (with_reducible refine wp_gmass (by kernel_rfl) (.tmp 7) rfl w.heap.size m rfl X.out ?_) | fail)
  refine CM.out.mono ?_
  rintro e v1 ⟨er, rfl, hr, hr2, hb⟩
  clear x5 CM
  replace K := hid (K.out.trans (hb.out.mono K.out.size))
  replace X := hid (X.out.below hb.out X.out.lt)
  clear hb
  by_cases h2 : er = 0
  case neg =>
    have hz : (er == 0) = false := by simpa using h2
    have H2 := hid h2
    clear h2
    go_wp2
    all_goals
      go_ret
      exact ⟨false, by first | rfl | simp_all, hid ⟨(fun h => by cases h), fun hp => by obtain ⟨a1, a2, a3, a4, a5⟩ := HP.out.1 hp; exact absurd (hr.out.2 a2) H2.out⟩, K⟩
  have H2 := hid (hr.out.1 h2)
  subst h2
  clear hr hr2
  have x19 := X.out.c19
  have CL := hid (kcheck_any (H.out.on K.out).ls (Nat.le_refl _))
  go_wp2_with fail
  refine CL.out.mono ?_
  rintro e v2 ⟨rfl, hb⟩
  clear x19 CL
  replace K := hid (K.out.trans (hb.out.mono K.out.size))
  replace X := hid (X.out.below hb.out X.out.lt)
  clear hb
  obtain ⟨er, her⟩ : ∃ er, er = kchk l := ⟨_, rfl⟩
  rw [← her]
  have HER := hid her
  clear her
  by_cases h3 : er = 0
  case neg =>
    have hz : (er == 0) = false := by simpa using h3
    have H3 := hid h3
    clear h3
    go_wp2
    all_goals
      go_ret
      exact ⟨false, by first | rfl | simp_all, hid ⟨(fun h => by cases h), fun hp => by obtain ⟨a1, a2, a3, a4, a5⟩ := HP.out.1 hp; exact absurd (HER.out.trans a3) H3.out⟩, K⟩
  have H3 := hid (HER.out.symm.trans h3)
  subst h3
  have CE := hid (fun W => mayEdge_any m.ha m.mn m.mx W)
  go_wp2_with (first | (with_reducible refine wp_gedge (by kernel_rfl) (.tmp 19) rfl w.heap.size m rfl X.out ?_) | fail)
  refine (CE.out _).mono ?_
  rintro e v3 ⟨q, rfl, hr, hb⟩
  clear CE
  replace K := hid (K.out.trans (hb.out.mono K.out.size))
  replace X := hid (X.out.below hb.out X.out.lt)
  clear hb
  cases q with
  | false =>
    go_wp2
    all_goals
      go_ret
      exact ⟨false, by first | rfl | simp_all, hid ⟨(fun h => by cases h), fun hp => by obtain ⟨a1, a2, a3, a4, a5⟩ := HP.out.1 hp; exact absurd (hr.out.2 a4) (by decide)⟩, K⟩
  | true =>
  have H4 := hid (hr.out.1 rfl)
  clear hr
  have x23 := X.out.c23
  have CT := hid (mayTags_any (H.out.on K.out).tg (Nat.le_refl _))
  go_wp2_with fail
  refine CT.out.mono ?_
  rintro e v4 ⟨q, rfl, hr, hb⟩
  replace K := hid (K.out.trans (hb.out.mono K.out.size))
  clear CT x23 hb
  cases q with
  | false =>
    go_wp2
    all_goals
      go_ret
      exact ⟨false, by first | rfl | simp_all, hid ⟨(fun h => by cases h), fun hp => by obtain ⟨a1, a2, a3, a4, a5⟩ := HP.out.1 hp; exact absurd (hr.out.2 a5) (by decide)⟩, K⟩
  | true =>
  have H5 := hid (hr.out.1 rfl)
  clear hr
  go_wp2
  go_ret
  exact ⟨true, rfl, hid ⟨fun _ => HP.out.2 ⟨H1.out, H2.out, H3.out, H4.out, H5.out⟩, fun _ => rfl⟩, K⟩
open Go.RowKit Go.Shelf Go.Lib
theorem wdsame_says {w : World} {n c m d : Nat} {A D : Option Addr} {l r : List De} (h : Ds w w.heap.size A n c l) (k : Ds w w.heap.size D m d r) {P : Prop} (HP : Hid (P ↔ l = r)) :
    Calls Tryz.prog 42 #[.slice A n c, .slice D m d] w (Says w P) :=
  (kdsame_any h k (Nat.le_refl _) (Nat.le_refl _)).mono fun _ _ ⟨he, hb⟩ => ⟨_, he, hid (decide_eq_true_iff.trans HP.out.symm), hb⟩
theorem wtags_says {w : World} {n c m d : Nat} {A D : Option Addr} {f h : Nat → Nat} (ha : Rd w w.heap.size A n c f) (hb : Rd w w.heap.size D m d h) {P : Prop} (HP : Hid (P ↔ n = m ∧ ∀ j, f j = h j)) :
    Calls Tryz.prog 43 #[.slice A n c, .slice D m d] w (Says w P) :=
  (equal_any ha hb).mono fun _ _ ⟨r, he, hr, q, hq⟩ => ⟨r, he, hid (hr.trans HP.out.symm), hid (hq ▸ below_drewN (Below.refl _ _) q)⟩
open Go.RowKit Go.Shelf Go.Lib
set_option maxHeartbeats 12800000 in
theorem wsame_bad0 {w : World} {m o : Md} {P : Prop} (HN : Hid (¬ P)) (h0 : ((m.kd : Int) == (o.kd : Int)) = false) :
    Calls Tryz.prog 14 #[.agg (mdc m), .agg (mdc o)] w (Says w P) := by
  obtain ⟨W, hW⟩ : ∃ W, W = (w.alloc (.cells (mdc m) 31)).alloc (.cells (mdc o) 31) := ⟨_, rfl⟩
  have K := hid (show Below w.heap.size w W from hW ▸ ((Below.refl _ w).alloc (Nat.le_refl _) _).alloc (by simp) _)
  have X := hid (show Pbox W w.heap.size m from hW ▸ pheap0 w _ _)
  have Y := hid (show Pbox W (w.heap.size + 1) o from hW ▸ pheap1 w _ _)
  have HW := hid hW
  clear hW
  have x0 := X.out.c0
  have y0 := Y.out.c0
  clear X Y
  go_enter Tryz.func14, Tryz.ntmps14
  go_upto_region 1 with fail
  rw [← HW.out]
  clear HW
  go_wp2
  all_goals
    go_ret
    exact ⟨false, rfl, hid ⟨(fun h => by cases h), fun hp => absurd hp HN.out⟩, K⟩
set_option maxHeartbeats 12800000 in
theorem wsame_bad1 {w : World} {m o : Md} {P : Prop} (HN : Hid (¬ P)) (h0 : ((m.kd : Int) == (o.kd : Int)) = true) (h1 : (m.fr == o.fr) = false) :
    Calls Tryz.prog 14 #[.agg (mdc m), .agg (mdc o)] w (Says w P) := by
  obtain ⟨W, hW⟩ : ∃ W, W = (w.alloc (.cells (mdc m) 31)).alloc (.cells (mdc o) 31) := ⟨_, rfl⟩
  have K := hid (show Below w.heap.size w W from hW ▸ ((Below.refl _ w).alloc (Nat.le_refl _) _).alloc (by simp) _)
  have X := hid (show Pbox W w.heap.size m from hW ▸ pheap0 w _ _)
  have Y := hid (show Pbox W (w.heap.size + 1) o from hW ▸ pheap1 w _ _)
  have HW := hid hW
  clear hW
  have x0 := X.out.c0
  have y0 := Y.out.c0
  have x1 := X.out.c1
  have y1 := Y.out.c1
  clear X Y
  go_enter Tryz.func14, Tryz.ntmps14
  go_upto_region 1 with fail
  rw [← HW.out]
  clear HW
  go_wp2
  all_goals
    go_ret
    exact ⟨false, rfl, hid ⟨(fun h => by cases h), fun hp => absurd hp HN.out⟩, K⟩
set_option maxHeartbeats 12800000 in
theorem wsame_bad2 {w : World} {m o : Md} {P : Prop} (HN : Hid (¬ P)) (h0 : ((m.kd : Int) == (o.kd : Int)) = true) (h1 : (m.fr == o.fr) = true) (h2 : (m.tu == o.tu) = false) :
    Calls Tryz.prog 14 #[.agg (mdc m), .agg (mdc o)] w (Says w P) := by
  obtain ⟨W, hW⟩ : ∃ W, W = (w.alloc (.cells (mdc m) 31)).alloc (.cells (mdc o) 31) := ⟨_, rfl⟩
  have K := hid (show Below w.heap.size w W from hW ▸ ((Below.refl _ w).alloc (Nat.le_refl _) _).alloc (by simp) _)
  have X := hid (show Pbox W w.heap.size m from hW ▸ pheap0 w _ _)
  have Y := hid (show Pbox W (w.heap.size + 1) o from hW ▸ pheap1 w _ _)
  have HW := hid hW
  clear hW
  have x0 := X.out.c0
  have y0 := Y.out.c0
  have x1 := X.out.c1
  have y1 := Y.out.c1
  have x2 := X.out.c2
  have y2 := Y.out.c2
  clear X Y
  go_enter Tryz.func14, Tryz.ntmps14
  go_upto_region 1 with fail
  rw [← HW.out]
  clear HW
  go_wp2
  all_goals
    go_ret
    exact ⟨false, rfl, hid ⟨(fun h => by cases h), fun hp => absurd hp HN.out⟩, K⟩
open Go.RowKit Go.Shelf Go.Lib
set_option maxHeartbeats 12800000 in
theorem wsame_bad3 {w : World} {m o : Md} {P : Prop} (HN : Hid (¬ P)) (h0 : ((m.kd : Int) == (o.kd : Int)) = true) (h1 : (m.fr == o.fr) = true) (h2 : (m.tu == o.tu) = true) (h3 : (m.ep == o.ep) = false) :
    Calls Tryz.prog 14 #[.agg (mdc m), .agg (mdc o)] w (Says w P) := by
  obtain ⟨W, hW⟩ : ∃ W, W = (w.alloc (.cells (mdc m) 31)).alloc (.cells (mdc o) 31) := ⟨_, rfl⟩
  have K := hid (show Below w.heap.size w W from hW ▸ ((Below.refl _ w).alloc (Nat.le_refl _) _).alloc (by simp) _)
  have X := hid (show Pbox W w.heap.size m from hW ▸ pheap0 w _ _)
  have Y := hid (show Pbox W (w.heap.size + 1) o from hW ▸ pheap1 w _ _)
  have HW := hid hW
  clear hW
  have x0 := X.out.c0
  have y0 := Y.out.c0
  have x1 := X.out.c1
  have y1 := Y.out.c1
  have x2 := X.out.c2
  have y2 := Y.out.c2
  have x3 := X.out.c3
  have y3 := Y.out.c3
  clear X Y
  go_enter Tryz.func14, Tryz.ntmps14
  go_upto_region 1 with fail
  rw [← HW.out]
  clear HW
  go_wp2
  all_goals
    go_ret
    exact ⟨false, rfl, hid ⟨(fun h => by cases h), fun hp => absurd hp HN.out⟩, K⟩
set_option maxHeartbeats 12800000 in
theorem wsame_bad4 {w : World} {m o : Md} {P : Prop} (HN : Hid (¬ P)) (h0 : ((m.kd : Int) == (o.kd : Int)) = true) (h1 : (m.fr == o.fr) = true) (h2 : (m.tu == o.tu) = true) (h3 : (m.ep == o.ep) = true) (h4 : (m.nu == o.nu) = false) :
    Calls Tryz.prog 14 #[.agg (mdc m), .agg (mdc o)] w (Says w P) := by
  obtain ⟨W, hW⟩ : ∃ W, W = (w.alloc (.cells (mdc m) 31)).alloc (.cells (mdc o) 31) := ⟨_, rfl⟩
  have K := hid (show Below w.heap.size w W from hW ▸ ((Below.refl _ w).alloc (Nat.le_refl _) _).alloc (by simp) _)
  have X := hid (show Pbox W w.heap.size m from hW ▸ pheap0 w _ _)
  have Y := hid (show Pbox W (w.heap.size + 1) o from hW ▸ pheap1 w _ _)
  have HW := hid hW
  clear hW
  have x0 := X.out.c0
  have y0 := Y.out.c0
  have x1 := X.out.c1
  have y1 := Y.out.c1
  have x2 := X.out.c2
  have y2 := Y.out.c2
  have x3 := X.out.c3
  have y3 := Y.out.c3
  have x4 := X.out.c4
  have y4 := Y.out.c4
  clear X Y
  go_enter Tryz.func14, Tryz.ntmps14
  go_upto_region 1 with fail
  rw [← HW.out]
  clear HW
  go_wp2
  all_goals
    go_ret
    exact ⟨false, rfl, hid ⟨(fun h => by cases h), fun hp => absurd hp HN.out⟩, K⟩
set_option maxHeartbeats 12800000 in
theorem wsame_bad5 {w : World} {m o : Md} {P : Prop} (HN : Hid (¬ P)) (h0 : ((m.kd : Int) == (o.kd : Int)) = true) (h1 : (m.fr == o.fr) = true) (h2 : (m.tu == o.tu) = true) (h3 : (m.ep == o.ep) = true) (h4 : (m.nu == o.nu) = true) (h5 : (m.ab == o.ab) = false) :
    Calls Tryz.prog 14 #[.agg (mdc m), .agg (mdc o)] w (Says w P) := by
  obtain ⟨W, hW⟩ : ∃ W, W = (w.alloc (.cells (mdc m) 31)).alloc (.cells (mdc o) 31) := ⟨_, rfl⟩
  have K := hid (show Below w.heap.size w W from hW ▸ ((Below.refl _ w).alloc (Nat.le_refl _) _).alloc (by simp) _)
  have X := hid (show Pbox W w.heap.size m from hW ▸ pheap0 w _ _)
  have Y := hid (show Pbox W (w.heap.size + 1) o from hW ▸ pheap1 w _ _)
  have HW := hid hW
  clear hW
  have x0 := X.out.c0
  have y0 := Y.out.c0
  have x1 := X.out.c1
  have y1 := Y.out.c1
  have x2 := X.out.c2
  have y2 := Y.out.c2
  have x3 := X.out.c3
  have y3 := Y.out.c3
  have x4 := X.out.c4
  have y4 := Y.out.c4
  have x5 := X.out.c5
  have y5 := Y.out.c5
  clear X Y
  go_enter Tryz.func14, Tryz.ntmps14
  go_upto_region 1 with fail
  rw [← HW.out]
  clear HW
  go_wp2
  all_goals
    go_ret
    exact ⟨false, rfl, hid ⟨(fun h => by cases h), fun hp => absurd hp HN.out⟩, K⟩
open Go.RowKit Go.Shelf Go.Lib
set_option maxHeartbeats 12800000 in
theorem wsame_rest {w : World} {m o : Md} {l r : List De} {t u : Nat → Nat} {P : Prop} (h : Prd w w.heap.size m l t) (k : Prd w w.heap.size o r u) (HP : Hid (P ↔ PSm m o l r t u)) (hi : ISm m o) (h0 : ((m.kd : Int) == (o.kd : Int)) = true) (h1 : (m.fr == o.fr) = true) (h2 : (m.tu == o.tu) = true) (h3 : (m.ep == o.ep) = true) (h4 : (m.nu == o.nu) = true) (h5 : (m.ab == o.ab) = true) :
    Calls Tryz.prog 14 #[.agg (mdc m), .agg (mdc o)] w (Says w P) := by
  obtain ⟨W, hW⟩ : ∃ W, W = (w.alloc (.cells (mdc m) 31)).alloc (.cells (mdc o) 31) := ⟨_, rfl⟩
  have K := hid (show Below w.heap.size w W from hW ▸ ((Below.refl _ w).alloc (Nat.le_refl _) _).alloc (by simp) _)
  have X := hid (show Pbox W w.heap.size m from hW ▸ pheap0 w _ _)
  have Y := hid (show Pbox W (w.heap.size + 1) o from hW ▸ pheap1 w _ _)
  have HW := hid hW
  clear hW
  have H := hid h
  have H2 := hid k
  have HI := hid hi
  clear h k hi
  have x0 := X.out.c0
  have y0 := Y.out.c0
  have x1 := X.out.c1
  have y1 := Y.out.c1
  have x2 := X.out.c2
  have y2 := Y.out.c2
  have x3 := X.out.c3
  have y3 := Y.out.c3
  have x4 := X.out.c4
  have y4 := Y.out.c4
  have x5 := X.out.c5
  have y5 := Y.out.c5
  have CM := hid (msame_raw (P := ∀ k, k < 4 → Dsm (m.D k) (o.D k)) (H.out.on K.out).ms (H2.out.on K.out).ms (hid Iff.rfl))
  go_enter Tryz.func14, Tryz.ntmps14
  go_upto_region 1 with fail
  rw [← HW.out]
  clear HW
  go_wp2_with (first | (with_reducible refine wp_gmass (by kernel_rfl) (.tmp 46) rfl w.heap.size m rfl X.out ?_) | (with_reducible refine wp_gmass (by kernel_rfl) (.tmp 48) rfl (w.heap.size + 1) o rfl Y.out ?_) | fail)
  refine CM.out.mono ?_
  rintro e v1 ⟨q, rfl, hr, hb⟩
  clear x0 x1 x2 x3 x4 x5 y0 y1 y2 y3 y4 y5 CM
  replace K := hid (K.out.trans (hb.out.mono K.out.size))
  replace X := hid (X.out.below hb.out X.out.lt)
  replace Y := hid (Y.out.below hb.out Y.out.lt)
  clear hb
  cases q with
  | false =>
    go_wp2
    all_goals
      go_ret
      exact ⟨false, rfl, hid ⟨(fun h => by cases h), fun hp => by obtain ⟨a1, a2, a3, a4, a5, a6⟩ := HP.out.1 hp; exact absurd (hr.out.2 a2) (by decide)⟩, K⟩
  | true =>
    have HM := hid (hr.out.1 rfl)
    clear hr
    have x18 := X.out.c18
    have y18 := Y.out.c18
    cases hwa : (m.wa == o.wa) with
    | false =>
      have HWa := hid (beq_eq_false_iff_ne.1 hwa)
      go_wp2
      all_goals
        go_ret
        exact ⟨false, rfl, hid ⟨(fun h => by cases h), fun hp => by obtain ⟨a1, a2, a3, a4, a5, a6⟩ := HP.out.1 hp; exact absurd a3 HWa.out⟩, K⟩
    | true =>
      have HWa := hid (beq_iff_eq.1 hwa)
      have x19 := X.out.c19
      have y19 := Y.out.c19
      have CL := hid (wdsame_says (P := l = r) (H.out.on K.out).ls (H2.out.on K.out).ls (hid Iff.rfl))
      go_wp2_with fail
      refine CL.out.mono ?_
      rintro e v2 ⟨q, rfl, hr, hb⟩
      clear x18 y18 x19 y19 CL
      replace K := hid (K.out.trans (hb.out.mono K.out.size))
      replace X := hid (X.out.below hb.out X.out.lt)
      replace Y := hid (Y.out.below hb.out Y.out.lt)
      clear hb
      cases q with
      | false =>
        go_wp2
        all_goals
          go_ret
          exact ⟨false, rfl, hid ⟨(fun h => by cases h), fun hp => by obtain ⟨a1, a2, a3, a4, a5, a6⟩ := HP.out.1 hp; exact absurd (hr.out.2 a4) (by decide)⟩, K⟩
      | true =>
        have HL := hid (hr.out.1 rfl)
        clear hr
        have hg := grdE
        by_cases he : m.ha = o.ha ∧ m.mn = o.mn ∧ m.mx = o.mx
        case neg =>
          have HE := hid he
          have hq : ∀ W, Sem.run Tryz.prog (binOp .eql 29 (.agg #[.bool m.ha, .int .i64 m.mn, .int .i64 m.mx]) (.agg #[.bool o.ha, .int .i64 o.mn, .int .i64 o.mx])) W = .ok (.bool false) W := fun W => by rw [eqlE, decide_eq_false he]
          clear he
          go_wp2_with (first | (with_reducible refine wp_gedge (by kernel_rfl) (.tmp 67) rfl w.heap.size m rfl X.out ?_) | (with_reducible refine wp_gedge (by kernel_rfl) (.tmp 69) rfl (w.heap.size + 1) o rfl Y.out ?_) | fail)
          go_wp2
          all_goals
            go_ret
            exact ⟨false, rfl, hid ⟨(fun h => by cases h), fun hp => by obtain ⟨a1, a2, a3, a4, a5, a6⟩ := HP.out.1 hp; exact absurd a5 HE.out⟩, K⟩
        have HE := hid he
        have hq : ∀ W, Sem.run Tryz.prog (binOp .eql 29 (.agg #[.bool m.ha, .int .i64 m.mn, .int .i64 m.mx]) (.agg #[.bool o.ha, .int .i64 o.mn, .int .i64 o.mx])) W = .ok (.bool true) W := fun W => by rw [eqlE, decide_eq_true he]
        clear he
        have x23 := X.out.c23
        have y23 := Y.out.c23
        have CT := hid (wtags_says (H.out.on K.out).tg (H2.out.on K.out).tg (P := m.k = o.k ∧ ∀ j, t j = u j) (hid Iff.rfl))
        go_wp2_with (first | (with_reducible refine wp_gedge (by kernel_rfl) (.tmp 67) rfl w.heap.size m rfl X.out ?_) | (with_reducible refine wp_gedge (by kernel_rfl) (.tmp 69) rfl (w.heap.size + 1) o rfl Y.out ?_) | fail)
        refine CT.out.mono ?_
        rintro e v3 ⟨q, rfl, hr, hb⟩
        clear x23 y23 CT
        replace K := hid (K.out.trans (hb.out.mono K.out.size))
        replace X := hid (X.out.below hb.out X.out.lt)
        replace Y := hid (Y.out.below hb.out Y.out.lt)
        clear hb
        cases q with
        | false =>
          go_wp2
          all_goals
            go_ret
            exact ⟨false, rfl, hid ⟨(fun h => by cases h), fun hp => by obtain ⟨a1, a2, a3, a4, a5, a6⟩ := HP.out.1 hp; exact absurd (hr.out.2 a6) (by decide)⟩, K⟩
        | true =>
          have HT := hid (hr.out.1 rfl)
          clear hr
          go_wp2
          go_ret
          exact ⟨true, rfl, hid ⟨fun _ => HP.out.2 ⟨HI.out, HM.out, HWa.out, HL.out, HE.out, HT.out⟩, fun _ => rfl⟩, K⟩
open Go.RowKit Go.Shelf Go.Lib
theorem wsame_any {w : World} {m o : Md} {l r : List De} {t u : Nat → Nat} {P : Prop} (h : Prd w w.heap.size m l t) (k : Prd w w.heap.size o r u) (HP : Hid (P ↔ PSm m o l r t u)) :
    Calls Tryz.prog 14 #[.agg (mdc m), .agg (mdc o)] w (Says w P) := by
  cases h0 : ((m.kd : Int) == (o.kd : Int)) with
  | false => exact wsame_bad0 (hid fun hp => by have := (HP.out.1 hp).1; obtain ⟨a0, a1, a2, a3, a4, a5⟩ := this; rw [a0] at h0; simp at h0) h0
  | true =>
  cases h1 : (m.fr == o.fr) with
  | false => exact wsame_bad1 (hid fun hp => by have := (HP.out.1 hp).1; obtain ⟨a0, a1, a2, a3, a4, a5⟩ := this; rw [a1] at h1; simp at h1) h0 h1
  | true =>
  cases h2 : (m.tu == o.tu) with
  | false => exact wsame_bad2 (hid fun hp => by have := (HP.out.1 hp).1; obtain ⟨a0, a1, a2, a3, a4, a5⟩ := this; rw [a2] at h2; simp at h2) h0 h1 h2
  | true =>
  cases h3 : (m.ep == o.ep) with
  | false => exact wsame_bad3 (hid fun hp => by have := (HP.out.1 hp).1; obtain ⟨a0, a1, a2, a3, a4, a5⟩ := this; rw [a3] at h3; simp at h3) h0 h1 h2 h3
  | true =>
  cases h4 : (m.nu == o.nu) with
  | false => exact wsame_bad4 (hid fun hp => by have := (HP.out.1 hp).1; obtain ⟨a0, a1, a2, a3, a4, a5⟩ := this; rw [a4] at h4; simp at h4) h0 h1 h2 h3 h4
  | true =>
  cases h5 : (m.ab == o.ab) with
  | false => exact wsame_bad5 (hid fun hp => by have := (HP.out.1 hp).1; obtain ⟨a0, a1, a2, a3, a4, a5⟩ := this; rw [a5] at h5; simp at h5) h0 h1 h2 h3 h4 h5
  | true =>
  exact wsame_rest h k HP ⟨by have := beq_iff_eq.1 h0; omega, beq_iff_eq.1 h1, beq_iff_eq.1 h2, beq_iff_eq.1 h3, beq_iff_eq.1 h4, beq_iff_eq.1 h5⟩ h0 h1 h2 h3 h4 h5
end Go.Proofs.YtbankbehfjogpaaGreat
