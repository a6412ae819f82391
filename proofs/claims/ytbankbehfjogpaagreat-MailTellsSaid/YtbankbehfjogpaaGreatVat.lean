/- The document's Check of a mail. -/
/- Package mail: Read, of what is no text. -/
/- Mails that are the same; what is Great; for the law of mails. -/
import Derived.Test.YtbankbehfjogpaaGreatVaq
import Derived.Test.YtbankbehfjogpaaGreatVas
import Derived.Test.YtbankbehfjogpaaGreatVar
import Derived.Test.YtbankbehfjogpaaGreatVan
namespace Go.Proofs.YtbankbehfjogpaaGreat
open Go.RowKit Go.Shelf Go.Lib
set_option maxRecDepth 100000
set_option maxHeartbeats 3200000 in
theorem pcheck_any {w : World} {m : Md} {l : List De} {t : Nat → Nat} {P : Prop} (h : Prd w w.heap.size m l t) (HP : Hid (P ↔ PMay m l t)) :
    Calls Tryz.prog 12 #[.agg (mdc m)] w fun e w' => ∃ er : Int, e = .returned (.int .i64 er) ∧ Hid ((P → er = 0) ∧ (¬ P → er = 100)) ∧ Hid (Below w.heap.size w w') := by
  obtain ⟨W, hW⟩ : ∃ W, W = w.alloc (.cells (mdc m) 31) := ⟨_, rfl⟩
  have K := hid (show Below w.heap.size w W from hW ▸ (Below.refl _ w).alloc (Nat.le_refl _) _)
  have X := hid (show Pbox W w.heap.size m from hW ▸ heap_alloc_new w _)
  have HW := hid hW
  have CM := hid (pmay_any (h.on K.out) HP)
  clear hW h HP
  go_enter Tryz.func12, Tryz.ntmps12
  go_upto_region 1 with fail
  rw [← HW.out]
  clear HW
  go_wp2_with (first | (with_reducible refine wp_gmail (by kernel_rfl) (.tmp 1) rfl w.heap.size m rfl X.out ?_) | fail)
  refine CM.out.mono ?_
  rintro e v1 ⟨r, rfl, hr, hb⟩
  clear CM
  replace K := hid (K.out.trans (hb.out.mono K.out.size))
  cases r with
  | true =>
    have HM := hid (hr.out.1 rfl)
    clear hr
    go_wp2
    go_ret
    exact ⟨0, rfl, hid ⟨fun _ => rfl, fun hn => absurd HM.out hn⟩, K⟩
  | false =>
    have HM : Hid (¬ P) := hid (fun hm => absurd (hr.out.2 hm) (by decide))
    clear hr
    go_wp2
    go_ret
    exact ⟨100, rfl, hid ⟨fun hp => absurd hp HM.out, fun _ => rfl⟩, K⟩
open Go.RowKit Go.Shelf Go.Lib
set_option maxRecDepth 100000
set_option maxHeartbeats 12800000 in
theorem read_none {w : World} {A : Option Addr} {n c : Nat} {xs : List Nat} (h : By w w.heap.size A n c xs) (hf : flt xs = 0) (hm : ∀ M, ¬ RdOk xs M) :
    Calls Tryz.prog 8 #[.slice A n c] w fun e w' => e = .returned (.tuple #[.agg (mdc (Mz 0)), .int .i64 41]) ∧ Hid (Below w.heap.size w w') := by
  obtain ⟨w1, hw1⟩ : ∃ w1, w1 = w.alloc (.cells (mdc (Mz 0)) 31) := ⟨_, rfl⟩
  have B0 := hid (show Below w.heap.size w w1 from hw1 ▸ (Below.refl _ w).alloc (Nat.le_refl _) _)
  have P0 := hid (show Pbox w1 w.heap.size (Mz 0) from hw1 ▸ heap_alloc_new w _)
  have HW := hid hw1
  have H1 := hid ((h.below B0.out).mono B0.out.size)
  have HM := hid hm
  have HFl := hid hf
  clear hm
  have CT := hid (Take_good H1.out (Nat.le_refl _) hf)
  have HL := hid h.lt
  have HK := hid (show xs.getD 2 0 < 256 from getD_lt h.lt 2)
  clear hw1 h hf
  go_enter Tryz.func8, Tryz.ntmps8
  go_upto_region 1 with fail
  change Code.wp _ _ _ _ (w.alloc (.cells (mdc (Mz 0)) 31))
  rw [← HW.out]
  clear HW
  go_wp2_with fail
  refine CT.out.mono ?_
  rintro e w2 ⟨v, rfl, hO, hb⟩
  obtain ⟨k, hk⟩ : ∃ k, k = xs.getD 2 0 := ⟨_, rfl⟩
  obtain ⟨ys, hys⟩ : ∃ ys, ys = inn xs := ⟨_, rfl⟩
  rw [← hk] at HK
  rw [← hk]
  rw [show (xs.take (xs.length - 4)).drop 5 = ys from hys.symm] at hO
  have HKk := hid hk
  have HYs := hid hys
  have hY : ∀ x ∈ ys, x < 256 := hO.out.2.1
  obtain ⟨A2, c2, rfl, hB2⟩ := hO.out.shape
  have P2 := hid (P0.out.below hb.out P0.out.lt)
  have B2 := hid (B0.out.trans (hb.out.mono B0.out.size))
  have HB2 := hid hB2
  have HY := hid hY
  clear hk hys hO hb CT hB2 H1 hY
  go_upto_region 5 with fail
  obtain ⟨w3, hw3⟩ : ∃ w3, w3 = w2.alloc (.cells #[.slice A2 ys.length c2, .int .i64 0, .bool false] 65) := ⟨_, rfl⟩
  rw [← hw3]
  have B3 := hid (show Below w.heap.size w w3 from B2.out.trans (hw3 ▸ (Below.refl _ w2).alloc B2.out.size _))
  have K3 := hid (show Below w2.heap.size w2 w3 from hw3 ▸ (Below.refl _ w2).alloc (Nat.le_refl _) _)
  have W3 := hid (show Rea w2.heap.size ⟨ys, 0, false⟩ w3 from ⟨A2, ys.length, c2, hw3 ▸ heap_alloc_new w2 _, HB2.out.below K3.out, Nat.zero_le _⟩)
  have P3 := hid (show Pbox w3 w.heap.size (Mz 0) from hw3 ▸ P2.out.alloc _)
  have S3 := hid (show w3.heap.size = w2.heap.size + 1 by rw [hw3]; simp)
  have CA := hid (along_any (wlk_rd (g := w2.heap.size) w.heap.size B2.out.size) (s := ⟨ys, 0, false⟩) (w := w3) W3.out (Nat.le_of_eq S3.out.symm) (arg_mz w3 w.heap.size k) (alok_mz HK.out _))
  have HG := hid (along_good HY.out k)
  obtain ⟨M, hM⟩ : ∃ M, M = (alongP Wrd ⟨ys, 0, false⟩ (mz k)).1 := ⟨_, rfl⟩
  obtain ⟨⟨zs, q, ft⟩, hs⟩ : ∃ s, s = (alongP Wrd ⟨ys, 0, false⟩ (mz k)).2 := ⟨_, rfl⟩
  have HMk := hid (show M.kd = k from hM ▸ along_kd Wrd _ _)
  rw [← hM, ← hs] at CA HG
  clear hM hs
  clear hw3 W3 HB2
  go_wp2_with fail
  refine CA.out.mono ?_
  rintro e w4 ⟨m', rfl, hO, hI, hE⟩
  have hlt2 := P2.out.lt
  have P4 := hid (show Pbox w4 w.heap.size (Mz 0) from hE.out.heap P3.out (show ¬ w.heap.size = w2.heap.size by omega))
  have B4 := hid (B3.out.trans (hE.out.below B3.out.size (fun b hb => by subst hb; exact B2.out.size)))
  have S4 := hid (show w2.heap.size < w4.heap.size by have := hE.out.size; have := S3.out; omega)
  obtain ⟨w5, hw5⟩ : ∃ w5, w5 = w4.alloc (.cells (mdc (Mz 0)) 31) := ⟨_, rfl⟩
  have P5n := hid (show Pbox w5 w4.heap.size (Mz 0) from hw5 ▸ heap_alloc_new w4 _)
  have HW5 := hid hw5
  clear CA hE
  go_upto_region 6 with (first | (refine wp_pstore rfl (.tmp 8) (.tmp 28) (by with_reducible rfl) w4.heap.size (Mz 0) m' (by rfl) (by rfl) (HW5.out ▸ P5n.out) ?_) | fail)
  change Code.wp _ _ _ _ (pstore (w4.alloc (.cells (mdc (Mz 0)) 31)) w4.heap.size m')
  rw [← hw5]
  have hw := wr_pstore w5 w4.heap.size m'
  have s45 : w5.heap.size = w4.heap.size + 1 := by rw [hw5]; simp
  have K45 : Below w4.heap.size w4 w5 := hw5 ▸ (Below.refl _ w4).alloc (Nat.le_refl _) _
  obtain ⟨w6, hw6⟩ : ∃ w6, w6 = pstore w5 w4.heap.size m' := ⟨_, rfl⟩
  rw [← hw6] at hw ⊢
  have K46 := hid (show Below w4.heap.size w4 w6 from ⟨hw.os.trans K45.os, hw.tape.trans K45.tape, hw.output.trans K45.output, Nat.le_trans K45.size (Nat.le_of_eq hw.size), fun b hb => (hw.block b (by omega)).trans (K45.block b hb)⟩)
  have P6n := hid (show Pbox w6 w4.heap.size m' from hw6 ▸ P5n.out.store m')
  have P6 := hid (P4.out.below K46.out P4.out.lt)
  have B6 := hid (B4.out.trans (K46.out.mono B4.out.size))
  have K46e := hid (show Ex (fun b => b = w2.heap.size) w4 w6 from Ex.of_below K46.out)
  have hO6 := hid ((hO.out.ex (wlk_rd (g := w2.heap.size) w.heap.size B2.out.size) K46e.out (show w2.heap.size + 1 ≤ w3.heap.size from Nat.le_of_eq S3.out.symm)))
  obtain ⟨A3, n3, c3, hg3, hB3, hp3⟩ := hI.out
  have hg6 := (K46.out.block _ S4.out).trans hg3
  have hB6 := (hB3.below (K46.out.mono (Nat.le_of_lt S4.out)))
  clear hw5 HW5 hw6 hw hg3 hB3 hI P5n hO s45 K45
  dsimp only at hg6 hB6 hp3
  have r0 := row_c hg6 0
  have r1 := row_c hg6 1
  have r2 := row_c hg6 2
  have HZl := hid hB6.len
  have hmx := hB6.max
  cases ft with
  | true =>
    clear hg6 hB6 hp3 hmx
    go_wp2_with (first | (refine wp_pstore rfl (.tmp 2) (.tmp 42) (by with_reducible rfl) w.heap.size (Mz 0) (Mz 0) (by rfl) (by rfl) P6.out ?_) | fail)
    have hw := wr_pstore w6 w.heap.size (Mz 0)
    refine ret_mail2 rfl (by rfl) (by rfl) rfl (P6.out.store (Mz 0)) ⟨rfl, hid ?_⟩
    exact ((hw.ex (G := fun _ => False) (Ex.of_below B6.out) (Nat.le_refl _)).below (Nat.le_refl _) (fun b hb => hb.elim))
  | false =>
  have hgd := HG.out rfl
  dsimp only at hgd
  by_cases hq : q = zs.length
  case neg =>
    have CD := hid (show ∀ X, Calls Tryz.prog 29 #[.agg #[.slice A3 n3 c3, .int .i64 (q : Int)]] X fun e w' => e = .returned (.bool false) ∧ Hid (Below X.heap.size X w') from fun X => (Done_any A3 n3 c3 (q : Int) X hmx).mono fun _ _ ⟨he, hb⟩ => ⟨by rw [he, decide_eq_false (by have := HZl.out; omega)], hb⟩)
    clear hg6 hB6 hp3 hmx hgd hq
    go_wp2_with fail
    refine (CD.out _).mono ?_
    rintro e w7 ⟨rfl, hb7⟩
    have P7 := hid (P6.out.below hb7.out P6.out.lt)
    have B7 := hid (B6.out.trans (hb7.out.mono B6.out.size))
    clear r0 r1 r2 CD hb7
    go_wp2_with (first | (refine wp_pstore rfl (.tmp 2) (.tmp 42) (by with_reducible rfl) w.heap.size (Mz 0) (Mz 0) (by rfl) (by rfl) P7.out ?_) | fail)
    have hw := wr_pstore w7 w.heap.size (Mz 0)
    refine ret_mail2 rfl (by rfl) (by rfl) rfl (P7.out.store (Mz 0)) ⟨rfl, hid ?_⟩
    exact ((hw.ex (G := fun _ => False) (Ex.of_below B7.out) (Nat.le_refl _)).below (Nat.le_refl _) (fun b hb => hb.elim))
  case pos =>
    have CD := hid (show ∀ X, Calls Tryz.prog 29 #[.agg #[.slice A3 n3 c3, .int .i64 (q : Int)]] X fun e w' => e = .returned (.bool true) ∧ Hid (Below X.heap.size X w') from fun X => (Done_any A3 n3 c3 (q : Int) X hmx).mono fun _ _ ⟨he, hb⟩ => ⟨by rw [he, decide_eq_true (by have := HZl.out; omega)], hb⟩)
    have hno : ¬ MayM M := fun hmay => HM.out M ⟨HFl.out, hmay, by rw [HMk.out, HKk.out], by
      obtain ⟨g1, g2, _⟩ := hgd
      rw [← g2, hq, g1, List.take_length, HYs.out]⟩
    have CC := hid (show ∀ X, Below w6.heap.size w6 X → Calls Tryz.prog 11 #[.agg (mdc m')] X fun e w' => e = .returned (.int .i64 100) ∧ Hid (Below X.heap.size X w') from fun X hX => by
      have ho := hO6.out.ex (wlk_rd (g := w2.heap.size) w.heap.size B2.out.size) (Ex.of_below hX) (show w2.heap.size + 1 ≤ w3.heap.size from Nat.le_of_eq S3.out.symm)
      have hp := ho.prd (by rw [HMk.out]; exact HK.out) (fun D hD => hD.rd)
      obtain ⟨e1, e2⟩ := out_ml ho
      exact check_no hp (fun hpm => hno (by have := (may_iff hp e2).1 hpm; rwa [e1] at this)))
    clear hg6 hB6 hp3 hmx hgd hq hno
    go_wp2_with fail
    refine (CD.out _).mono ?_
    rintro e w7 ⟨rfl, hb7⟩
    have P7n := hid (P6n.out.below hb7.out P6n.out.lt)
    clear r0 r1 r2 CD
    go_wp2_with (first | (refine wp_gmail (by kernel_rfl) (.tmp 8) (by with_reducible rfl) w4.heap.size m' (by rfl) P7n.out ?_) | fail)
    refine (CC.out _ hb7.out).mono ?_
    rintro e w8 ⟨rfl, hb8⟩
    have K8 := hid (hb7.out.trans (hb8.out.mono hb7.out.size))
    have P8 := hid (P6.out.below K8.out P6.out.lt)
    have B8 := hid (B6.out.trans (K8.out.mono B6.out.size))
    clear CC hb7 hb8 P7n
    go_wp2_with (first | (refine wp_pstore rfl (.tmp 2) (.tmp 42) (by with_reducible rfl) w.heap.size (Mz 0) (Mz 0) (by rfl) (by rfl) P8.out ?_) | fail)
    have hw := wr_pstore w8 w.heap.size (Mz 0)
    refine ret_mail2 rfl (by rfl) (by rfl) rfl (P8.out.store (Mz 0)) ⟨rfl, hid ?_⟩
    exact ((hw.ex (G := fun _ => False) (Ex.of_below B8.out) (Nat.le_refl _)).below (Nat.le_refl _) (fun b hb => hb.elim))
open Go.RowKit Go.Shelf Go.Lib
set_option maxRecDepth 100000
theorem psm_prd {w w' : World} {B C : Nat} {m o : Md} {l r : List De} {t u : Nat → Nat} (h : Prd w B m l t) (k : Prd w' C o r u) (hx : ∀ k, k < 4 → 0 ≤ (m.D k).x) (hy : ∀ k, k < 4 → 0 ≤ (o.D k).x) :
    PSm m o l r t u ↔ mlOf m l t = mlOf o r u := by
  have dd : ∀ k, k < 4 → (Dsm (m.D k) (o.D k) ↔ ddy (m.D k) = ddy (o.D k)) := fun k hk => dsm_iff ⟨rfl, rfl, rfl, by have := hy k hk; show (o.D k).x = ((o.D k).x.toNat : Int); omega⟩ (hx k hk)
  have ht : (m.k = o.k ∧ ∀ j, t j = u j) ↔ (List.range m.k).map t = (List.range o.k).map u := by
    constructor
    · rintro ⟨a, b⟩
      rw [a, show t = u from funext b]
    · intro e
      have hl := congrArg List.length e
      simp only [List.length_map, List.length_range] at hl
      refine ⟨hl, fun j => ?_⟩
      have h1 := range_map_get m.k t h.tg.out j
      have h2 := range_map_get o.k u k.tg.out j
      rw [← h1, ← h2, e]
  unfold PSm ISm mlOf
  rw [ht]
  simp only [Ml.mk.injEq]
  constructor
  · rintro ⟨⟨a1, a2, a3, a4, a5, a6⟩, hd, a7, a8, ⟨a9, a10, a11⟩, a12⟩
    exact ⟨a1, a2, a3, a4, a5, a6, (dd 0 (by omega)).1 (hd 0 (by omega)), (dd 1 (by omega)).1 (hd 1 (by omega)), (dd 2 (by omega)).1 (hd 2 (by omega)), (dd 3 (by omega)).1 (hd 3 (by omega)), a7, a8, a9, a10, a11, a12⟩
  · rintro ⟨a1, a2, a3, a4, a5, a6, b0, b1, b2, b3, a7, a8, a9, a10, a11, a12⟩
    refine ⟨⟨a1, a2, a3, a4, a5, a6⟩, fun k hk => ?_, a7, a8, ⟨a9, a10, a11⟩, a12⟩
    have hc : k = 0 ∨ k = 1 ∨ k = 2 ∨ k = 3 := by omega
    rcases hc with rfl | rfl | rfl | rfl
    · exact (dd 0 hk).2 b0
    · exact (dd 1 hk).2 b1
    · exact (dd 2 hk).2 b2
    · exact (dd 3 hk).2 b3
theorem great_yes {w : World} {m : Md} {l : List De} {t : Nat → Nat} (h : Prd w w.heap.size m l t) (hg : PGr m) : Calls Tryz.prog 4 #[.agg (mdc m)] w fun e w' => e = .returned (.bool true) ∧ Hid (Below w.heap.size w w') :=
  (pgreat_any (P := True) h (hid ⟨fun _ => hg, fun _ => trivial⟩)).mono fun _ _ ⟨r, he, hr, hb⟩ => ⟨by rw [he, hr.out.2 trivial], hb⟩
theorem great_no {w : World} {m : Md} {l : List De} {t : Nat → Nat} (h : Prd w w.heap.size m l t) (hg : ¬ PGr m) : Calls Tryz.prog 4 #[.agg (mdc m)] w fun e w' => e = .returned (.bool false) ∧ Hid (Below w.heap.size w w') :=
  (pgreat_any (P := False) h (hid ⟨fun h => h.elim, fun x => hg x⟩)).mono fun _ _ ⟨r, he, hr, hb⟩ => ⟨by cases r with | false => exact he | true => exact (hr.out.1 rfl).elim, hb⟩
theorem yields_conv {ops : Array Oper} {S : World → Prop} {o : Oper} {a : Act} (hw : Region.wanted o (yielded ops a.tmps) = true) (x : Operand) (ho : o.op = .convert 32 9 x)
    {A : Option Addr} {n c : Nat} {xs : List Nat} (hx : a.eval x = .slice A n c) (hS : ∀ w, S w → ∃ B, By w B A n c xs) : YieldsIf Tryz.prog ops S o (.string (str xs)) a :=
  .inl ⟨hw, fun w hw' => by
    obtain ⟨B, hB⟩ := hS w hw'
    unfold execOp
    simp only [ho, hx, Sem.run_bind, conv_any hB, Result.andThen_ok, Sem.run_pure]⟩
theorem rdok_uniq {xs : List Nat} {M N : Ml} (h : RdOk xs M) (k : RdOk xs N) : M = N := cont_inj h.may.fit.fit k.may.fit.fit (h.kd.trans k.kd.symm) (h.cont.trans k.cont.symm)
theorem Tw.may {L : Nat} {X : World} {m m' : Md} {l : List De} {t : Nat → Nat} (h : Tw L X m m' l t) (hn : m.n = l.length) : PMay m' l t ↔ PMay m l t := by
  have hd : ∀ k, k < 4 → ((m'.D k).s = (m.D k).s ∧ (m'.D k).n = (m.D k).n ∧ (m'.D k).x = (m.D k).x ∧ (m'.D k).f = (m.D k).f) := fun k hk => ⟨(h.D k hk).s, (h.D k hk).n, (h.D k hk).x, (h.D k hk).f⟩
  have hz : ∀ k, k < 4 → (Zd (m'.D k) ↔ Zd (m.D k)) := fun k hk => by
    obtain ⟨a, b, c, _⟩ := hd k hk
    unfold Zd
    rw [a, b, c]
  have hm : MMay m'.D ↔ MMay m.D := by
    constructor
    · intro hh k hk
      obtain ⟨a, b, c, d⟩ := hd k hk
      have := hh k hk
      rw [a, b, c, d] at this
      exact this
    · intro hh k hk
      obtain ⟨a, b, c, d⟩ := hd k hk
      rw [a, b, c, d]
      exact hh k hk
  unfold PMay IMay
  rw [h.kd, h.fr, h.tu, h.ep, h.nu, h.ab, h.wa, h.ha, h.mn, h.mx, h.k, h.n, hm, hz 0 (by omega), hz 1 (by omega), hz 2 (by omega), hz 3 (by omega), hn]
theorem Tw.sm {L : Nat} {X : World} {m m' o : Md} {l r : List De} {t u : Nat → Nat} (h : Tw L X m m' l t) : PSm m' o l r t u ↔ PSm m o l r t u := by
  have hd : ∀ k, k < 4 → (Dsm (m'.D k) (o.D k) ↔ Dsm (m.D k) (o.D k)) := fun k hk => by
    unfold Dsm
    rw [(h.D k hk).s, (h.D k hk).n, (h.D k hk).x, (h.D k hk).f]
  have hD : (∀ k, k < 4 → Dsm (m'.D k) (o.D k)) ↔ ∀ k, k < 4 → Dsm (m.D k) (o.D k) := ⟨fun hh k hk => (hd k hk).1 (hh k hk), fun hh k hk => (hd k hk).2 (hh k hk)⟩
  unfold PSm ISm
  rw [h.kd, h.fr, h.tu, h.ep, h.nu, h.ab, h.wa, h.ha, h.mn, h.mx, h.k, hD]
theorem psm_self (m : Md) (l : List De) (t : Nat → Nat) : PSm m m l l t t := ⟨⟨rfl, rfl, rfl, rfl, rfl, rfl⟩, fun _ _ => ⟨rfl, rfl, rfl, fun _ => rfl⟩, rfl, rfl, ⟨rfl, rfl, rfl⟩, rfl, fun _ => rfl⟩
end Go.Proofs.YtbankbehfjogpaaGreat
