/- Offer of caches. -/
import Derived.Test.YthklhhgkklpbkaaCmrg
namespace Go.Proofs.Ythklhhgkklpbkaa
open Go.RowKit Go.Shelf Go.Lib

theorem chk_one {o now : Int} (h : 0 ≤ o) (h' : o < 8) : chk [(o, now)] = if now < 0 ∨ now > 2147483647 then 8 else 0 := by
  unfold chk
  rw [if_neg (by simp)]
  have : [(o, now)].any bad = decide (now < 0 ∨ now > 2147483647) := by
    show (bad (o, now) || false) = _
    rw [Bool.or_false, Bool.eq_iff_iff]
    unfold bad
    simp only [Bool.or_eq_true, decide_eq_true_eq]
    omega
  rw [this]
  simp
theorem orr_tld {o p now : Int} {l : List De} (h : CMay o p l) (hn : ¬ (now < 0 ∨ now > 2147483647)) : orr ((o, now) :: l) = tld o now l := by
  refine if_pos ?_
  obtain ⟨h1, h2, h3, h4, h5, h6, _⟩ := h
  refine chk_zero.2 ⟨by rw [List.length_cons]; omega, ?_⟩
  have h7 := chk_one (now := now) h1 h2
  rw [if_neg hn] at h7
  have h8 := (chk_zero.1 h7).2
  rw [List.any_cons, List.any_nil, Bool.or_false] at h8
  rw [List.any_cons, h8, (chk_zero.1 h6).2]
  rfl

set_option maxHeartbeats 6400000 in
set_option maxRecDepth 100000 in
theorem coffer_any {w : World} {B n c : Nat} {A : Option Addr} {l : List De} (o p now : Int) (h : Ds w B A n c l) (hB : B ≤ w.heap.size) :
    Calls Try.prog 10 #[cav o p (.slice A n c), .int .i64 now] w fun e w' => ∃ v, e = .returned (.tuple #[v, .int .i64 (ofE o p now l)]) ∧ Hid (Od w' w.heap.size v (ofL o p now l) ∧ Below w.heap.size w w') := by
  have H := hid (h.mono hB)
  have HL := hid h.len
  have hcap := h.cap
  clear h hB
  obtain ⟨W, hW⟩ : ∃ W, W = w.alloc (.cells #[.int .i64 o, .int .i64 p, .slice A n c] 24) := ⟨_, rfl⟩
  have B0 := hid (show Below w.heap.size w W from hW ▸ (Below.refl _ w).alloc (Nat.le_refl _) _)
  have X0 := hid (show Cbox W w.heap.size o p (.slice A n c) from hW ▸ heap_alloc_new w _)
  have x0 := X0.out.c0
  have x1 := X0.out.c1
  have x2 := X0.out.c2
  have HW := hid hW
  clear hW
  have CM := hid (ccheck_any o p (H.out.below B0.out) B0.out.size)
  by_cases hq : CMay o p l
  case neg =>
    have hE : ofE o p now l = 8 := by unfold ofE; rw [if_neg hq]
    have hF : ofL o p now l = [] := by unfold ofL; rw [if_neg (by rw [hE]; decide)]
    rw [hE, hF]
    rw [show cchk o p l = 8 from if_neg hq] at CM
    clear hq hE hF
    unfold cav at CM ⊢
    go_enter Try.func10, Try.ntmps10
    go_upto_region 1 with fail
    rw [← HW.out]
    clear HW
    go_wp2_with fail
    refine CM.out.mono ?_
    rintro e w1 ⟨rfl, hb⟩
    go_wp2
    go_ret2
    exact ⟨_, rfl, hid ⟨Od.nil _ _, B0.out.trans (hb.out.mono B0.out.size)⟩⟩
  rw [show cchk o p l = 0 from if_pos hq] at CM
  have hn6 : n ≤ 6 := by
    obtain ⟨_, _, _, a4, a5, _⟩ := hq
    have := HL.out
    omega
  have hck := chk_one (now := now) hq.1 hq.2.1
  have CO := hid (fun X (A2 : Option Addr) (c2 : Nat) (hD : Ds X X.heap.size A2 ((o, now) :: l).length c2 ((o, now) :: l)) => order_any hD (Nat.le_refl _))
  have CK := hid (fun X => check_any (ds_at (heap_alloc_new X (.cells #[.int .i64 o, .int .i64 now] 29))) (Nat.le_refl _))
  rw [hck] at CK
  clear hck
  by_cases hr : now < 0 ∨ now > 2147483647
  · have hE : ofE o p now l = 2 := by unfold ofE; rw [if_pos hq, if_pos hr]
    have hF : ofL o p now l = [] := by unfold ofL; rw [if_neg (by rw [hE]; decide)]
    rw [hE, hF]
    rw [if_pos hr] at CK
    clear hq hE hF hr CO
    unfold cav at CM ⊢
    go_enter Try.func10, Try.ntmps10
    go_upto_region 1 with fail
    rw [← HW.out]
    clear HW
    go_wp2_with fail
    refine CM.out.mono ?_
    rintro e w1 ⟨rfl, hb⟩
    have X1 := hid (X0.out.below hb.out X0.out.lt)
    have B1 := hid (B0.out.trans (hb.out.mono B0.out.size))
    clear x0 x1 x2
    have x0 := X1.out.c0
    go_wp2_with fail
    refine (CK.out w1).mono ?_
    rintro e w2 ⟨rfl, hb2⟩
    go_wp2
    go_ret2
    exact ⟨_, rfl, hid ⟨Od.nil _ _, (B1.out.alloc B1.out.size _).trans (hb2.out.mono (Nat.le_trans B1.out.size (by simp)))⟩⟩
  have hE : ofE o p now l = 0 := by unfold ofE; rw [if_pos hq, if_neg hr]
  have hF : ofL o p now l = tld o now l := by unfold ofL; rw [if_pos hE]
  rw [hE, hF]
  rw [if_neg hr] at CK
  have HT := hid (orr_tld hq hr)
  have HC0 := hid (show chk ((o, now) :: l) = 0 from by
    by_cases h0 : chk ((o, now) :: l) = 0
    · exact h0
    · have h1 : orr ((o, now) :: l) = [] := if_neg h0
      rw [HT.out] at h1
      have h2 := tld_length o now l
      rw [h1] at h2
      simp at h2)
  rw [HT.out, HC0.out] at CO
  clear hq hE hF hr HT HC0
  unfold cav at CM ⊢
  go_enter Try.func10, Try.ntmps10
  go_upto_region 1 with fail
  rw [← HW.out]
  clear HW
  go_wp2_with fail
  refine CM.out.mono ?_
  rintro e w1 ⟨rfl, hb⟩
  have X1 := hid (X0.out.below hb.out X0.out.lt)
  have B1 := hid (B0.out.trans (hb.out.mono B0.out.size))
  clear x0 x1 x2 X0 B0 CM
  have x0 := X1.out.c0
  obtain ⟨W2, hW2⟩ : ∃ W2, W2 = w1.alloc (.cells #[.int .i64 o, .int .i64 now] 29) := ⟨_, rfl⟩
  have b2 := hid (show Below w1.heap.size w1 W2 from hW2 ▸ (Below.refl _ w1).alloc (Nat.le_refl _) _)
  have d2 := hid (show Ds W2 W2.heap.size (some ⟨w1.heap.size, 0, none⟩) 1 1 [(o, now)] from hW2 ▸ ds_at (heap_alloc_new w1 (.cells #[.int .i64 o, .int .i64 now] 29)))
  have HW2 := hid hW2
  clear hW2
  go_upto_region 5 with fail
  rw [← HW2.out]
  have CK2 := hid (CK.out w1)
  rw [← HW2.out] at CK2
  go_wp2_with fail
  refine CK2.out.mono ?_
  rintro e w3 ⟨rfl, hb3⟩
  have X3 := hid ((X1.out.below b2.out X1.out.lt).below hb3.out (Nat.lt_of_lt_of_le X1.out.lt b2.out.size))
  have B3 := hid (B1.out.trans ((b2.out.trans (hb3.out.mono b2.out.size)).mono B1.out.size))
  have D3 := hid (H.out.below B3.out)
  have E3 := hid (d2.out.below hb3.out)
  have hs3 := hid hb3.out.size
  clear x0 CK CK2 HW2 X1 B1 hb hb3 H
  have x2 := X3.out.c2
  obtain ⟨W4, hW4⟩ : ∃ W4, W4 = w3.alloc (.cells #[.slice (some ⟨w1.heap.size, 0, none⟩) 1 1, .slice A n c] 22) := ⟨_, rfl⟩
  have b4 := hid (show Below w3.heap.size w3 W4 from hW4 ▸ (Below.refl _ w3).alloc (Nat.le_refl _) _)
  have hz4 := hid (show W4.heap.size = w3.heap.size + 1 from by rw [hW4]; simp)
  have B4 := hid (B3.out.trans (b4.out.mono B3.out.size))
  have D4 := hid ((D3.out.below (b4.out.mono B3.out.size)).mono B4.out.size)
  have E4 := hid ((E3.out.below (b4.out.mono hs3.out)).mono (Nat.le_trans hs3.out b4.out.size))
  have hrow : W4.heap[w3.heap.size]? = some (.cells #[.slice (some ⟨w1.heap.size, 0, none⟩) 1 1, .slice A n c] 22 (0, 0)) := hW4 ▸ heap_alloc_new w3 _
  have CC := hid (concat_any (w := W4) (b := w3.heap.size) (off := 0) (k := 2) (c := 2) (fun j => if j = 0 then (some ⟨w1.heap.size, 0, none⟩, 1, 1) else (A, n, c)) (fun j => if j = 0 then [(o, now)] else l) (fun j hj => by
    match j, hj with
    | 0, _ => exact ⟨(cell_of_row W4 _ 0 _ _ (0, 0) hrow).trans rfl, E4.out⟩
    | 1, _ => exact ⟨(cell_of_row W4 _ 1 _ _ (0, 0) hrow).trans rfl, D4.out⟩) (by have := hz4.out; omega) (by omega) (Nat.le_refl _) (by
      show (([] ++ [(o, now)]) ++ l).length ≤ 100000
      have := HL.out
      simp
      omega))
  change Hid (Calls _ _ _ W4 fun e w' => ∃ v, e = .returned v ∧ Hid (Od w' W4.heap.size v ((o, now) :: l) ∧ Below W4.heap.size W4 w')) at CC
  have HW4 := hid hW4
  clear hW4 hrow D3 E3
  go_wp2_with fail
  rw [← HW4.out]
  refine CC.out.mono ?_
  rintro e w5 ⟨v5, rfl, HV⟩
  obtain ⟨A5, c5, rfl, hD5, _, _⟩ := HV.out.1.form
  have CO2 := hid (CO.out w5 A5 c5 hD5)
  have B5 := hid (B4.out.trans (HV.out.2.mono B4.out.size))
  clear hD5 HV CO CC
  generalize ((o, now) :: l).length = m5 at CO2
  go_wp2_with fail
  refine CO2.out.mono ?_
  rintro e w6 ⟨v, rfl, hv⟩
  go_wp2
  go_ret2
  exact ⟨_, rfl, hid ⟨hv.out.1.mono B5.out.size, B5.out.trans (hv.out.2.mono B5.out.size)⟩⟩
end Go.Proofs.Ythklhhgkklpbkaa
