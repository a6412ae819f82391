/- TimerOrders and TimerTells, walked. -/
import Derived.Test.YtgcmljnjfghagaaTal
namespace Go.Proofs.Ytgcmljnjfghagaa.Tm
open Go.RowKit Go.Shelf Go.Lib
set_option maxRecDepth 100000

theorem grt_le {n : Nat} (h : grt n = false) : n ≤ 1028 := by
  unfold grt at h
  simp at h
  omega

set_option maxHeartbeats 6400000 in
theorem torders_walk {w : World} {n c : Nat} {A : Option Addr} {l : List De} (h : Ds w w.heap.size A n c l) :
    Calls Try.prog 5 #[.slice A n c] w fun e w' => e = .returned (.bool true) ∧ Below w.heap.size w w' := by
  have HD := hid h
  have HL := hid h.len
  have hm := h.max
  have hcap := h.cap
  clear h
  have CG := hid (great_any (w := w) (A := A) (n := n) (c := c))
  cases hg : grt n with
  | true =>
    rw [hg] at CG
    go_enter Try.func5, Try.ntmps5
    go_wp2_with (first | (go_at_call 16; with_reducible refine CG.out.mono ?_; rintro e w1 ⟨rfl, rfl⟩) | fail)
    go_ret
    exact ⟨rfl, Below.refl _ _⟩
  | false =>
    rw [hg] at CG
    have hn8 := grt_le hg
    by_cases h4 : n = 1024
    · have hz : ((n : Int) == 1024) = true := by simp; omega
      clear h4
      go_enter Try.func5, Try.ntmps5
      go_wp2_with (first | (go_at_call 16; with_reducible refine CG.out.mono ?_; rintro e w1 ⟨rfl, rfl⟩) | fail)
      go_ret
      exact ⟨rfl, Below.refl _ _⟩
    have hz : ((n : Int) == 1024) = false := by simp; omega
    clear h4 hg
    obtain ⟨ol, hol⟩ : ∃ ol, ol = orL l := ⟨_, rfl⟩
    obtain ⟨oe, hoe⟩ : ∃ oe, oe = orE l := ⟨_, rfl⟩
    have HO := hid (And.intro hol.symm hoe.symm)
    clear hol hoe
    have BW0 : Hid (Below w.heap.size w w) := hid (Below.refl _ _)
    have HS0 := hid BW0.out.size
    go_enter Try.func5, Try.ntmps5
    go_wp2_with (first
      | (go_at_call 16; with_reducible refine CG.out.mono ?_; rintro e w1 ⟨rfl, rfl⟩)
      | (at_builtin; refine list_own rfl _ _ rfl rfl rfl HD.out (Nat.le_refl _) (by omega) ?_; intro A1 n1 c1 w1 H1)
      | fail)
    have b1 := hid H1.out.2
    have C2 := porder_any H1.out.1.ds (Nat.le_refl _)
    rw [HO.out.1, HO.out.2] at C2
    unfold LstE at C2
    refine C2.mono ?_
    rintro e w2 ⟨v2, rfl, H2⟩
    obtain ⟨A2, n2, c2, rfl, _, _⟩ := od_letter H2.out.1
    have HS1 := hid (show w.heap.size ≤ w1.heap.size from b1.out.size)
    have BW1 := hid (BW0.out.trans (b1.out.mono BW0.out.size))
    clear BW0
    have O_own_1 := hid (H1.out.1)
    have I_own : Hid (∀ b, (Value.slice A1 n1 c1).ownBlock = some b → w.heap.size ≤ b ∧ b < w1.heap.size) := hid (own_lt O_own_1.out)
    have b2 := hid H2.out.2
    have HS2 := hid (show w1.heap.size ≤ w2.heap.size from b2.out.size)
    have BW2 := hid (BW1.out.trans (b2.out.mono BW1.out.size))
    have O_own_2 := hid (O_own_1.out.below b2.out)
    clear BW1 O_own_1
    have O_a_2 := hid (H2.out.1)
    have I_a : Hid (∀ b, (Value.slice A2 n2 c2).ownBlock = some b → w1.heap.size ≤ b ∧ b < w2.heap.size) := hid (own_lt O_a_2.out)
    clear H1 H2 C2 b1 b2
    have C3 := (by have h := rorder_any (HD.out.below BW2.out) BW2.out.size; rw [HO.out.1, HO.out.2] at h; exact h)
    unfold LstE at C3
    go_wp2_with fail
    refine C3.mono ?_
    rintro e w3 ⟨v3, rfl, H3⟩
    obtain ⟨A3, n3, c3, rfl, _, _⟩ := od_letter H3.out.1
    have b3 := hid H3.out.2
    have HS3 := hid (show w2.heap.size ≤ w3.heap.size from b3.out.size)
    have BW3 := hid (BW2.out.trans (b3.out.mono BW2.out.size))
    have O_own_3 := hid (O_own_2.out.below b3.out)
    have O_a_3 := hid (O_a_2.out.below b3.out)
    clear BW2 O_own_2 O_a_2
    have O_b_3 := hid (H3.out.1)
    have I_b : Hid (∀ b, (Value.slice A3 n3 c3).ownBlock = some b → w2.heap.size ≤ b ∧ b < w3.heap.size) := hid (own_lt O_b_3.out)
    clear H3 C3 b3
    have C4 := rsame_any O_a_3.out.ds O_b_3.out.ds (Nat.le_refl _) (Nat.le_refl _)
    rw [decide_eq_true rfl] at C4
    unfold Tel at C4
    go_wp2_with fail
    refine C4.mono ?_
    rintro e w4 ⟨rfl, b4⟩
    have HS4 := hid (show w3.heap.size ≤ w4.heap.size from b4.out.size)
    have BW4 := hid (BW3.out.trans (b4.out.mono BW3.out.size))
    have O_own_4 := hid (O_own_3.out.below b4.out)
    have O_a_4 := hid (O_a_3.out.below b4.out)
    have O_b_4 := hid (O_b_3.out.below b4.out)
    clear BW3 O_own_3 O_a_3 O_b_3
    clear C4 b4
    have C5 := spoil_any O_a_4.out
    go_wp2_with fail
    refine C5.mono ?_
    rintro e w5 ⟨rfl, G5⟩
    have HS5 := hid (show w4.heap.size ≤ w5.heap.size from G5.out.size)
    have BW5 := hid (BW4.out.trans (spoil_below G5.out O_a_4.out (by have := HS0.out; have := HS1.out; have := HS2.out; have := HS3.out; have := HS4.out; omega) BW4.out.size))
    have O_own_5 := hid (O_own_4.out.kept G5.out (apart_iv fun b hb hb2 => by have h1 := I_own.out b hb; have h2 := I_a.out b hb2; have := HS0.out; have := HS1.out; have := HS2.out; have := HS3.out; have := HS4.out; omega))
    have O_b_5 := hid (O_b_4.out.kept G5.out (apart_iv fun b hb hb2 => by have h1 := I_b.out b hb; have h2 := I_a.out b hb2; have := HS0.out; have := HS1.out; have := HS2.out; have := HS3.out; have := HS4.out; omega))
    clear BW4 O_own_4 O_a_4 O_b_4 G5 C5
    have C6 := rsame_any O_own_5.out.ds (HD.out.below BW5.out) (Nat.le_refl _) BW5.out.size
    rw [decide_eq_true rfl] at C6
    unfold Tel at C6
    go_wp2_with fail
    refine C6.mono ?_
    rintro e w6 ⟨rfl, b6⟩
    have HS6 := hid (show w5.heap.size ≤ w6.heap.size from b6.out.size)
    have BW6 := hid (BW5.out.trans (b6.out.mono BW5.out.size))
    have O_own_6 := hid (O_own_5.out.below b6.out)
    have O_b_6 := hid (O_b_5.out.below b6.out)
    clear BW5 O_own_5 O_b_5
    clear C6 b6
    go_wp2
    go_ret
    exact ⟨rfl, BW6.out⟩

set_option maxHeartbeats 12800000 in
theorem ttells_walk {w : World} {n c : Nat} {A : Option Addr} {l : List De} {t : De} {now number : Int} (h : Ds w w.heap.size A n c l) :
    Calls Try.prog 4 #[.slice A n c, dv t, .int .i64 now, .int .i64 number] w fun e w' => e = .returned (.bool true) ∧ Below w.heap.size w w' := by
  have HL := hid h.len
  have hm := h.max
  have hcap := h.cap
  obtain ⟨t1, t2⟩ := t
  obtain ⟨W, hW⟩ : ∃ W, W = w.alloc (.cells #[.int .i64 t1, .int .i64 t2] 23) := ⟨_, rfl⟩
  have BW0 : Hid (Below w.heap.size w W) := hid (hW ▸ box1 w t1 t2)
  have HS0 := hid BW0.out.size
  have X_t_0 : Hid (Dbx W w.heap.size (t1, t2)) := hid (hW ▸ heap_alloc_new w _)
  have HW := hid hW
  have HD := hid h
  clear hW h
  have CG := hid (great_any (w := W) (A := A) (n := n) (c := c))
  show Calls Try.prog 4 #[.slice A n c, .agg #[.int .i64 t1, .int .i64 t2], .int .i64 now, .int .i64 number] w _
  cases hg : grt n with
  | true =>
    rw [hg] at CG
    go_enter Try.func4, Try.ntmps4
    go_upto_region 1 with fail
    rw [← HW.out]
    go_wp2_with (first | (go_at_call 16; with_reducible refine CG.out.mono ?_; rintro e w1 ⟨rfl, rfl⟩) | fail)
    go_ret
    exact ⟨rfl, BW0.out⟩
  | false =>
    rw [hg] at CG
    have hn8 := grt_le hg
    clear hg
    obtain ⟨sl, hsl⟩ : ∃ x, x = setL l (t1, t2) := ⟨_, rfl⟩
    obtain ⟨se, hse⟩ : ∃ x, x = setE l (t1, t2) := ⟨_, rfl⟩
    obtain ⟨ne, hne⟩ : ∃ x, x = nxE l := ⟨_, rfl⟩
    obtain ⟨nt, hnt⟩ : ∃ x, x = nxT l := ⟨_, rfl⟩
    obtain ⟨de, hde⟩ : ∃ x, x = duE l now := ⟨_, rfl⟩
    obtain ⟨da, hda⟩ : ∃ x, x = duA l now := ⟨_, rfl⟩
    obtain ⟨db, hdb⟩ : ∃ x, x = duB l now := ⟨_, rfl⟩
    obtain ⟨fe, hfe⟩ : ∃ x, x = ofE l number := ⟨_, rfl⟩
    obtain ⟨fl, hfl⟩ : ∃ x, x = ofL l number := ⟨_, rfl⟩
    obtain ⟨ck, hck⟩ : ∃ x, x = chk l := ⟨_, rfl⟩
    have HSe := hid (And.intro hsl.symm hse.symm)
    have HNe := hid (And.intro hnt.symm hne.symm)
    have HDe := hid (And.intro hda.symm (And.intro hdb.symm hde.symm))
    have HFe := hid (And.intro hfl.symm hfe.symm)
    have HCe := hid hck.symm
    clear hsl hse hne hnt hde hda hdb hfe hfl hck
    obtain ⟨nt1, nt2⟩ := nt
    have x0 := X_t_0.out.c0
    have x1 := X_t_0.out.c1
    go_enter Try.func4, Try.ntmps4
    go_upto_region 1 with fail
    rw [← HW.out]
    go_wp2_with (first
      | (go_at_call 16; with_reducible refine CG.out.mono ?_; rintro e w1 ⟨rfl, rfl⟩)
      | (at_builtin; refine list_own rfl _ _ rfl rfl rfl (HD.out.below BW0.out) BW0.out.size (by omega) ?_; intro A1 n1 c1 w1 H1
         have X1 := hid (X_t_0.out.below H1.out.2 X_t_0.out.lt)
         have y0 := X1.out.c0
         have y1 := X1.out.c1)
      | fail)
    have b1 := hid H1.out.2
    have C2 : Calls Try.prog 9 #[.slice A1 n1 c1, .agg #[.int .i64 t1, .int .i64 t2]] w1 (LstE w1 (setL l (t1, t2)) (setE l (t1, t2))) := pset_any (t1, t2) H1.out.1.ds (Nat.le_refl _)
    rw [HSe.out.1, HSe.out.2] at C2
    unfold LstE at C2
    refine C2.mono ?_
    rintro e w2 ⟨v2, rfl, H2⟩
    obtain ⟨A2, n2, c2, rfl, _, _⟩ := od_letter H2.out.1
    clear x0 x1 y0 y1 X1
    have HS1 := hid (show W.heap.size ≤ w1.heap.size from b1.out.size)
    have BW1 := hid (BW0.out.trans (b1.out.mono BW0.out.size))
    have X_t_1 := hid (X_t_0.out.below b1.out X_t_0.out.lt)
    clear BW0 X_t_0
    have O_own_1 := hid (H1.out.1)
    have I_own : Hid (∀ b, (Value.slice A1 n1 c1).ownBlock = some b → W.heap.size ≤ b ∧ b < w1.heap.size) := hid (own_lt O_own_1.out)
    have b2 := hid H2.out.2
    have HS2 := hid (show w1.heap.size ≤ w2.heap.size from b2.out.size)
    have BW2 := hid (BW1.out.trans (b2.out.mono BW1.out.size))
    have O_own_2 := hid (O_own_1.out.below b2.out)
    have X_t_2 := hid (X_t_1.out.below b2.out X_t_1.out.lt)
    clear BW1 O_own_1 X_t_1
    have O_a_2 := hid (H2.out.1)
    have I_a : Hid (∀ b, (Value.slice A2 n2 c2).ownBlock = some b → w1.heap.size ≤ b ∧ b < w2.heap.size) := hid (own_lt O_a_2.out)
    clear H1 H2 C2 b1 b2
    have z0 := X_t_2.out.c0
    have z1 := X_t_2.out.c1
    have C3 := (by have h := rset_any (t1, t2) (HD.out.below BW2.out) BW2.out.size; rw [HSe.out.1, HSe.out.2] at h; exact h)
    unfold LstE at C3
    go_wp2_with fail
    refine C3.mono ?_
    rintro e w3 ⟨v3, rfl, H3⟩
    obtain ⟨A3, n3, c3, rfl, _, _⟩ := od_letter H3.out.1
    have b3 := hid H3.out.2
    have HS3 := hid (show w2.heap.size ≤ w3.heap.size from b3.out.size)
    have BW3 := hid (BW2.out.trans (b3.out.mono BW2.out.size))
    have O_own_3 := hid (O_own_2.out.below b3.out)
    have O_a_3 := hid (O_a_2.out.below b3.out)
    have X_t_3 := hid (X_t_2.out.below b3.out X_t_2.out.lt)
    clear BW2 O_own_2 O_a_2 X_t_2
    have O_b_3 := hid (H3.out.1)
    have I_b : Hid (∀ b, (Value.slice A3 n3 c3).ownBlock = some b → w2.heap.size ≤ b ∧ b < w3.heap.size) := hid (own_lt O_b_3.out)
    clear H3 C3 b3
    clear z0 z1 X_t_3
    have C4 := (by have h := pnext_any O_own_3.out.ds (Nat.le_refl _); rw [HNe.out.1, HNe.out.2] at h; exact h : Calls _ _ _ _ (OneE w3 (nt1, nt2) ne))
    unfold OneE dv at C4
    go_wp2_with fail
    refine C4.mono ?_
    rintro e w4 ⟨rfl, b4⟩
    have HS4 := hid (show w3.heap.size ≤ w4.heap.size from b4.out.size)
    have BW4 := hid (BW3.out.trans (b4.out.mono BW3.out.size))
    have O_own_4 := hid (O_own_3.out.below b4.out)
    have O_a_4 := hid (O_a_3.out.below b4.out)
    have O_b_4 := hid (O_b_3.out.below b4.out)
    clear BW3 O_own_3 O_a_3 O_b_3
    clear C4 b4
    go_upto_region 7 with fail
    obtain ⟨w5, hw5⟩ : ∃ X, X = w4.alloc (.cells #[.int .i64 nt1, .int .i64 nt2] 23) := ⟨_, rfl⟩
    rw [← hw5]
    have b5 : Hid (Below w4.heap.size w4 w5) := hid (hw5 ▸ box1 w4 nt1 nt2)
    have X_x_5 : Hid (Dbx w5 w4.heap.size (nt1, nt2)) := hid (hw5 ▸ heap_alloc_new w4 _)
    clear hw5
    have HS5 := hid (show w4.heap.size ≤ w5.heap.size from b5.out.size)
    have BW5 := hid (BW4.out.trans (b5.out.mono BW4.out.size))
    have O_own_5 := hid (O_own_4.out.below b5.out)
    have O_a_5 := hid (O_a_4.out.below b5.out)
    have O_b_5 := hid (O_b_4.out.below b5.out)
    clear BW4 O_own_4 O_a_4 O_b_4
    clear b5
    have C6 := (by have h := rnext_any (HD.out.below BW5.out) BW5.out.size; rw [HNe.out.1, HNe.out.2] at h; exact h : Calls _ _ _ _ (OneE w5 (nt1, nt2) ne))
    unfold OneE dv at C6
    go_wp2_with fail
    refine C6.mono ?_
    rintro e w6 ⟨rfl, b6⟩
    have HS6 := hid (show w5.heap.size ≤ w6.heap.size from b6.out.size)
    have BW6 := hid (BW5.out.trans (b6.out.mono BW5.out.size))
    have O_own_6 := hid (O_own_5.out.below b6.out)
    have O_a_6 := hid (O_a_5.out.below b6.out)
    have O_b_6 := hid (O_b_5.out.below b6.out)
    have X_x_6 := hid (X_x_5.out.below b6.out X_x_5.out.lt)
    clear BW5 O_own_5 O_a_5 O_b_5 X_x_5
    clear C6 b6
    go_upto_region 8 with fail
    obtain ⟨w7, hw7⟩ : ∃ X, X = w6.alloc (.cells #[.int .i64 nt1, .int .i64 nt2] 23) := ⟨_, rfl⟩
    rw [← hw7]
    have b7 : Hid (Below w6.heap.size w6 w7) := hid (hw7 ▸ box1 w6 nt1 nt2)
    have X_y_7 : Hid (Dbx w7 w6.heap.size (nt1, nt2)) := hid (hw7 ▸ heap_alloc_new w6 _)
    clear hw7
    have HS7 := hid (show w6.heap.size ≤ w7.heap.size from b7.out.size)
    have BW7 := hid (BW6.out.trans (b7.out.mono BW6.out.size))
    have O_own_7 := hid (O_own_6.out.below b7.out)
    have O_a_7 := hid (O_a_6.out.below b7.out)
    have O_b_7 := hid (O_b_6.out.below b7.out)
    have X_x_7 := hid (X_x_6.out.below b7.out X_x_6.out.lt)
    clear BW6 O_own_6 O_a_6 O_b_6 X_x_6
    clear b7
    have C8 := (by have h := pdue_any now O_own_7.out.ds (Nat.le_refl _); rw [HDe.out.1, HDe.out.2.1, HDe.out.2.2] at h; exact h : Calls _ _ _ _ (TwoE w7 da db de))
    unfold TwoE at C8
    go_wp2_with fail
    refine C8.mono ?_
    rintro e w8 ⟨v8, u8, rfl, H8⟩
    obtain ⟨A8, n8, c8, rfl, _, _⟩ := od_letter H8.out.1
    obtain ⟨D8, m8, d8, rfl, _, _⟩ := od_letter H8.out.2.1
    have b8 := hid H8.out.2.2.2
    have F8 := hid H8.out.2.2.1
    have HS8 := hid (show w7.heap.size ≤ w8.heap.size from b8.out.size)
    have BW8 := hid (BW7.out.trans (b8.out.mono BW7.out.size))
    have O_own_8 := hid (O_own_7.out.below b8.out)
    have O_a_8 := hid (O_a_7.out.below b8.out)
    have O_b_8 := hid (O_b_7.out.below b8.out)
    have X_x_8 := hid (X_x_7.out.below b8.out X_x_7.out.lt)
    have X_y_8 := hid (X_y_7.out.below b8.out X_y_7.out.lt)
    clear BW7 O_own_7 O_a_7 O_b_7 X_x_7 X_y_7
    have O_due_8 := hid (H8.out.1)
    have I_due : Hid (∀ b, (Value.slice A8 n8 c8).ownBlock = some b → w7.heap.size ≤ b ∧ b < w8.heap.size) := hid (own_lt O_due_8.out)
    have O_left_8 := hid (H8.out.2.1)
    have I_left : Hid (∀ b, (Value.slice D8 m8 d8).ownBlock = some b → w7.heap.size ≤ b ∧ b < w8.heap.size) := hid (own_lt O_left_8.out)
    clear H8 C8 b8
    have C9 := (by have h := rdue_any now (HD.out.below BW8.out) BW8.out.size; rw [HDe.out.1, HDe.out.2.1, HDe.out.2.2] at h; exact h : Calls _ _ _ _ (TwoE w8 da db de))
    unfold TwoE at C9
    go_wp2_with fail
    refine C9.mono ?_
    rintro e w9 ⟨v9, u9, rfl, H9⟩
    obtain ⟨A9, n9, c9, rfl, _, _⟩ := od_letter H9.out.1
    obtain ⟨D9, m9, d9, rfl, _, _⟩ := od_letter H9.out.2.1
    have b9 := hid H9.out.2.2.2
    have F9 := hid H9.out.2.2.1
    have HS9 := hid (show w8.heap.size ≤ w9.heap.size from b9.out.size)
    have BW9 := hid (BW8.out.trans (b9.out.mono BW8.out.size))
    have O_own_9 := hid (O_own_8.out.below b9.out)
    have O_a_9 := hid (O_a_8.out.below b9.out)
    have O_b_9 := hid (O_b_8.out.below b9.out)
    have O_due_9 := hid (O_due_8.out.below b9.out)
    have O_left_9 := hid (O_left_8.out.below b9.out)
    have X_x_9 := hid (X_x_8.out.below b9.out X_x_8.out.lt)
    have X_y_9 := hid (X_y_8.out.below b9.out X_y_8.out.lt)
    clear BW8 O_own_8 O_a_8 O_b_8 O_due_8 O_left_8 X_x_8 X_y_8
    have O_p_9 := hid (H9.out.1)
    have I_p : Hid (∀ b, (Value.slice A9 n9 c9).ownBlock = some b → w8.heap.size ≤ b ∧ b < w9.heap.size) := hid (own_lt O_p_9.out)
    have O_q_9 := hid (H9.out.2.1)
    have I_q : Hid (∀ b, (Value.slice D9 m9 d9).ownBlock = some b → w8.heap.size ≤ b ∧ b < w9.heap.size) := hid (own_lt O_q_9.out)
    clear H9 C9 b9
    have C10 := (by have h := poff_any number O_own_9.out.ds (Nat.le_refl _); rw [HFe.out.1, HFe.out.2] at h; exact h : Calls _ _ _ _ (LstE w9 fl fe))
    unfold LstE at C10
    go_wp2_with fail
    refine C10.mono ?_
    rintro e w10 ⟨v10, rfl, H10⟩
    obtain ⟨A10, n10, c10, rfl, _, _⟩ := od_letter H10.out.1
    have b10 := hid H10.out.2
    have HS10 := hid (show w9.heap.size ≤ w10.heap.size from b10.out.size)
    have BW10 := hid (BW9.out.trans (b10.out.mono BW9.out.size))
    have O_own_10 := hid (O_own_9.out.below b10.out)
    have O_a_10 := hid (O_a_9.out.below b10.out)
    have O_b_10 := hid (O_b_9.out.below b10.out)
    have O_due_10 := hid (O_due_9.out.below b10.out)
    have O_left_10 := hid (O_left_9.out.below b10.out)
    have O_p_10 := hid (O_p_9.out.below b10.out)
    have O_q_10 := hid (O_q_9.out.below b10.out)
    have X_x_10 := hid (X_x_9.out.below b10.out X_x_9.out.lt)
    have X_y_10 := hid (X_y_9.out.below b10.out X_y_9.out.lt)
    clear BW9 O_own_9 O_a_9 O_b_9 O_due_9 O_left_9 O_p_9 O_q_9 X_x_9 X_y_9
    have O_c_10 := hid (H10.out.1)
    have I_c : Hid (∀ b, (Value.slice A10 n10 c10).ownBlock = some b → w9.heap.size ≤ b ∧ b < w10.heap.size) := hid (own_lt O_c_10.out)
    clear H10 C10 b10
    have C11 := (by have h := roff_any number (HD.out.below BW10.out) BW10.out.size; rw [HFe.out.1, HFe.out.2] at h; exact h : Calls _ _ _ _ (LstE w10 fl fe))
    unfold LstE at C11
    go_wp2_with fail
    refine C11.mono ?_
    rintro e w11 ⟨v11, rfl, H11⟩
    obtain ⟨A11, n11, c11, rfl, _, _⟩ := od_letter H11.out.1
    have b11 := hid H11.out.2
    have HS11 := hid (show w10.heap.size ≤ w11.heap.size from b11.out.size)
    have BW11 := hid (BW10.out.trans (b11.out.mono BW10.out.size))
    have O_own_11 := hid (O_own_10.out.below b11.out)
    have O_a_11 := hid (O_a_10.out.below b11.out)
    have O_b_11 := hid (O_b_10.out.below b11.out)
    have O_due_11 := hid (O_due_10.out.below b11.out)
    have O_left_11 := hid (O_left_10.out.below b11.out)
    have O_p_11 := hid (O_p_10.out.below b11.out)
    have O_q_11 := hid (O_q_10.out.below b11.out)
    have O_c_11 := hid (O_c_10.out.below b11.out)
    have X_x_11 := hid (X_x_10.out.below b11.out X_x_10.out.lt)
    have X_y_11 := hid (X_y_10.out.below b11.out X_y_10.out.lt)
    clear BW10 O_own_10 O_a_10 O_b_10 O_due_10 O_left_10 O_p_10 O_q_10 O_c_10 X_x_10 X_y_10
    have O_d_11 := hid (H11.out.1)
    have I_d : Hid (∀ b, (Value.slice A11 n11 c11).ownBlock = some b → w10.heap.size ≤ b ∧ b < w11.heap.size) := hid (own_lt O_d_11.out)
    clear H11 C11 b11
    have C12 := rsame_any O_a_11.out.ds O_b_11.out.ds (Nat.le_refl _) (Nat.le_refl _)
    rw [decide_eq_true rfl] at C12
    unfold Tel at C12
    go_wp2_with fail
    refine C12.mono ?_
    rintro e w12 ⟨rfl, b12⟩
    have HS12 := hid (show w11.heap.size ≤ w12.heap.size from b12.out.size)
    have BW12 := hid (BW11.out.trans (b12.out.mono BW11.out.size))
    have O_own_12 := hid (O_own_11.out.below b12.out)
    have O_a_12 := hid (O_a_11.out.below b12.out)
    have O_b_12 := hid (O_b_11.out.below b12.out)
    have O_due_12 := hid (O_due_11.out.below b12.out)
    have O_left_12 := hid (O_left_11.out.below b12.out)
    have O_p_12 := hid (O_p_11.out.below b12.out)
    have O_q_12 := hid (O_q_11.out.below b12.out)
    have O_c_12 := hid (O_c_11.out.below b12.out)
    have O_d_12 := hid (O_d_11.out.below b12.out)
    have X_x_12 := hid (X_x_11.out.below b12.out X_x_11.out.lt)
    have X_y_12 := hid (X_y_11.out.below b12.out X_y_11.out.lt)
    clear BW11 O_own_11 O_a_11 O_b_11 O_due_11 O_left_11 O_p_11 O_q_11 O_c_11 O_d_11 X_x_11 X_y_11
    clear C12 b12
    have q0 := X_x_12.out.c0
    have q1 := X_x_12.out.c1
    have q2 := X_y_12.out.c0
    have q3 := X_y_12.out.c1
    have C13 := pcheck_any O_own_12.out.ds (Nat.le_refl _)
    rw [HCe.out] at C13
    go_wp2_with fail
    refine C13.mono ?_
    rintro e w13 ⟨rfl, b13⟩
    have HS13 := hid (show w12.heap.size ≤ w13.heap.size from b13.out.size)
    have BW13 := hid (BW12.out.trans (b13.out.mono BW12.out.size))
    have O_own_13 := hid (O_own_12.out.below b13.out)
    have O_a_13 := hid (O_a_12.out.below b13.out)
    have O_b_13 := hid (O_b_12.out.below b13.out)
    have O_due_13 := hid (O_due_12.out.below b13.out)
    have O_left_13 := hid (O_left_12.out.below b13.out)
    have O_p_13 := hid (O_p_12.out.below b13.out)
    have O_q_13 := hid (O_q_12.out.below b13.out)
    have O_c_13 := hid (O_c_12.out.below b13.out)
    have O_d_13 := hid (O_d_12.out.below b13.out)
    have X_x_13 := hid (X_x_12.out.below b13.out X_x_12.out.lt)
    have X_y_13 := hid (X_y_12.out.below b13.out X_y_12.out.lt)
    clear BW12 O_own_12 O_a_12 O_b_12 O_due_12 O_left_12 O_p_12 O_q_12 O_c_12 O_d_12 X_x_12 X_y_12
    clear C13 b13
    clear q0 q1 q2 q3 X_x_13 X_y_13
    have C14 := rcheck_any (HD.out.below BW13.out) BW13.out.size
    rw [HCe.out] at C14
    go_wp2_with fail
    refine C14.mono ?_
    rintro e w14 ⟨rfl, b14⟩
    have HS14 := hid (show w13.heap.size ≤ w14.heap.size from b14.out.size)
    have BW14 := hid (BW13.out.trans (b14.out.mono BW13.out.size))
    have O_own_14 := hid (O_own_13.out.below b14.out)
    have O_a_14 := hid (O_a_13.out.below b14.out)
    have O_b_14 := hid (O_b_13.out.below b14.out)
    have O_due_14 := hid (O_due_13.out.below b14.out)
    have O_left_14 := hid (O_left_13.out.below b14.out)
    have O_p_14 := hid (O_p_13.out.below b14.out)
    have O_q_14 := hid (O_q_13.out.below b14.out)
    have O_c_14 := hid (O_c_13.out.below b14.out)
    have O_d_14 := hid (O_d_13.out.below b14.out)
    clear BW13 O_own_13 O_a_13 O_b_13 O_due_13 O_left_13 O_p_13 O_q_13 O_c_13 O_d_13
    clear C14 b14
    have C15 := spoil_any O_due_14.out
    go_wp2_with fail
    refine C15.mono ?_
    rintro e w15 ⟨rfl, G15⟩
    have HS15 := hid (show w14.heap.size ≤ w15.heap.size from G15.out.size)
    have BW15 := hid (BW14.out.trans (spoil_below G15.out O_due_14.out (by have := HS0.out; have := HS1.out; have := HS2.out; have := HS3.out; have := HS4.out; have := HS5.out; have := HS6.out; have := HS7.out; have := HS8.out; have := HS9.out; have := HS10.out; have := HS11.out; have := HS12.out; have := HS13.out; have := HS14.out; omega) BW14.out.size))
    have O_own_15 := hid (O_own_14.out.kept G15.out (apart_iv fun b hb hb2 => by have h1 := I_own.out b hb; have h2 := I_due.out b hb2; have := HS0.out; have := HS1.out; have := HS2.out; have := HS3.out; have := HS4.out; have := HS5.out; have := HS6.out; have := HS7.out; have := HS8.out; have := HS9.out; have := HS10.out; have := HS11.out; have := HS12.out; have := HS13.out; have := HS14.out; omega))
    have O_a_15 := hid (O_a_14.out.kept G15.out (apart_iv fun b hb hb2 => by have h1 := I_a.out b hb; have h2 := I_due.out b hb2; have := HS0.out; have := HS1.out; have := HS2.out; have := HS3.out; have := HS4.out; have := HS5.out; have := HS6.out; have := HS7.out; have := HS8.out; have := HS9.out; have := HS10.out; have := HS11.out; have := HS12.out; have := HS13.out; have := HS14.out; omega))
    have O_b_15 := hid (O_b_14.out.kept G15.out (apart_iv fun b hb hb2 => by have h1 := I_b.out b hb; have h2 := I_due.out b hb2; have := HS0.out; have := HS1.out; have := HS2.out; have := HS3.out; have := HS4.out; have := HS5.out; have := HS6.out; have := HS7.out; have := HS8.out; have := HS9.out; have := HS10.out; have := HS11.out; have := HS12.out; have := HS13.out; have := HS14.out; omega))
    have O_left_15 := hid (O_left_14.out.kept G15.out (apart_iv fun b hb hb2 => F8.out.symm b hb hb2))
    have O_p_15 := hid (O_p_14.out.kept G15.out (apart_iv fun b hb hb2 => by have h1 := I_p.out b hb; have h2 := I_due.out b hb2; have := HS0.out; have := HS1.out; have := HS2.out; have := HS3.out; have := HS4.out; have := HS5.out; have := HS6.out; have := HS7.out; have := HS8.out; have := HS9.out; have := HS10.out; have := HS11.out; have := HS12.out; have := HS13.out; have := HS14.out; omega))
    have O_q_15 := hid (O_q_14.out.kept G15.out (apart_iv fun b hb hb2 => by have h1 := I_q.out b hb; have h2 := I_due.out b hb2; have := HS0.out; have := HS1.out; have := HS2.out; have := HS3.out; have := HS4.out; have := HS5.out; have := HS6.out; have := HS7.out; have := HS8.out; have := HS9.out; have := HS10.out; have := HS11.out; have := HS12.out; have := HS13.out; have := HS14.out; omega))
    have O_c_15 := hid (O_c_14.out.kept G15.out (apart_iv fun b hb hb2 => by have h1 := I_c.out b hb; have h2 := I_due.out b hb2; have := HS0.out; have := HS1.out; have := HS2.out; have := HS3.out; have := HS4.out; have := HS5.out; have := HS6.out; have := HS7.out; have := HS8.out; have := HS9.out; have := HS10.out; have := HS11.out; have := HS12.out; have := HS13.out; have := HS14.out; omega))
    have O_d_15 := hid (O_d_14.out.kept G15.out (apart_iv fun b hb hb2 => by have h1 := I_d.out b hb; have h2 := I_due.out b hb2; have := HS0.out; have := HS1.out; have := HS2.out; have := HS3.out; have := HS4.out; have := HS5.out; have := HS6.out; have := HS7.out; have := HS8.out; have := HS9.out; have := HS10.out; have := HS11.out; have := HS12.out; have := HS13.out; have := HS14.out; omega))
    clear BW14 O_own_14 O_a_14 O_b_14 O_due_14 O_left_14 O_p_14 O_q_14 O_c_14 O_d_14 G15 C15
    have C16 := rsame_any O_left_15.out.ds O_q_15.out.ds (Nat.le_refl _) (Nat.le_refl _)
    rw [decide_eq_true rfl] at C16
    unfold Tel at C16
    go_wp2_with fail
    refine C16.mono ?_
    rintro e w16 ⟨rfl, b16⟩
    have HS16 := hid (show w15.heap.size ≤ w16.heap.size from b16.out.size)
    have BW16 := hid (BW15.out.trans (b16.out.mono BW15.out.size))
    have O_own_16 := hid (O_own_15.out.below b16.out)
    have O_a_16 := hid (O_a_15.out.below b16.out)
    have O_b_16 := hid (O_b_15.out.below b16.out)
    have O_left_16 := hid (O_left_15.out.below b16.out)
    have O_p_16 := hid (O_p_15.out.below b16.out)
    have O_q_16 := hid (O_q_15.out.below b16.out)
    have O_c_16 := hid (O_c_15.out.below b16.out)
    have O_d_16 := hid (O_d_15.out.below b16.out)
    clear BW15 O_own_15 O_a_15 O_b_15 O_left_15 O_p_15 O_q_15 O_c_15 O_d_15
    clear C16 b16
    have C17 := (by have h := pdue_any now O_own_16.out.ds (Nat.le_refl _); rw [HDe.out.1, HDe.out.2.1, HDe.out.2.2] at h; exact h : Calls _ _ _ _ (TwoE w16 da db de))
    unfold TwoE at C17
    go_wp2_with fail
    refine C17.mono ?_
    rintro e w17 ⟨v17, u17, rfl, H17⟩
    obtain ⟨A17, n17, c17, rfl, _, _⟩ := od_letter H17.out.1
    obtain ⟨D17, m17, d17, rfl, _, _⟩ := od_letter H17.out.2.1
    have b17 := hid H17.out.2.2.2
    have F17 := hid H17.out.2.2.1
    have HS17 := hid (show w16.heap.size ≤ w17.heap.size from b17.out.size)
    have BW17 := hid (BW16.out.trans (b17.out.mono BW16.out.size))
    have O_own_17 := hid (O_own_16.out.below b17.out)
    have O_a_17 := hid (O_a_16.out.below b17.out)
    have O_b_17 := hid (O_b_16.out.below b17.out)
    have O_left_17 := hid (O_left_16.out.below b17.out)
    have O_p_17 := hid (O_p_16.out.below b17.out)
    have O_q_17 := hid (O_q_16.out.below b17.out)
    have O_c_17 := hid (O_c_16.out.below b17.out)
    have O_d_17 := hid (O_d_16.out.below b17.out)
    clear BW16 O_own_16 O_a_16 O_b_16 O_left_16 O_p_16 O_q_16 O_c_16 O_d_16
    have O_due2_17 := hid (H17.out.1)
    have I_due2 : Hid (∀ b, (Value.slice A17 n17 c17).ownBlock = some b → w16.heap.size ≤ b ∧ b < w17.heap.size) := hid (own_lt O_due2_17.out)
    have O_left2_17 := hid (H17.out.2.1)
    have I_left2 : Hid (∀ b, (Value.slice D17 m17 d17).ownBlock = some b → w16.heap.size ≤ b ∧ b < w17.heap.size) := hid (own_lt O_left2_17.out)
    clear H17 C17 b17
    have C18 := rsame_any O_due2_17.out.ds O_p_17.out.ds (Nat.le_refl _) (Nat.le_refl _)
    rw [decide_eq_true rfl] at C18
    unfold Tel at C18
    go_wp2_with fail
    refine C18.mono ?_
    rintro e w18 ⟨rfl, b18⟩
    have HS18 := hid (show w17.heap.size ≤ w18.heap.size from b18.out.size)
    have BW18 := hid (BW17.out.trans (b18.out.mono BW17.out.size))
    have O_own_18 := hid (O_own_17.out.below b18.out)
    have O_a_18 := hid (O_a_17.out.below b18.out)
    have O_b_18 := hid (O_b_17.out.below b18.out)
    have O_left_18 := hid (O_left_17.out.below b18.out)
    have O_p_18 := hid (O_p_17.out.below b18.out)
    have O_q_18 := hid (O_q_17.out.below b18.out)
    have O_c_18 := hid (O_c_17.out.below b18.out)
    have O_d_18 := hid (O_d_17.out.below b18.out)
    have O_due2_18 := hid (O_due2_17.out.below b18.out)
    have O_left2_18 := hid (O_left2_17.out.below b18.out)
    clear BW17 O_own_17 O_a_17 O_b_17 O_left_17 O_p_17 O_q_17 O_c_17 O_d_17 O_due2_17 O_left2_17
    clear C18 b18
    have C19 := rsame_any O_left2_18.out.ds O_q_18.out.ds (Nat.le_refl _) (Nat.le_refl _)
    rw [decide_eq_true rfl] at C19
    unfold Tel at C19
    go_wp2_with fail
    refine C19.mono ?_
    rintro e w19 ⟨rfl, b19⟩
    have HS19 := hid (show w18.heap.size ≤ w19.heap.size from b19.out.size)
    have BW19 := hid (BW18.out.trans (b19.out.mono BW18.out.size))
    have O_own_19 := hid (O_own_18.out.below b19.out)
    have O_a_19 := hid (O_a_18.out.below b19.out)
    have O_b_19 := hid (O_b_18.out.below b19.out)
    have O_left_19 := hid (O_left_18.out.below b19.out)
    have O_p_19 := hid (O_p_18.out.below b19.out)
    have O_q_19 := hid (O_q_18.out.below b19.out)
    have O_c_19 := hid (O_c_18.out.below b19.out)
    have O_d_19 := hid (O_d_18.out.below b19.out)
    have O_due2_19 := hid (O_due2_18.out.below b19.out)
    have O_left2_19 := hid (O_left2_18.out.below b19.out)
    clear BW18 O_own_18 O_a_18 O_b_18 O_left_18 O_p_18 O_q_18 O_c_18 O_d_18 O_due2_18 O_left2_18
    clear C19 b19
    have C20 := rsame_any O_c_19.out.ds O_d_19.out.ds (Nat.le_refl _) (Nat.le_refl _)
    rw [decide_eq_true rfl] at C20
    unfold Tel at C20
    go_wp2_with fail
    refine C20.mono ?_
    rintro e w20 ⟨rfl, b20⟩
    have HS20 := hid (show w19.heap.size ≤ w20.heap.size from b20.out.size)
    have BW20 := hid (BW19.out.trans (b20.out.mono BW19.out.size))
    have O_own_20 := hid (O_own_19.out.below b20.out)
    have O_a_20 := hid (O_a_19.out.below b20.out)
    have O_b_20 := hid (O_b_19.out.below b20.out)
    have O_left_20 := hid (O_left_19.out.below b20.out)
    have O_p_20 := hid (O_p_19.out.below b20.out)
    have O_q_20 := hid (O_q_19.out.below b20.out)
    have O_c_20 := hid (O_c_19.out.below b20.out)
    have O_d_20 := hid (O_d_19.out.below b20.out)
    have O_due2_20 := hid (O_due2_19.out.below b20.out)
    have O_left2_20 := hid (O_left2_19.out.below b20.out)
    clear BW19 O_own_19 O_a_19 O_b_19 O_left_19 O_p_19 O_q_19 O_c_19 O_d_19 O_due2_19 O_left2_19
    clear C20 b20
    have C21 := spoil_any O_a_20.out
    go_wp2_with fail
    refine C21.mono ?_
    rintro e w21 ⟨rfl, G21⟩
    have HS21 := hid (show w20.heap.size ≤ w21.heap.size from G21.out.size)
    have BW21 := hid (BW20.out.trans (spoil_below G21.out O_a_20.out (by have := HS0.out; have := HS1.out; have := HS2.out; have := HS3.out; have := HS4.out; have := HS5.out; have := HS6.out; have := HS7.out; have := HS8.out; have := HS9.out; have := HS10.out; have := HS11.out; have := HS12.out; have := HS13.out; have := HS14.out; have := HS15.out; have := HS16.out; have := HS17.out; have := HS18.out; have := HS19.out; have := HS20.out; omega) BW20.out.size))
    have O_own_21 := hid (O_own_20.out.kept G21.out (apart_iv fun b hb hb2 => by have h1 := I_own.out b hb; have h2 := I_a.out b hb2; have := HS0.out; have := HS1.out; have := HS2.out; have := HS3.out; have := HS4.out; have := HS5.out; have := HS6.out; have := HS7.out; have := HS8.out; have := HS9.out; have := HS10.out; have := HS11.out; have := HS12.out; have := HS13.out; have := HS14.out; have := HS15.out; have := HS16.out; have := HS17.out; have := HS18.out; have := HS19.out; have := HS20.out; omega))
    have O_b_21 := hid (O_b_20.out.kept G21.out (apart_iv fun b hb hb2 => by have h1 := I_b.out b hb; have h2 := I_a.out b hb2; have := HS0.out; have := HS1.out; have := HS2.out; have := HS3.out; have := HS4.out; have := HS5.out; have := HS6.out; have := HS7.out; have := HS8.out; have := HS9.out; have := HS10.out; have := HS11.out; have := HS12.out; have := HS13.out; have := HS14.out; have := HS15.out; have := HS16.out; have := HS17.out; have := HS18.out; have := HS19.out; have := HS20.out; omega))
    have O_left_21 := hid (O_left_20.out.kept G21.out (apart_iv fun b hb hb2 => by have h1 := I_left.out b hb; have h2 := I_a.out b hb2; have := HS0.out; have := HS1.out; have := HS2.out; have := HS3.out; have := HS4.out; have := HS5.out; have := HS6.out; have := HS7.out; have := HS8.out; have := HS9.out; have := HS10.out; have := HS11.out; have := HS12.out; have := HS13.out; have := HS14.out; have := HS15.out; have := HS16.out; have := HS17.out; have := HS18.out; have := HS19.out; have := HS20.out; omega))
    have O_p_21 := hid (O_p_20.out.kept G21.out (apart_iv fun b hb hb2 => by have h1 := I_p.out b hb; have h2 := I_a.out b hb2; have := HS0.out; have := HS1.out; have := HS2.out; have := HS3.out; have := HS4.out; have := HS5.out; have := HS6.out; have := HS7.out; have := HS8.out; have := HS9.out; have := HS10.out; have := HS11.out; have := HS12.out; have := HS13.out; have := HS14.out; have := HS15.out; have := HS16.out; have := HS17.out; have := HS18.out; have := HS19.out; have := HS20.out; omega))
    have O_q_21 := hid (O_q_20.out.kept G21.out (apart_iv fun b hb hb2 => by have h1 := I_q.out b hb; have h2 := I_a.out b hb2; have := HS0.out; have := HS1.out; have := HS2.out; have := HS3.out; have := HS4.out; have := HS5.out; have := HS6.out; have := HS7.out; have := HS8.out; have := HS9.out; have := HS10.out; have := HS11.out; have := HS12.out; have := HS13.out; have := HS14.out; have := HS15.out; have := HS16.out; have := HS17.out; have := HS18.out; have := HS19.out; have := HS20.out; omega))
    have O_c_21 := hid (O_c_20.out.kept G21.out (apart_iv fun b hb hb2 => by have h1 := I_c.out b hb; have h2 := I_a.out b hb2; have := HS0.out; have := HS1.out; have := HS2.out; have := HS3.out; have := HS4.out; have := HS5.out; have := HS6.out; have := HS7.out; have := HS8.out; have := HS9.out; have := HS10.out; have := HS11.out; have := HS12.out; have := HS13.out; have := HS14.out; have := HS15.out; have := HS16.out; have := HS17.out; have := HS18.out; have := HS19.out; have := HS20.out; omega))
    have O_d_21 := hid (O_d_20.out.kept G21.out (apart_iv fun b hb hb2 => by have h1 := I_d.out b hb; have h2 := I_a.out b hb2; have := HS0.out; have := HS1.out; have := HS2.out; have := HS3.out; have := HS4.out; have := HS5.out; have := HS6.out; have := HS7.out; have := HS8.out; have := HS9.out; have := HS10.out; have := HS11.out; have := HS12.out; have := HS13.out; have := HS14.out; have := HS15.out; have := HS16.out; have := HS17.out; have := HS18.out; have := HS19.out; have := HS20.out; omega))
    have O_due2_21 := hid (O_due2_20.out.kept G21.out (apart_iv fun b hb hb2 => by have h1 := I_due2.out b hb; have h2 := I_a.out b hb2; have := HS0.out; have := HS1.out; have := HS2.out; have := HS3.out; have := HS4.out; have := HS5.out; have := HS6.out; have := HS7.out; have := HS8.out; have := HS9.out; have := HS10.out; have := HS11.out; have := HS12.out; have := HS13.out; have := HS14.out; have := HS15.out; have := HS16.out; have := HS17.out; have := HS18.out; have := HS19.out; have := HS20.out; omega))
    have O_left2_21 := hid (O_left2_20.out.kept G21.out (apart_iv fun b hb hb2 => by have h1 := I_left2.out b hb; have h2 := I_a.out b hb2; have := HS0.out; have := HS1.out; have := HS2.out; have := HS3.out; have := HS4.out; have := HS5.out; have := HS6.out; have := HS7.out; have := HS8.out; have := HS9.out; have := HS10.out; have := HS11.out; have := HS12.out; have := HS13.out; have := HS14.out; have := HS15.out; have := HS16.out; have := HS17.out; have := HS18.out; have := HS19.out; have := HS20.out; omega))
    clear BW20 O_own_20 O_a_20 O_b_20 O_left_20 O_p_20 O_q_20 O_c_20 O_d_20 O_due2_20 O_left2_20 G21 C21
    have C22 := spoil_any O_due2_21.out
    go_wp2_with fail
    refine C22.mono ?_
    rintro e w22 ⟨rfl, G22⟩
    have HS22 := hid (show w21.heap.size ≤ w22.heap.size from G22.out.size)
    have BW22 := hid (BW21.out.trans (spoil_below G22.out O_due2_21.out (by have := HS0.out; have := HS1.out; have := HS2.out; have := HS3.out; have := HS4.out; have := HS5.out; have := HS6.out; have := HS7.out; have := HS8.out; have := HS9.out; have := HS10.out; have := HS11.out; have := HS12.out; have := HS13.out; have := HS14.out; have := HS15.out; have := HS16.out; have := HS17.out; have := HS18.out; have := HS19.out; have := HS20.out; have := HS21.out; omega) BW21.out.size))
    have O_own_22 := hid (O_own_21.out.kept G22.out (apart_iv fun b hb hb2 => by have h1 := I_own.out b hb; have h2 := I_due2.out b hb2; have := HS0.out; have := HS1.out; have := HS2.out; have := HS3.out; have := HS4.out; have := HS5.out; have := HS6.out; have := HS7.out; have := HS8.out; have := HS9.out; have := HS10.out; have := HS11.out; have := HS12.out; have := HS13.out; have := HS14.out; have := HS15.out; have := HS16.out; have := HS17.out; have := HS18.out; have := HS19.out; have := HS20.out; have := HS21.out; omega))
    have O_b_22 := hid (O_b_21.out.kept G22.out (apart_iv fun b hb hb2 => by have h1 := I_b.out b hb; have h2 := I_due2.out b hb2; have := HS0.out; have := HS1.out; have := HS2.out; have := HS3.out; have := HS4.out; have := HS5.out; have := HS6.out; have := HS7.out; have := HS8.out; have := HS9.out; have := HS10.out; have := HS11.out; have := HS12.out; have := HS13.out; have := HS14.out; have := HS15.out; have := HS16.out; have := HS17.out; have := HS18.out; have := HS19.out; have := HS20.out; have := HS21.out; omega))
    have O_left_22 := hid (O_left_21.out.kept G22.out (apart_iv fun b hb hb2 => by have h1 := I_left.out b hb; have h2 := I_due2.out b hb2; have := HS0.out; have := HS1.out; have := HS2.out; have := HS3.out; have := HS4.out; have := HS5.out; have := HS6.out; have := HS7.out; have := HS8.out; have := HS9.out; have := HS10.out; have := HS11.out; have := HS12.out; have := HS13.out; have := HS14.out; have := HS15.out; have := HS16.out; have := HS17.out; have := HS18.out; have := HS19.out; have := HS20.out; have := HS21.out; omega))
    have O_p_22 := hid (O_p_21.out.kept G22.out (apart_iv fun b hb hb2 => by have h1 := I_p.out b hb; have h2 := I_due2.out b hb2; have := HS0.out; have := HS1.out; have := HS2.out; have := HS3.out; have := HS4.out; have := HS5.out; have := HS6.out; have := HS7.out; have := HS8.out; have := HS9.out; have := HS10.out; have := HS11.out; have := HS12.out; have := HS13.out; have := HS14.out; have := HS15.out; have := HS16.out; have := HS17.out; have := HS18.out; have := HS19.out; have := HS20.out; have := HS21.out; omega))
    have O_q_22 := hid (O_q_21.out.kept G22.out (apart_iv fun b hb hb2 => by have h1 := I_q.out b hb; have h2 := I_due2.out b hb2; have := HS0.out; have := HS1.out; have := HS2.out; have := HS3.out; have := HS4.out; have := HS5.out; have := HS6.out; have := HS7.out; have := HS8.out; have := HS9.out; have := HS10.out; have := HS11.out; have := HS12.out; have := HS13.out; have := HS14.out; have := HS15.out; have := HS16.out; have := HS17.out; have := HS18.out; have := HS19.out; have := HS20.out; have := HS21.out; omega))
    have O_c_22 := hid (O_c_21.out.kept G22.out (apart_iv fun b hb hb2 => by have h1 := I_c.out b hb; have h2 := I_due2.out b hb2; have := HS0.out; have := HS1.out; have := HS2.out; have := HS3.out; have := HS4.out; have := HS5.out; have := HS6.out; have := HS7.out; have := HS8.out; have := HS9.out; have := HS10.out; have := HS11.out; have := HS12.out; have := HS13.out; have := HS14.out; have := HS15.out; have := HS16.out; have := HS17.out; have := HS18.out; have := HS19.out; have := HS20.out; have := HS21.out; omega))
    have O_d_22 := hid (O_d_21.out.kept G22.out (apart_iv fun b hb hb2 => by have h1 := I_d.out b hb; have h2 := I_due2.out b hb2; have := HS0.out; have := HS1.out; have := HS2.out; have := HS3.out; have := HS4.out; have := HS5.out; have := HS6.out; have := HS7.out; have := HS8.out; have := HS9.out; have := HS10.out; have := HS11.out; have := HS12.out; have := HS13.out; have := HS14.out; have := HS15.out; have := HS16.out; have := HS17.out; have := HS18.out; have := HS19.out; have := HS20.out; have := HS21.out; omega))
    have O_left2_22 := hid (O_left2_21.out.kept G22.out (apart_iv fun b hb hb2 => F17.out.symm b hb hb2))
    clear BW21 O_own_21 O_b_21 O_left_21 O_p_21 O_q_21 O_c_21 O_d_21 O_due2_21 O_left2_21 G22 C22
    have C23 := spoil_any O_left2_22.out
    go_wp2_with fail
    refine C23.mono ?_
    rintro e w23 ⟨rfl, G23⟩
    have HS23 := hid (show w22.heap.size ≤ w23.heap.size from G23.out.size)
    have BW23 := hid (BW22.out.trans (spoil_below G23.out O_left2_22.out (by have := HS0.out; have := HS1.out; have := HS2.out; have := HS3.out; have := HS4.out; have := HS5.out; have := HS6.out; have := HS7.out; have := HS8.out; have := HS9.out; have := HS10.out; have := HS11.out; have := HS12.out; have := HS13.out; have := HS14.out; have := HS15.out; have := HS16.out; have := HS17.out; have := HS18.out; have := HS19.out; have := HS20.out; have := HS21.out; have := HS22.out; omega) BW22.out.size))
    have O_own_23 := hid (O_own_22.out.kept G23.out (apart_iv fun b hb hb2 => by have h1 := I_own.out b hb; have h2 := I_left2.out b hb2; have := HS0.out; have := HS1.out; have := HS2.out; have := HS3.out; have := HS4.out; have := HS5.out; have := HS6.out; have := HS7.out; have := HS8.out; have := HS9.out; have := HS10.out; have := HS11.out; have := HS12.out; have := HS13.out; have := HS14.out; have := HS15.out; have := HS16.out; have := HS17.out; have := HS18.out; have := HS19.out; have := HS20.out; have := HS21.out; have := HS22.out; omega))
    have O_b_23 := hid (O_b_22.out.kept G23.out (apart_iv fun b hb hb2 => by have h1 := I_b.out b hb; have h2 := I_left2.out b hb2; have := HS0.out; have := HS1.out; have := HS2.out; have := HS3.out; have := HS4.out; have := HS5.out; have := HS6.out; have := HS7.out; have := HS8.out; have := HS9.out; have := HS10.out; have := HS11.out; have := HS12.out; have := HS13.out; have := HS14.out; have := HS15.out; have := HS16.out; have := HS17.out; have := HS18.out; have := HS19.out; have := HS20.out; have := HS21.out; have := HS22.out; omega))
    have O_left_23 := hid (O_left_22.out.kept G23.out (apart_iv fun b hb hb2 => by have h1 := I_left.out b hb; have h2 := I_left2.out b hb2; have := HS0.out; have := HS1.out; have := HS2.out; have := HS3.out; have := HS4.out; have := HS5.out; have := HS6.out; have := HS7.out; have := HS8.out; have := HS9.out; have := HS10.out; have := HS11.out; have := HS12.out; have := HS13.out; have := HS14.out; have := HS15.out; have := HS16.out; have := HS17.out; have := HS18.out; have := HS19.out; have := HS20.out; have := HS21.out; have := HS22.out; omega))
    have O_p_23 := hid (O_p_22.out.kept G23.out (apart_iv fun b hb hb2 => by have h1 := I_p.out b hb; have h2 := I_left2.out b hb2; have := HS0.out; have := HS1.out; have := HS2.out; have := HS3.out; have := HS4.out; have := HS5.out; have := HS6.out; have := HS7.out; have := HS8.out; have := HS9.out; have := HS10.out; have := HS11.out; have := HS12.out; have := HS13.out; have := HS14.out; have := HS15.out; have := HS16.out; have := HS17.out; have := HS18.out; have := HS19.out; have := HS20.out; have := HS21.out; have := HS22.out; omega))
    have O_q_23 := hid (O_q_22.out.kept G23.out (apart_iv fun b hb hb2 => by have h1 := I_q.out b hb; have h2 := I_left2.out b hb2; have := HS0.out; have := HS1.out; have := HS2.out; have := HS3.out; have := HS4.out; have := HS5.out; have := HS6.out; have := HS7.out; have := HS8.out; have := HS9.out; have := HS10.out; have := HS11.out; have := HS12.out; have := HS13.out; have := HS14.out; have := HS15.out; have := HS16.out; have := HS17.out; have := HS18.out; have := HS19.out; have := HS20.out; have := HS21.out; have := HS22.out; omega))
    have O_c_23 := hid (O_c_22.out.kept G23.out (apart_iv fun b hb hb2 => by have h1 := I_c.out b hb; have h2 := I_left2.out b hb2; have := HS0.out; have := HS1.out; have := HS2.out; have := HS3.out; have := HS4.out; have := HS5.out; have := HS6.out; have := HS7.out; have := HS8.out; have := HS9.out; have := HS10.out; have := HS11.out; have := HS12.out; have := HS13.out; have := HS14.out; have := HS15.out; have := HS16.out; have := HS17.out; have := HS18.out; have := HS19.out; have := HS20.out; have := HS21.out; have := HS22.out; omega))
    have O_d_23 := hid (O_d_22.out.kept G23.out (apart_iv fun b hb hb2 => by have h1 := I_d.out b hb; have h2 := I_left2.out b hb2; have := HS0.out; have := HS1.out; have := HS2.out; have := HS3.out; have := HS4.out; have := HS5.out; have := HS6.out; have := HS7.out; have := HS8.out; have := HS9.out; have := HS10.out; have := HS11.out; have := HS12.out; have := HS13.out; have := HS14.out; have := HS15.out; have := HS16.out; have := HS17.out; have := HS18.out; have := HS19.out; have := HS20.out; have := HS21.out; have := HS22.out; omega))
    clear BW22 O_own_22 O_b_22 O_left_22 O_p_22 O_q_22 O_c_22 O_d_22 O_left2_22 G23 C23
    have C24 := spoil_any O_c_23.out
    go_wp2_with fail
    refine C24.mono ?_
    rintro e w24 ⟨rfl, G24⟩
    have HS24 := hid (show w23.heap.size ≤ w24.heap.size from G24.out.size)
    have BW24 := hid (BW23.out.trans (spoil_below G24.out O_c_23.out (by have := HS0.out; have := HS1.out; have := HS2.out; have := HS3.out; have := HS4.out; have := HS5.out; have := HS6.out; have := HS7.out; have := HS8.out; have := HS9.out; have := HS10.out; have := HS11.out; have := HS12.out; have := HS13.out; have := HS14.out; have := HS15.out; have := HS16.out; have := HS17.out; have := HS18.out; have := HS19.out; have := HS20.out; have := HS21.out; have := HS22.out; have := HS23.out; omega) BW23.out.size))
    have O_own_24 := hid (O_own_23.out.kept G24.out (apart_iv fun b hb hb2 => by have h1 := I_own.out b hb; have h2 := I_c.out b hb2; have := HS0.out; have := HS1.out; have := HS2.out; have := HS3.out; have := HS4.out; have := HS5.out; have := HS6.out; have := HS7.out; have := HS8.out; have := HS9.out; have := HS10.out; have := HS11.out; have := HS12.out; have := HS13.out; have := HS14.out; have := HS15.out; have := HS16.out; have := HS17.out; have := HS18.out; have := HS19.out; have := HS20.out; have := HS21.out; have := HS22.out; have := HS23.out; omega))
    have O_b_24 := hid (O_b_23.out.kept G24.out (apart_iv fun b hb hb2 => by have h1 := I_b.out b hb; have h2 := I_c.out b hb2; have := HS0.out; have := HS1.out; have := HS2.out; have := HS3.out; have := HS4.out; have := HS5.out; have := HS6.out; have := HS7.out; have := HS8.out; have := HS9.out; have := HS10.out; have := HS11.out; have := HS12.out; have := HS13.out; have := HS14.out; have := HS15.out; have := HS16.out; have := HS17.out; have := HS18.out; have := HS19.out; have := HS20.out; have := HS21.out; have := HS22.out; have := HS23.out; omega))
    have O_left_24 := hid (O_left_23.out.kept G24.out (apart_iv fun b hb hb2 => by have h1 := I_left.out b hb; have h2 := I_c.out b hb2; have := HS0.out; have := HS1.out; have := HS2.out; have := HS3.out; have := HS4.out; have := HS5.out; have := HS6.out; have := HS7.out; have := HS8.out; have := HS9.out; have := HS10.out; have := HS11.out; have := HS12.out; have := HS13.out; have := HS14.out; have := HS15.out; have := HS16.out; have := HS17.out; have := HS18.out; have := HS19.out; have := HS20.out; have := HS21.out; have := HS22.out; have := HS23.out; omega))
    have O_p_24 := hid (O_p_23.out.kept G24.out (apart_iv fun b hb hb2 => by have h1 := I_p.out b hb; have h2 := I_c.out b hb2; have := HS0.out; have := HS1.out; have := HS2.out; have := HS3.out; have := HS4.out; have := HS5.out; have := HS6.out; have := HS7.out; have := HS8.out; have := HS9.out; have := HS10.out; have := HS11.out; have := HS12.out; have := HS13.out; have := HS14.out; have := HS15.out; have := HS16.out; have := HS17.out; have := HS18.out; have := HS19.out; have := HS20.out; have := HS21.out; have := HS22.out; have := HS23.out; omega))
    have O_q_24 := hid (O_q_23.out.kept G24.out (apart_iv fun b hb hb2 => by have h1 := I_q.out b hb; have h2 := I_c.out b hb2; have := HS0.out; have := HS1.out; have := HS2.out; have := HS3.out; have := HS4.out; have := HS5.out; have := HS6.out; have := HS7.out; have := HS8.out; have := HS9.out; have := HS10.out; have := HS11.out; have := HS12.out; have := HS13.out; have := HS14.out; have := HS15.out; have := HS16.out; have := HS17.out; have := HS18.out; have := HS19.out; have := HS20.out; have := HS21.out; have := HS22.out; have := HS23.out; omega))
    have O_d_24 := hid (O_d_23.out.kept G24.out (apart_iv fun b hb hb2 => by have h1 := I_d.out b hb; have h2 := I_c.out b hb2; have := HS0.out; have := HS1.out; have := HS2.out; have := HS3.out; have := HS4.out; have := HS5.out; have := HS6.out; have := HS7.out; have := HS8.out; have := HS9.out; have := HS10.out; have := HS11.out; have := HS12.out; have := HS13.out; have := HS14.out; have := HS15.out; have := HS16.out; have := HS17.out; have := HS18.out; have := HS19.out; have := HS20.out; have := HS21.out; have := HS22.out; have := HS23.out; omega))
    clear BW23 O_own_23 O_b_23 O_left_23 O_p_23 O_q_23 O_c_23 O_d_23 G24 C24
    have C25 := rsame_any O_own_24.out.ds (HD.out.below BW24.out) (Nat.le_refl _) BW24.out.size
    rw [decide_eq_true rfl] at C25
    unfold Tel at C25
    go_wp2_with fail
    refine C25.mono ?_
    rintro e w25 ⟨rfl, b25⟩
    have HS25 := hid (show w24.heap.size ≤ w25.heap.size from b25.out.size)
    have BW25 := hid (BW24.out.trans (b25.out.mono BW24.out.size))
    have O_own_25 := hid (O_own_24.out.below b25.out)
    have O_b_25 := hid (O_b_24.out.below b25.out)
    have O_left_25 := hid (O_left_24.out.below b25.out)
    have O_p_25 := hid (O_p_24.out.below b25.out)
    have O_q_25 := hid (O_q_24.out.below b25.out)
    have O_d_25 := hid (O_d_24.out.below b25.out)
    clear BW24 O_own_24 O_b_24 O_left_24 O_p_24 O_q_24 O_d_24
    clear C25 b25
    go_wp2
    go_ret
    exact ⟨rfl, BW25.out⟩
end Go.Proofs.Ytgcmljnjfghagaa.Tm
