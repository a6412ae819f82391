/- TimerNames, walked. -/
import Derived.Test.YtgcmljnjfghagaaTal
import Derived.OwnWalk
namespace Go.Proofs.Ytgcmljnjfghagaa.Tm
open Go.RowKit Go.Shelf Go.Lib
set_option maxRecDepth 100000

theorem cells_zero (n : Nat) : (madeCells (Value.agg #[.int .i64 0, .int .i64 0]).cells (n * 2)).toList = cellsD (List.replicate n (0, 0)) := by
  apply List.ext_getElem?
  intro j
  by_cases hj : j < n * 2
  · have hr : (List.replicate n ((0, 0) : De))[j / 2]? = some (0, 0) := by rw [List.getElem?_replicate]; simp; omega
    obtain ⟨g1, g2⟩ := cellsD_get hr
    have hz : (Value.agg #[.int .i64 0, .int .i64 0]).cells = #[.int .i64 0, .int .i64 0] := rfl
    rcases Nat.mod_two_eq_zero_or_one j with h0 | h0
    · rw [show j / 2 * 2 = j by omega] at g1
      rw [g1]
      simp [madeCells, hj, hz, h0]
    · rw [show j / 2 * 2 + 1 = j by omega] at g2
      rw [g2]
      simp [madeCells, hj, hz, h0]
  · rw [List.getElem?_eq_none (by simp [madeCells]; omega), List.getElem?_eq_none (by rw [cellsD_length, List.length_replicate]; omega)]
theorem list_make {w : World} {ops : Array Oper} {rest : List Oper} {o : Oper} {a : Act} {Q : Exit → Act → World → Prop} (hg : o.guard = none) (l c : Operand) (hop : o.op = Op.makeSlice 27 l c) (kl kc : IntKind) (M C : Int) (n : Nat) (hl : a.eval l = .int kl M) (hc : a.eval c = .int kc C) (hL : M = (n : Int)) (hC : C = (n : Int)) (hn : n ≤ 100000)
    (h : ∀ Y, Hid (Od Y w.heap.size (.slice (some ⟨w.heap.size, 0, none⟩) n n) (List.replicate n (0, 0)) ∧ Below w.heap.size w Y) → wpList Try.prog ops Q rest (a.put o.dst (.slice (some ⟨w.heap.size, 0, none⟩) n n)) Y) : wpList Try.prog ops Q (o :: rest) a w := by
  obtain ⟨i0, hi0, hz0, hzs, hzb⟩ := info_parts infoD
  refine wpList_make_full w hg l c _ hop w.heap.size 23 i0 _ 2 Try.underlying27 hi0 hz0 hzs kl kc M C n hl hc hL hC (by rw [hzb]; omega) (by unfold maxLen; omega) (Nat.le_refl _) ?_
  intro w' h1 h2
  refine h w' (hid ⟨⟨?_, by rw [List.length_replicate]; exact hn⟩, ⟨h2.os, h2.tape, h2.output, h2.size, fun k hk => h2.block k hk (fun e => (by cases e))⟩⟩)
  rw [List.length_replicate, ← cells_zero]
  exact h1
theorem zero_oe : orE (List.replicate 1024 ((0, 0) : De)) = 0 ∧ orL (List.replicate 1024 ((0, 0) : De)) = [(0, 0)] := by
  obtain ⟨h1, h2⟩ := or_ok (l := List.replicate 1024 ((0, 0) : De)) (by rw [List.length_replicate]; omega) (List.any_eq_false.2 fun x hx => by rw [List.eq_of_mem_replicate hx]; decide)
  refine ⟨h1, h2.trans ?_⟩
  refine st_unique (ordL_ok _).1 (List.pairwise_cons.2 ⟨by simp, List.Pairwise.nil⟩) (fun x => ?_)
  rw [(ordL_ok _).2.1, List.mem_replicate, List.mem_singleton]
  simp
theorem many_oe : orE (List.replicate 1025 ((0, 0) : De)) = 4 ∧ orL (List.replicate 1025 ((0, 0) : De)) = [] := or_many (by rw [List.length_replicate]; omega)
theorem nil_ck : chk [] = 0 := chk_ok (by decide) ⟨by simp, List.Pairwise.nil⟩
theorem one_ck (t : De) (h : may t = true) : chk [t] = 0 := chk_ok (by simp) ⟨by simpa using h, List.pairwise_cons.2 ⟨by simp, List.Pairwise.nil⟩⟩
theorem two_ck : chk [(1, 1), (1, 1)] = 8 := chk_bad (by decide) (Okl.not (j := 0) rfl rfl (by decide))

set_option maxHeartbeats 25600000 in
theorem tnames_walk (w : World) : Calls Try.prog 3 #[] w fun e w' => e = .returned (.bool true) ∧ Below w.heap.size w w' := by
  have BW0 : Hid (Below w.heap.size w w) := hid (Below.refl _ _)
  have HS0 := hid BW0.out.size
  go_enter Try.func3, Try.ntmps3
  have C1 := pnext_any (Ds.nil' w 0) (Nat.zero_le _)
  rw [(nx_none nil_ck rfl).1, (nx_none nil_ck rfl).2] at C1
  unfold OneE dv at C1
  go_wp2_with fail
  refine C1.mono ?_
  rintro e w1 ⟨rfl, b1⟩
  have HS1 := hid (show w.heap.size ≤ w1.heap.size from b1.out.size)
  have BW1 := hid (BW0.out.trans (b1.out.mono BW0.out.size))
  clear BW0
  clear C1 b1
  go_upto_region 2 with fail
  obtain ⟨w2, hw2⟩ : ∃ X, X = w1.alloc (.cells #[.int .i64 0, .int .i64 0] 23) := ⟨_, rfl⟩
  rw [← hw2]
  have b2 : Hid (Below w1.heap.size w1 w2) := hid (hw2 ▸ box1 w1 0 0)
  clear hw2
  have HS2 := hid (show w1.heap.size ≤ w2.heap.size from b2.out.size)
  have BW2 := hid (BW1.out.trans (b2.out.mono BW1.out.size))
  clear BW1
  clear b2
  go_wp2_with fail
  refine (t_any _ _ _).mono ?_
  rintro e w3 ⟨rfl, b3⟩
  have HS3 := hid (show w2.heap.size ≤ w3.heap.size from b3.out.size)
  have BW3 := hid (BW2.out.trans (b3.out.mono BW2.out.size))
  clear BW2
  clear b3
  go_wp2_with fail
  refine (t_any _ _ _).mono ?_
  rintro e w4 ⟨rfl, b4⟩
  have D4 := hid ((ds_at (heap_alloc_new w3 (.cells #[.int .i64 1, .int .i64 1] 23))).below b4.out)
  have b34 : Hid (Below w3.heap.size w3 w4) := hid ((box1 w3 1 1).trans (b4.out.mono (box1 w3 1 1).size))
  have le4 := hid b4.out.size
  clear b4
  have HS4 := hid (show w3.heap.size ≤ w4.heap.size from b34.out.size)
  have BW4 := hid (BW3.out.trans (b34.out.mono BW3.out.size))
  clear BW3
  clear b34
  have C5 : Calls Try.prog 9 #[.slice (some ⟨w3.heap.size, 0, none⟩) 1 1, .agg #[.int .i64 1, .int .i64 1]] w4 (LstE w4 (setL [(1, 1)] (1, 1)) (setE [(1, 1)] (1, 1))) := pset_any (1, 1) D4.out le4.out
  rw [(set_in (l := [(1, 1)]) (t := (1, 1)) (one_ck _ (by decide)) (by decide) (by decide)).1, (set_in (l := [(1, 1)]) (t := (1, 1)) (one_ck _ (by decide)) (by decide) (by decide)).2] at C5
  unfold LstE at C5
  go_wp2_with fail
  refine C5.mono ?_
  rintro e w5 ⟨v5, rfl, H5⟩
  obtain ⟨A5, c5, rfl, O5⟩ := od_num H5.out.1 0 rfl
  have b5 := hid H5.out.2
  have HS5 := hid (show w4.heap.size ≤ w5.heap.size from b5.out.size)
  have BW5 := hid (BW4.out.trans (b5.out.mono BW4.out.size))
  clear BW4
  clear H5 C5 b5 O5
  go_wp2_with fail
  refine (t_any _ _ _).mono ?_
  rintro e w6 ⟨rfl, b6⟩
  have HS6 := hid (show w5.heap.size ≤ w6.heap.size from b6.out.size)
  have BW6 := hid (BW5.out.trans (b6.out.mono BW5.out.size))
  clear BW5
  clear b6
  have C7 : Calls Try.prog 9 #[.slice none 0 0, .agg #[.int .i64 (-1), .int .i64 0]] w6 (LstE w6 (setL [] ((-1), 0)) (setE [] ((-1), 0))) := pset_any ((-1), 0) (Ds.nil' _ 0) (Nat.zero_le _)
  rw [(set_may (l := []) (t := (-1, 0)) nil_ck (by decide)).1, (set_may (l := []) (t := (-1, 0)) nil_ck (by decide)).2] at C7
  unfold LstE at C7
  go_wp2_with fail
  refine C7.mono ?_
  rintro e w7 ⟨v7, rfl, H7⟩
  obtain ⟨A7, c7, rfl, O7⟩ := od_num H7.out.1 0 rfl
  have b7 := hid H7.out.2
  have HS7 := hid (show w6.heap.size ≤ w7.heap.size from b7.out.size)
  have BW7 := hid (BW6.out.trans (b7.out.mono BW6.out.size))
  clear BW6
  clear H7 C7 b7 O7
  go_wp2_with fail
  refine (t_any _ _ _).mono ?_
  rintro e w8 ⟨rfl, b8⟩
  have HS8 := hid (show w7.heap.size ≤ w8.heap.size from b8.out.size)
  have BW8 := hid (BW7.out.trans (b8.out.mono BW7.out.size))
  clear BW7
  clear b8
  have C9 : Calls Try.prog 9 #[.slice none 0 0, .agg #[.int .i64 2147483647, .int .i64 1048575]] w8 (LstE w8 (setL [] (2147483647, 1048575)) (setE [] (2147483647, 1048575))) := pset_any (2147483647, 1048575) (Ds.nil' _ 0) (Nat.zero_le _)
  rw [(set_ok (l := []) (t := (2147483647, 1048575)) nil_ck (by decide) (by simp) (by simp)).1, (set_ok (l := []) (t := (2147483647, 1048575)) nil_ck (by decide) (by simp) (by simp)).2] at C9
  unfold LstE at C9
  go_wp2_with fail
  refine C9.mono ?_
  rintro e w9 ⟨v9, rfl, H9⟩
  obtain ⟨A9, c9, rfl, O9⟩ := od_num H9.out.1 1 rfl
  have b9 := hid H9.out.2
  have HS9 := hid (show w8.heap.size ≤ w9.heap.size from b9.out.size)
  have BW9 := hid (BW8.out.trans (b9.out.mono BW8.out.size))
  clear BW8
  have O_l_9 := hid (O9)
  have I_l : Hid (∀ b, (Value.slice A9 1 c9).ownBlock = some b → w8.heap.size ≤ b ∧ b < w9.heap.size) := hid (own_lt O_l_9.out)
  clear H9 C9 b9 O9
  have C10 := pdue_any (-1) (Ds.nil' w9 0) (Nat.zero_le _)
  rw [(du_arg nil_ck (by decide)).1, (du_arg nil_ck (by decide)).2.1, (du_arg nil_ck (by decide)).2.2] at C10
  unfold TwoE at C10
  go_wp2_with fail
  refine C10.mono ?_
  rintro e w10 ⟨v10, u10, rfl, H10⟩
  obtain ⟨A10, c10, rfl, _⟩ := od_num H10.out.1 0 rfl
  obtain ⟨D10, d10, rfl, _⟩ := od_num H10.out.2.1 0 rfl
  have b10 := hid H10.out.2.2.2
  have HS10 := hid (show w9.heap.size ≤ w10.heap.size from b10.out.size)
  have BW10 := hid (BW9.out.trans (b10.out.mono BW9.out.size))
  have O_l_10 := hid (O_l_9.out.below b10.out)
  clear BW9 O_l_9
  clear H10 C10 b10
  have K1 : chk (wi (2147483647, 1048575) []) = 0 := one_ck _ (by decide)
  have C11 := poff_any 1048576 O_l_10.out.ds (Nat.le_refl _)
  rw [(of_arg K1 (by decide)).1, (of_arg K1 (by decide)).2] at C11
  unfold LstE at C11
  go_wp2_with fail
  refine C11.mono ?_
  rintro e w11 ⟨v11, rfl, H11⟩
  obtain ⟨A11, c11, rfl, _⟩ := od_num H11.out.1 0 rfl
  have b11 := hid H11.out.2
  have HS11 := hid (show w10.heap.size ≤ w11.heap.size from b11.out.size)
  have BW11 := hid (BW10.out.trans (b11.out.mono BW10.out.size))
  have O_l_11 := hid (O_l_10.out.below b11.out)
  clear BW10 O_l_10
  clear H11 C11 b11
  have C12 := poff_any 1048575 O_l_11.out.ds (Nat.le_refl _)
  rw [(of_ok K1 (by decide)).1, (of_ok K1 (by decide)).2] at C12
  unfold LstE at C12
  go_wp2_with fail
  refine C12.mono ?_
  rintro e w12 ⟨v12, rfl, H12⟩
  obtain ⟨A12, c12, rfl, _⟩ := od_num H12.out.1 0 rfl
  have b12 := hid H12.out.2
  have HS12 := hid (show w11.heap.size ≤ w12.heap.size from b12.out.size)
  have BW12 := hid (BW11.out.trans (b12.out.mono BW11.out.size))
  have O_l_12 := hid (O_l_11.out.below b12.out)
  clear BW11 O_l_11
  clear H12 C12 b12
  go_wp2_with (first
    | (at_make; refine list_make rfl _ _ rfl _ _ _ _ 1025 rfl rfl rfl rfl (by omega) ?_; intro w13 H13)
    | fail)
  have b13 := hid H13.out.2
  have HS13 := hid (show w12.heap.size ≤ w13.heap.size from b13.out.size)
  have BW13 := hid (BW12.out.trans (b13.out.mono BW12.out.size))
  have O_l_13 := hid (O_l_12.out.below b13.out)
  clear BW12 O_l_12
  have C14 := porder_any H13.out.1.ds (Nat.le_refl _)
  rw [(many_oe).1, (many_oe).2] at C14
  unfold LstE at C14
  refine C14.mono ?_
  rintro e w14 ⟨v14, rfl, H14⟩
  obtain ⟨A14, c14, rfl, _⟩ := od_num H14.out.1 0 rfl
  have b14 := hid H14.out.2
  have HS14 := hid (show w13.heap.size ≤ w14.heap.size from b14.out.size)
  have BW14 := hid (BW13.out.trans (b14.out.mono BW13.out.size))
  have O_l_14 := hid (O_l_13.out.below b14.out)
  clear BW13 O_l_13
  clear H13 b13 H14 C14 b14
  go_wp2_with (first
    | (at_make; refine list_make rfl _ _ rfl _ _ _ _ 1024 rfl rfl rfl rfl (by omega) ?_; intro w15 H15)
    | fail)
  have b15 := hid H15.out.2
  have HS15 := hid (show w14.heap.size ≤ w15.heap.size from b15.out.size)
  have BW15 := hid (BW14.out.trans (b15.out.mono BW14.out.size))
  have O_l_15 := hid (O_l_14.out.below b15.out)
  clear BW14 O_l_14
  have C16 := porder_any H15.out.1.ds (Nat.le_refl _)
  rw [(zero_oe).1, (zero_oe).2] at C16
  unfold LstE at C16
  refine C16.mono ?_
  rintro e w16 ⟨v16, rfl, H16⟩
  obtain ⟨A16, c16, rfl, _⟩ := od_num H16.out.1 1 rfl
  have b16 := hid H16.out.2
  have HS16 := hid (show w15.heap.size ≤ w16.heap.size from b16.out.size)
  have BW16 := hid (BW15.out.trans (b16.out.mono BW15.out.size))
  have O_l_16 := hid (O_l_15.out.below b16.out)
  clear BW15 O_l_15
  clear H15 b15 H16 C16 b16
  have C17 := alive_any w16
  unfold Tel at C17
  go_wp2_with fail
  refine C17.mono ?_
  rintro e w17 ⟨rfl, b17⟩
  have HS17 := hid (show w16.heap.size ≤ w17.heap.size from b17.out.size)
  have BW17 := hid (BW16.out.trans (b17.out.mono BW16.out.size))
  have O_l_17 := hid (O_l_16.out.below b17.out)
  clear BW16 O_l_16
  clear C17 b17
  go_wp2_with fail
  refine (t_any _ _ _).mono ?_
  rintro e w18 ⟨rfl, b18⟩
  have HS18 := hid (show w17.heap.size ≤ w18.heap.size from b18.out.size)
  have BW18 := hid (BW17.out.trans (b18.out.mono BW17.out.size))
  have O_l_18 := hid (O_l_17.out.below b18.out)
  clear BW17 O_l_17
  clear b18
  go_wp2_with fail
  refine (t_any _ _ _).mono ?_
  rintro e w19 ⟨rfl, b19⟩
  have HS19 := hid (show w18.heap.size ≤ w19.heap.size from b19.out.size)
  have BW19 := hid (BW18.out.trans (b19.out.mono BW18.out.size))
  have O_l_19 := hid (O_l_18.out.below b19.out)
  clear BW18 O_l_18
  clear b19
  have CK := (by have h := pcheck_any (w := w19.alloc (.cells (cellsD [(1, 1), (1, 1)]).toArray 23)) (ds_row (heap_alloc_new w19 _) (by decide)) (Nat.le_refl _); rw [two_ck] at h; exact h)
  go_wp2_with fail
  refine CK.mono ?_
  rintro e wl ⟨rfl, bl⟩
  go_wp2
  go_ret
  exact ⟨rfl, (BW19.out.alloc BW19.out.size _).trans (bl.out.mono (Nat.le_trans BW19.out.size (by simp)))⟩
end Go.Proofs.Ytgcmljnjfghagaa.Tm
