/- Seen: the program's find, Has, Below, First. -/
import Derived.Test.YtohofgmdellpnaaSpr
namespace Go.Proofs.Ytohofgmdellpnaa.Seen
open Go.RowKit Go.Shelf Go.Lib

theorem ans_find {l : List Int} (h : Ris l) (x : Int) {j : Nat} {y : Int} (hj : l[j]? = some y) : cmpN y x = ansN (lowN l x) (decide (x ∈ l)) j := by
  have h1 := lowN_at h x j y hj
  unfold cmpN ansN
  by_cases h2 : y < x
  · rw [if_pos h2, if_pos (h1.2 h2)]
  · rw [if_neg h2, if_neg (mt h1.1 h2)]
    by_cases h3 : x < y
    · rw [if_pos h3, if_neg]
      rintro ⟨h4, h5⟩
      have h6 := hitN h (of_decide_eq_true h4)
      rw [← h5, hj] at h6
      injection h6 with h6
      omega
    · obtain rfl : y = x := by omega
      have hm : y ∈ l := List.mem_of_getElem? hj
      rw [if_neg h3, if_pos]
      refine ⟨decide_eq_true hm, ?_⟩
      have h6 := hitN h hm
      have h7 := mt h1.1 h2
      rcases Nat.lt_or_ge (lowN l y) j with h8 | h8
      · have := ris_lt h h6 hj h8
        omega
      · omega
theorem ans_first {l : List Int} (h : SMay l) {j : Nat} {y : Int} (hj : l[j]? = some y) : (if y = (j : Int) then (-1 : Int) else 1) = ansN (fstN l 0) false j := by
  have h1 := fstN_iff h.2.2 (fun x hx => (h.2.1 x hx).1) hj
  unfold ansN
  by_cases h2 : y = (j : Int)
  · rw [if_pos h2, if_pos (h1.1 h2)]
  · rw [if_neg h2, if_neg (mt h1.2 h2), if_neg (by simp)]

set_option maxHeartbeats 3200000 in
set_option maxRecDepth 100000 in
theorem find_any {w : World} {B n c : Nat} {A : Option Addr} {l : List Int} (h : Gs w B A n c 1 (cellsI l)) (hB : B ≤ w.heap.size) (x : Int) :
    Calls Try.prog 21 #[.slice A n c, .int .i64 x] w fun e w' => e = .returned (.tuple #[.int .i64 (beA l x : Nat), .bool (haA l x), .int .i64 (fiE l x)]) ∧ Hid (Below w.heap.size w w') := by
  obtain ⟨W, hW⟩ : ∃ W, W = w.alloc (.cells #[.int .i64 x] 3) := ⟨_, rfl⟩
  have b0 := hid (show Below w.heap.size w W from hW ▸ (Below.refl _ w).alloc (Nat.le_refl _) _)
  have hx0 := hid (show W.heap[w.heap.size]? = some (.cells #[.int .i64 x] 3 (0, 0)) from hW ▸ heap_alloc_new w _)
  have hs0 := hid (show W.heap.size = w.heap.size + 1 by rw [hW]; simp)
  have H0 := hid (h.on hB b0.out)
  have hl := hid h.ilen
  have HW := hid hW
  have C := hid (check_any (H0.out))
  have cx : W.cell? ⟨w.heap.size, 0, none⟩ = some (.int .i64 x) := by rw [cell_of_row W _ _ _ _ (0, 0) hx0.out]; rfl
  have CX := hid cx
  clear h hB hW
  by_cases h0 : schk l = 0
  · rw [h0] at C
    have hm := schk_zero.1 h0
    have hnn : n ≤ 4096 := by rw [← hl.out]; exact hm.1
    by_cases h1 : NOk x
    · have z1 : ¬ x < 0 := by have := h1.1; omega
      have z2 : ¬ x > 1048575 := by have := h1.2; omega
      have hf : fiE l x = 0 := fiE_zero.2 ⟨hm, h1⟩
      have ha : haA l x = decide (x ∈ l) := by unfold haA; simp [hf]
      have hbe : beA l x = lowN l x := by unfold beA; rw [if_pos hf]
      rw [ha, hf, hbe]
      have HM := hid hm
      obtain ⟨W1, hW1⟩ : ∃ W1, W1 = W.alloc (.cells #[.func (.func 28) #[] #[.pointer (some ⟨w.heap.size, 0, none⟩)]] 51) := ⟨_, rfl⟩
      have b1 := hid (show Below W.heap.size W W1 from hW1 ▸ (Below.refl _ W).alloc (Nat.le_refl _) _)
      have hs1 := hid (show W1.heap.size = W.heap.size + 1 by rw [hW1]; simp)
      have cf : W1.cell? ⟨W.heap.size, 0, none⟩ = some (.func (.func 28) #[] #[.pointer (some ⟨w.heap.size, 0, none⟩)]) := by rw [cell_of_row W1 _ _ _ _ (0, 0) (hW1 ▸ heap_alloc_new W _)]; rfl
      have HW1 := hid hW1
      have CF := hid (search_any (p := lowN l x) (hit := decide (x ∈ l)) 28 #[.pointer (some ⟨w.heap.size, 0, none⟩)] (fun _ _ => by kernel_rfl) cf (by have := hs1.out; omega) (H0.out.below b1.out) b1.out.size (by rw [← hl.out]; exact lowN_le l x) (fun e => by rw [← hl.out]; exact hitN_lt HM.out.2.2 (of_decide_eq_true e)) (by omega) (fun X j y hX hj => by
        rw [← ans_find HM.out.2.2 x hj]
        exact ask_find _ _ _ ((hX.cell (p := ⟨w.heap.size, 0, none⟩) (by have := hs0.out; have := hs1.out; show w.heap.size < W1.heap.size; omega)).trans ((b1.out.cell (p := ⟨w.heap.size, 0, none⟩) (by have := hs0.out; show w.heap.size < W.heap.size; omega)).trans CX.out))))
      clear h0 h1 hf ha hbe hm hW1 cf
      go_enter Try.func21, Try.ntmps21
      go_upto_region 1 with fail
      rw [← HW.out]
      go_wp2_with fail
      refine C.out.mono ?_
      rintro e w1 ⟨rfl, rfl⟩
      go_wp2_with fail
      refine (searching_any _ _ _).mono ?_
      rintro e w2 ⟨rfl, he⟩
      obtain rfl := he.trans HW1.out.symm
      clear he
      go_wp2_with fail
      refine CF.out.mono ?_
      rintro e w3 ⟨rfl, hb⟩
      go_wp2
      go_ret3
      exact ⟨rfl, hid (b0.out.trans (((b1.out).trans (hb.out.mono b1.out.size)).mono b0.out.size))⟩
    · have hf : fiE l x = 2 := by unfold fiE; rw [if_neg (by simp [h0]), if_neg h1]
      have ha : haA l x = false := by unfold haA; rw [hf]; rfl
      have hbe : beA l x = 0 := by unfold beA; rw [hf]; rfl
      rw [ha, hf, hbe]
      clear h0 hf ha hbe hm
      by_cases z1 : x < 0
      · go_enter Try.func21, Try.ntmps21
        go_upto_region 1 with fail
        rw [← HW.out]
        go_wp2_with fail
        refine C.out.mono ?_
        rintro e w1 ⟨rfl, rfl⟩
        go_wp2
        go_ret3
        exact ⟨rfl, b0⟩
      · have z2 : x > 1048575 := by unfold NOk at h1; omega
        go_enter Try.func21, Try.ntmps21
        go_upto_region 1 with fail
        rw [← HW.out]
        go_wp2_with fail
        refine C.out.mono ?_
        rintro e w1 ⟨rfl, rfl⟩
        go_wp2
        go_ret3
        exact ⟨rfl, b0⟩
  · have hf : fiE l x = schk l := by unfold fiE; rw [if_pos h0]
    have ha : haA l x = false := by unfold haA; rw [hf]; simp [h0]
    have hbe : beA l x = 0 := by unfold beA; rw [hf]; simp [h0]
    rw [ha, hf, hbe]
    clear hf ha hbe
    generalize schk l = q at h0 C ⊢
    go_enter Try.func21, Try.ntmps21
    go_upto_region 1 with fail
    rw [← HW.out]
    go_wp2_with fail
    refine C.out.mono ?_
    rintro e w1 ⟨rfl, rfl⟩
    go_wp2
    go_ret3
    exact ⟨rfl, b0⟩

theorem has_any {w : World} {B n c : Nat} {A : Option Addr} {l : List Int} (h : Gs w B A n c 1 (cellsI l)) (hB : B ≤ w.heap.size) (x : Int) :
    Calls Try.prog 9 #[.slice A n c, .int .i64 x] w fun e w' => e = .returned (.tuple #[.bool (haA l x), .int .i64 (fiE l x)]) ∧ Hid (Below w.heap.size w w') := by
  have C := hid (find_any h hB x)
  clear h hB
  generalize haA l x = a1 at C ⊢
  generalize fiE l x = a2 at C ⊢
  generalize beA l x = a3 at C
  go_enter Try.func9, Try.ntmps9
  go_wp2_with fail
  refine C.out.mono ?_
  rintro e w1 ⟨rfl, hb⟩
  go_wp2
  go_ret2
  exact ⟨rfl, hb⟩
theorem below_any {w : World} {B n c : Nat} {A : Option Addr} {l : List Int} (h : Gs w B A n c 1 (cellsI l)) (hB : B ≤ w.heap.size) (x : Int) :
    Calls Try.prog 16 #[.slice A n c, .int .i64 x] w fun e w' => e = .returned (.tuple #[.int .i64 (beA l x : Nat), .int .i64 (fiE l x)]) ∧ Hid (Below w.heap.size w w') := by
  have C := hid (find_any h hB x)
  clear h hB
  generalize haA l x = a1 at C
  generalize fiE l x = a2 at C ⊢
  generalize beA l x = a3 at C ⊢
  go_enter Try.func16, Try.ntmps16
  go_wp2_with fail
  refine C.out.mono ?_
  rintro e w1 ⟨rfl, hb⟩
  go_wp2
  go_ret2
  exact ⟨rfl, hb⟩

set_option maxHeartbeats 3200000 in
set_option maxRecDepth 100000 in
theorem first_any {w : World} {B n c : Nat} {A : Option Addr} {l : List Int} (h : Gs w B A n c 1 (cellsI l)) (hB : B ≤ w.heap.size) :
    Calls Try.prog 10 #[.slice A n c] w fun e w' => e = .returned (.tuple #[.int .i64 (fsA l : Nat), .int .i64 (schk l)]) ∧ Hid (Below w.heap.size w w') := by
  have C := hid (check_any h)
  have H := hid (h.mono hB)
  have hl := hid h.ilen
  clear h hB
  by_cases h0 : schk l = 0
  · rw [h0] at C ⊢
    have hm := schk_zero.1 h0
    have hnn : n ≤ 4096 := by rw [← hl.out]; exact hm.1
    have ha : fsA l = fstN l 0 := by unfold fsA; rw [if_pos h0]
    rw [ha]
    have HM := hid hm
    obtain ⟨W1, hW1⟩ : ∃ W1, W1 = w.alloc (.cells #[.func (.func 24) #[] #[]] 51) := ⟨_, rfl⟩
    have b1 := hid (show Below w.heap.size w W1 from hW1 ▸ (Below.refl _ w).alloc (Nat.le_refl _) _)
    have hs1 := hid (show W1.heap.size = w.heap.size + 1 by rw [hW1]; simp)
    have cf : W1.cell? ⟨w.heap.size, 0, none⟩ = some (.func (.func 24) #[] #[]) := by rw [cell_of_row W1 _ _ _ _ (0, 0) (hW1 ▸ heap_alloc_new w _)]; rfl
    have HW1 := hid hW1
    have CF := hid (search_any (p := fstN l 0) (hit := false) 24 #[] (fun _ _ => by kernel_rfl) cf (by have := hs1.out; omega) (H.out.below b1.out) b1.out.size (by have := (fstN_ge l 0).2; have := hl.out; omega) (fun e => by cases e) (by omega) (fun X j y hX hj => by
      rw [← ans_first HM.out hj]
      exact ask_first _ _))
    clear h0 ha hm hW1 cf
    go_enter Try.func10, Try.ntmps10
    go_wp2_with fail
    refine C.out.mono ?_
    rintro e w1 ⟨rfl, rfl⟩
    go_wp2_with fail
    refine (searching_any _ _ _).mono ?_
    rintro e w2 ⟨rfl, he⟩
    obtain rfl := he.trans HW1.out.symm
    clear he
    go_wp2_with fail
    refine CF.out.mono ?_
    rintro e w3 ⟨rfl, hb⟩
    go_wp2
    go_ret2
    exact ⟨rfl, hid ((b1.out).trans (hb.out.mono b1.out.size))⟩
  · have ha : fsA l = 0 := by unfold fsA; rw [if_neg h0]
    rw [ha]
    clear ha
    generalize schk l = q at h0 C ⊢
    go_enter Try.func10, Try.ntmps10
    go_wp2_with fail
    refine C.out.mono ?_
    rintro e w1 ⟨rfl, rfl⟩
    go_wp2
    go_ret2
    exact ⟨rfl, hid (Below.refl _ _)⟩
end Go.Proofs.Ytohofgmdellpnaa.Seen
