/- Best: of each node's descriptors the first one in order. -/
import Derived.Test.YtdemhghflanncaaKbs1
namespace Go.Proofs.Ytdemhghflanncaa
open Go.RowKit Go.Shelf Go.Lib

set_option maxHeartbeats 6400000 in
theorem best_any {w : World} {B n c : Nat} {A : Option Addr} {l : List De} (h : Ds w B A n c l) (hB : B ≤ w.heap.size) :
    Calls Try.prog 21 #[.slice A n c] w fun e w' => ∃ v, e = .returned (.tuple #[v, .int .i64 (chk l)]) ∧ Hid (Od w' w.heap.size v (bst l) ∧ Below w.heap.size w w') := by
  have HO := hid (order_any h hB)
  by_cases h0 : chk l = 0
  · have ho : orr l = srt l := if_pos h0
    have HZ := hid (chk_zero.1 h0)
    rw [h0, ho] at HO
    rw [h0, show bst l = fsts (srt l) from if_pos h0]
    go_enter Try.func21, Try.ntmps21
    go_upto_region 6 with (first | (go_at_call 29; refine HO.out.mono ?_; rintro e w1 ⟨v1, rfl, hv1⟩) | fail)
    have hOd := hv1.out.1
    obtain ⟨A1, c1, rfl, hD1, hcm1, _⟩ := hOd.form
    obtain ⟨m, hm⟩ : ∃ m, m = (srt l).length := ⟨_, rfl⟩
    rw [← hm] at hD1 hOd hv1 ⊢
    obtain ⟨w3, hw3⟩ : ∃ w3, w3 = (w1.alloc (.cells #[.bool false, .bool false, .bool false, .bool false, .bool false, .bool false, .bool false, .bool false] 62)).alloc (.cells #[.slice none 0 0] 27) := ⟨_, rfl⟩
    have hb3 : Below w1.heap.size w1 w3 := hw3 ▸ ((Below.refl _ w1).alloc (Nat.le_refl _) _).alloc (by simp) _
    have hS : BestS w3 w1.heap.size w1.heap.size (w1.heap.size + 1) [] := by
      refine ⟨Nat.le_refl _, by omega, by omega, ⟨_, hw3 ▸ (Below.heap_alloc _ _ _ (by simp)).trans (heap_alloc_new w1 _), rfl, fun i hi => ?_⟩, .slice none 0 0, ?_, Od.nil _ _, by simp [Value.ownBlock], by simp [Value.ownBlock]⟩
      · match i, hi with
        | 0, _ => rfl
        | 1, _ => rfl
        | 2, _ => rfl
        | 3, _ => rfl
        | 4, _ => rfl
        | 5, _ => rfl
        | 6, _ => rfl
        | 7, _ => rfl
      · have h := heap_alloc_new (w1.alloc (.cells #[.bool false, .bool false, .bool false, .bool false, .bool false, .bool false, .bool false, .bool false] 62)) (.cells #[.slice none 0 0] 27)
        rw [show (w1.alloc (.cells #[.bool false, .bool false, .bool false, .bool false, .bool false, .bool false, .bool false, .bool false] 62)).heap.size = w1.heap.size + 1 by simp, ← hw3] at h
        exact h
    rw [← hw3]
    clear hw3
    have HM := hid hm
    have HE := hid (each_any (fun k W => BestS W w1.heap.size w1.heap.size (w1.heap.size + 1) ((srt l).take k)) 31 #[] #[.pointer (some ⟨w1.heap.size, 0, none⟩), .pointer (some ⟨w1.heap.size + 1, 0, none⟩)] (enters_of Try.func31 (by kernel_rfl) rfl) (hD1.below hb3) hb3.size
      (fun k W W' hk hb => hk.below hb) (by show BestS w3 _ _ _ ((srt l).take 0); exact hS)
      (fun k d W hd hb hk => by
        rw [take_snoc hd]
        refine (best1_any hk (by have := HZ.out.1; rw [List.length_take, srt_length]; omega) (Nat.le_trans hb3.size hb.size) (by
          have h1 := List.any_eq_false.1 HZ.out.2 d (mem_srt.1 (List.mem_of_getElem? hd))
          exact Bool.eq_false_iff.2 h1)).mono ?_
        rintro e w' ⟨rfl, hR⟩
        exact ⟨rfl, hR⟩))
    have HB3 := hid hb3
    have HB1 := hid hv1.out.2
    clear hS hD1 hOd hv1 hcm1 hm hb3 HO HZ
    go_wp2_with fail
    refine HE.out.mono ?_
    rintro e w4 ⟨rfl, hE⟩
    obtain ⟨⟨_, _, _, _, v, hv4, hv5, _, _⟩, hb4⟩ := hE.out
    rw [List.take_of_length_le (by rw [HM.out]; exact Nat.le_refl _)] at hv5
    obtain ⟨A', c', hve, _⟩ := hv5.form
    have hc : w4.cell? ⟨w1.heap.size + 1, 0, none⟩ = some v := (cell_of_row w4 _ 0 _ _ (0, 0) hv4).trans rfl
    have HV := hid (hv5.mono HB1.out.size)
    have HB4 := hid (HB1.out.trans ((HB3.out.trans hb4).mono HB1.out.size))
    generalize (fsts (srt l)).length = q at hve
    subst hve
    clear hv4 hv5 hb4 hE HE
    go_wp2
    go_ret2
    exact ⟨_, rfl, hid ⟨HV.out, HB4.out⟩⟩
  · have ho : orr l = [] := if_neg h0
    rw [ho] at HO
    rw [show bst l = [] from if_neg h0]
    generalize chk l = x at h0 HO ⊢
    go_enter Try.func21, Try.ntmps21
    go_wp2_with (go_at_call 29; refine HO.out.mono ?_; rintro e w1 ⟨v1, rfl, hv1⟩)
    go_ret2
    exact ⟨_, rfl, hid ⟨Od.nil _ _, hv1.out.2⟩⟩
end Go.Proofs.Ytdemhghflanncaa
