/- The document's Taken. -/
import Derived.Test.YthklhhgkklpbkaaCtell
namespace Go.Proofs.Ythklhhgkklpbkaa
open Go.RowKit Go.Shelf Go.Lib

set_option maxHeartbeats 6400000 in
set_option maxRecDepth 100000 in
theorem rctaken_any {w : World} {B C n c m d : Nat} {A D : Option Addr} {l r : List De} (o : Int) (q : Nat) (h : Ds w B A n c l) (k : Ds w C D m d r) (hB : B ≤ w.heap.size) (hC : C ≤ w.heap.size) (hnm : n + m ≤ 1000) :
    Calls Try.prog 32 #[cav o (q : Int) (.slice A n c), .slice D m d] w fun e w' => ∃ v, e = .returned (cav o (q : Int) v) ∧ Hid (Od w' w.heap.size v (tkn o q l r) ∧ Below w.heap.size w w') := by
  have mixed : Try.prog.follows .mixedOrders = true := by kernel_rfl
  have H := hid (h.mono hB)
  have K := hid (k.mono hC)
  have HL := hid h.len
  have HR := hid k.len
  have hcap := h.cap
  have hcap2 := k.cap
  clear h hB k hC
  obtain ⟨W, hW⟩ : ∃ W, W = (w.alloc (.cells #[.int .i64 o, .int .i64 q, .slice A n c] 24)).alloc (.cells #[.int .i64 0, .int .i64 0, .slice none 0 0] 24) := ⟨_, rfl⟩
  have B0 := hid (show Below w.heap.size w W from hW ▸ ((Below.refl _ w).alloc (Nat.le_refl _) _).alloc (by simp) _)
  have hz : W.heap.size = w.heap.size + 1 + 1 := by rw [hW]; simp
  have X0 := hid (show Cbox W w.heap.size o q (.slice A n c) from hW ▸ heap2_0 w _ _)
  have X1 := hid (show Cbox W (w.heap.size + 1) 0 0 (.slice none 0 0) from hW ▸ heap2_1 w _ _)
  have HW := hid hW
  clear hW
  have HE : Hid (Od (W.drew.alloc (.cells #[] 29)) (w.heap.size + 1 + 1) (.slice (some ⟨w.heap.size + 1 + 1, 0, none⟩) 0 0) []) := hid (by
    have h1 := od_at (B := W.heap.size) (heap_alloc_new W.drew (.cells #[] 29)) (Nat.le_refl _)
    change Od _ W.heap.size (.slice (some ⟨W.heap.size, 0, none⟩) 0 0) [] at h1
    rwa [hz] at h1)
  have HBn := hid (show Below (w.heap.size + 1 + 1) W (W.drew.alloc (.cells #[] 29)) from hz ▸ ((Below.refl W.heap.size W).drew.alloc (Nat.le_refl _) (.cells #[] 29)))
  have hzl : Hid (w.heap.size + 1 + 1 ≤ W.heap.size) := hid (Nat.le_of_eq hz.symm)
  have HDl := hid (fun X (hb : Below (w.heap.size + 1 + 1) W X) => (H.out.below B0.out).below (hb.mono (by omega)))
  have HDr := hid (fun X (hb : Below (w.heap.size + 1 + 1) W X) => (K.out.below B0.out).below (hb.mono (by omega)))
  obtain ⟨s1, hs1⟩ : ∃ s, s = oth o (l ++ r) := ⟨_, rfl⟩
  obtain ⟨s2, hs2⟩ : ∃ s, s = srt s1 := ⟨_, rfl⟩
  obtain ⟨s3, hs3⟩ : ∃ s, s = fsts s2 := ⟨_, rfl⟩
  have hl1 : s1.length ≤ 1000 := by
    have h1 := List.length_filter_le (fun d : De => decide (d.1 ≠ o)) (l ++ r)
    have h2 := HL.out
    have h3 := HR.out
    rw [hs1]
    rw [List.length_append] at h1
    unfold oth
    omega
  have hl2 : s2.length ≤ 1000 := by rw [hs2, srt_length]; exact hl1
  have HS := hid (show tkn o q l r = s3.take q from by rw [hs3, hs2, hs1, ← top_fsts]; rfl)
  obtain ⟨N, hN⟩ : ∃ N, N = (l ++ r).length := ⟨_, rfl⟩
  have HN := hid hN.symm
  clear hN
  have CO := hid (fun (X : World) (A2 : Option Addr) (c2 : Nat) (hD : Ds X X.heap.size A2 N c2 (l ++ r)) => others_any o hD (Nat.le_refl _) (by rw [← HN.out, List.length_append, HL.out, HR.out]; exact hnm))
  rw [← hs1] at CO
  have CS := hid (fun (X : World) (A2 : Option Addr) (c2 : Nat) (hD : Ds X X.heap.size A2 s1.length c2 s1) => sorted_any hD (Nat.le_refl _) hl1)
  rw [← hs2] at CS
  have CF := hid (fun (X : World) (A2 : Option Addr) (c2 : Nat) (hD : Ds X X.heap.size A2 s2.length c2 s2) => firsts_any hD (Nat.le_refl _) hl2)
  rw [← hs3] at CF
  have hl3 : s3.length ≤ 1000 := by rw [hs3]; exact Nat.le_trans (fsts_sublist s2).length_le hl2
  clear hs1 hs2 hs3 hl1 hl2
  have CG : Hid (∀ X, Below (w.heap.size + 1 + 1) W X → X.cell? ⟨w.heap.size, 0, none⟩ = some (.int .i64 o) ∧ X.cell? ⟨w.heap.size, 2, none⟩ = some (.slice A n c)) := hid fun X hb => by
    have h1 := X0.out.below hb (by omega)
    exact ⟨h1.c0, h1.c2⟩
  have HBz : Hid (Below (w.heap.size + 1 + 1) W W.drew) := hid (hz ▸ (Below.refl W.heap.size W).drew)
  unfold cav
  go_enter Try.func32, Try.ntmps32
  go_upto_region 1 with fail
  rw [← HW.out]
  clear HW
  go_region_held3 (fun X => X.cell? ⟨w.heap.size, 0, none⟩ = some (.int .i64 o) ∧ X.cell? ⟨w.heap.size, 2, none⟩ = some (.slice A n c))
    (first | exact CG.out _ HBz.out | exact CG.out _ HBn.out)
    (first
    | (refine step_appD rfl (.tmp 6) (.tmp 8) rfl (v := .slice (some ⟨w.heap.size + 1 + 1, 0, none⟩) 0 0) (B := w.heap.size + 1 + 1) (l := []) (r := l) rfl rfl HE.out (HDl.out _ HBn.out) (by simp only [List.length_nil]; omega) (Nat.le_trans hzl.out HBn.out.size) ?_
       intro v9 w9 HT1
       have HO9 : Hid (Od w9 (w.heap.size + 1 + 1) v9 l) := hid HT1.out.own
       have HBz := hid (HBn.out.trans (HT1.out.below (own_new (Nat.le_refl _)) (Nat.le_trans hzl.out HBn.out.size))))
    | (refine step_appD rfl (.tmp 9) (.tmp 10) rfl (v := v9) (B := w.heap.size + 1 + 1) (l := l) (r := r) rfl rfl HO9.out (HDr.out _ HBz.out) (by have := HL.out; omega) (Nat.le_trans hzl.out HBz.out.size) ?_
       intro v11 w11 HT2
       have HO11 : Hid (Od w11 (w.heap.size + 1 + 1) v11 (l ++ r)) := hid HT2.out.own
       have HBz := hid (HBz.out.trans (HT2.out.below (fun k hk => (own_lt HO9.out k hk).1) (Nat.le_trans hzl.out HBz.out.size)))
       obtain ⟨A11, c11, hv11, hD11, _, _⟩ := HO11.out.form
       rw [HN.out] at hv11 hD11
       subst hv11
       have HD11 := hid hD11
       clear hD11)
    | (go_at_call 45
       with_reducible refine (CO.out _ _ _ HD11.out).mono ?_
       rintro e' w' ⟨v, rfl, hv⟩
       have HBz := hid (HBz.out.trans (hv.out.2.mono (Nat.le_trans hzl.out HBz.out.size)))
       obtain ⟨A2, c2, rfl, hD2, _, _⟩ := hv.out.1.form
       have HD2 := hid hD2
       clear hv hD2)
    | (go_at_call 44
       with_reducible refine (CS.out _ _ _ HD2.out).mono ?_
       rintro e' w' ⟨v, rfl, hv⟩
       have HBz := hid (HBz.out.trans (hv.out.2.mono (Nat.le_trans hzl.out HBz.out.size)))
       obtain ⟨A3, c3, rfl, hD3, _, _⟩ := hv.out.1.form
       have HD3 := hid hD3
       clear hv hD3)
    | (go_at_call 43
       with_reducible refine (CF.out _ _ _ HD3.out).mono ?_
       rintro e' w' ⟨v, rfl, hv⟩
       have HOf := hid (hv.out.1.mono (Nat.le_trans hzl.out HBz.out.size))
       have HBz := hid (HBz.out.trans (hv.out.2.mono (Nat.le_trans hzl.out HBz.out.size)))
       clear hv))
  all_goals
    have X5 := hid (X0.out.below HBz.out (by omega))
    have Y5 := hid (X1.out.below HBz.out (by omega))
    have B5 := hid (B0.out.trans (HBz.out.mono (by omega)))
    obtain ⟨L, hL⟩ : ∃ L, L = s3.length := ⟨_, rfl⟩
    obtain ⟨A5, c5, hv5, hD5, hc5, _⟩ := HOf.out.form
    rw [← hL] at hl3 hv5 hD5
    subst hv5
    have hcap5 := hD5.cap
    have hnil := hD5.nil
    have HL3 := hid hL
    have HNil := hid hnil
    clear hD5 hnil HBz X0 X1 HE HBn HDl HDr CO CS CF CG HO9 HO11 HD11 HD2 HD3 HT1 HT2 hL H K
    obtain ⟨k, hk⟩ : ∃ k, k = min L q := ⟨_, rfl⟩
    have hk1 : min (L : Int) (q : Int) = (k : Int) := by omega
    have hk2 : (k : Int) ≤ (c5 : Int) := by omega
    have x1 := X5.out.c1
    have x2 := X5.out.c2
    have f2 := X5.out.frozen 2
    go_upto_region 3 with fail
    have HOc : Hid (Od w' (w.heap.size + 1 + 1) (.slice A5 (min L q) c5) (tkn o q l r)) := hid (by
      have h1 := HOf.out
      rw [HL3.out] at h1 ⊢
      have h2 := h1.cut (Nat.min_le_left s3.length q)
      rw [HS.out]
      have h3 : s3.take (min s3.length q) = s3.take q := by
        rcases Nat.le_total s3.length q with h4 | h4
        · rw [Nat.min_eq_left h4, List.take_of_length_le (Nat.le_refl _), List.take_of_length_le h4]
        · rw [Nat.min_eq_right h4]
      rwa [h3] at h2)
    clear HOf HNil hk hk1 hk2 x1 x2 f2
    obtain ⟨u, hu⟩ : ∃ u, u = Value.slice A5 (min L q) c5 := ⟨_, rfl⟩
    rw [← hu] at HOc ⊢
    have hu1 : u.oneCell' = true := by rw [hu]; rfl
    clear hu
    have X7 := hid (put2_box (v' := u) X5.out)
    have Y7 := hid (show Cbox (w'.setCell ⟨w.heap.size, 2, none⟩ u) (w.heap.size + 1) 0 0 (.slice none 0 0) from (Below.heap_setCell w' ⟨w.heap.size, 2, none⟩ _ (w.heap.size + 1) (by show w.heap.size + 1 ≠ w.heap.size; omega)).trans Y5.out)
    have B7 := hid (B5.out.setCell (p := ⟨w.heap.size, 2, none⟩) (Nat.le_refl _) u)
    have HO7 := hid (HOc.out.set (a := ⟨w.heap.size, 2, none⟩) (by show w.heap.size < _; omega) u)
    generalize w'.setCell ⟨w.heap.size, 2, none⟩ u = W7 at X7 Y7 B7 HO7 ⊢
    obtain ⟨A7, c7, rfl, _, _, _⟩ := HO7.out.form
    have x0 := X7.out.c0
    have x1 := X7.out.c1
    have x2 := X7.out.c2
    have y0 := Y7.out.c0
    have y1 := Y7.out.c1
    have y2 := Y7.out.c2
    have z0 := Y7.out.frozen 0
    have z1 := Y7.out.frozen 1
    have z2 := Y7.out.frozen 2
    clear hu1 HOc
    go_wp2
    refine ret_cache1 (g := w.heap.size + 1) (o := o) (q := q) (v := .slice A7 (tkn o q l r).length c7) rfl rfl rfl Y7.out.store ?_
    exact ⟨_, rfl, hid ⟨(HO7.out.putC (by omega)).mono (by omega), below_putC B7.out (by omega)⟩⟩
end Go.Proofs.Ythklhhgkklpbkaa
