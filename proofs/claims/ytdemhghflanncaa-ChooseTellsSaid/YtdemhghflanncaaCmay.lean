/- The document's May of a cache. -/
import Derived.Test.YtdemhghflanncaaCbox
namespace Go.Proofs.Ytdemhghflanncaa
open Go.RowKit Go.Shelf Go.Lib

theorem top_fsts (l : List De) : top l = fsts (srt l) := rfl

set_option maxHeartbeats 6400000 in
set_option maxRecDepth 100000 in
theorem rmay_any {w : World} {B n c : Nat} {A : Option Addr} {l : List De} (o p : Int) (h : Ds w B A n c l) (hB : B ≤ w.heap.size) :
    Calls Try.prog 27 #[cav o p (.slice A n c)] w fun e w' => e = .returned (.bool (decide (CMay o p l))) ∧ Hid (Below w.heap.size w w') := by
  have mixed : Try.prog.follows .mixedOrders = true := by kernel_rfl
  have H := hid (h.mono hB)
  have hm := h.max
  have hcap := h.cap
  have HL := hid h.len
  clear h
  obtain ⟨W, hW⟩ : ∃ W, W = w.alloc (.cells #[.int .i64 o, .int .i64 p, .slice A n c] 29) := ⟨_, rfl⟩
  have B0 := hid (show Below w.heap.size w W from hW ▸ (Below.refl _ w).alloc (Nat.le_refl _) _)
  have X0 := hid (show Cbox W w.heap.size o p (.slice A n c) from hW ▸ heap_alloc_new w _)
  have CN := hid (rnew_any o p W)
  have x0 := X0.out.c0
  have x1 := X0.out.c1
  have HW := hid hW
  have hWz : w.heap.size < W.heap.size := X0.out.lt
  clear hW
  obtain ⟨q, hq⟩ : ∃ q, q = decide (CMay o p l) := ⟨_, rfl⟩
  rw [← hq]
  have HQ := hid hq
  clear hq
  unfold cav
  by_cases hN : NMay o p
  case neg =>
    rw [if_neg hN, if_neg hN] at CN
    have hq : q = false := by
      rw [HQ.out, decide_eq_false_iff_not]
      rintro ⟨a1, a2, a3, a4, _⟩
      exact hN ⟨a1, a2, a3, a4⟩
    subst hq
    clear hN
    go_enter Try.func27, Try.ntmps27
    go_upto_region 1 with fail
    rw [← HW.out]
    clear HW
    unfold cav at CN
    go_wp2_with fail
    refine CN.out.mono ?_
    rintro e w1 ⟨rfl, hb1⟩
    go_wp2
    go_ret
    exact ⟨rfl, hid (B0.out.trans ((hb1.out.mono (by omega)).alloc (Nat.le_trans (by omega) hb1.out.size) _))⟩
  rw [if_pos hN, if_pos hN] at CN
  have HN := hid hN
  clear hN
  have CK := hid (fun X (hb : Below w.heap.size w X) => rcheck_any (H.out.below hb) hb.size)
  have C3 := hid (fun X (hb : Below w.heap.size w X) => (show X.heap[w.heap.size]? = some (.cells #[.int .i64 o, .int .i64 p, .slice A n c] 29 (0, 0)) → X.cell? ⟨w.heap.size, 0, none⟩ = some (.int .i64 o) ∧ X.cell? ⟨w.heap.size, 1, none⟩ = some (.int .i64 p) ∧ X.cell? ⟨w.heap.size, 2, none⟩ = some (.slice A n c) from fun hx => ⟨Cbox.c0 hx, Cbox.c1 hx, Cbox.c2 hx⟩))
  obtain ⟨x, hx⟩ : ∃ x, x = chk l := ⟨_, rfl⟩
  rw [← hx] at CK
  have HK := hid hx
  clear hx C3
  go_enter Try.func27, Try.ntmps27
  go_upto_region 1 with fail
  rw [← HW.out]
  clear HW
  unfold cav at CN
  go_wp2_with fail
  refine CN.out.mono ?_
  rintro e w1 ⟨rfl, hb1⟩
  go_upto_region 2 with fail
  have B1 := hid (B0.out.trans ((hb1.out.alloc hb1.out.size (.cells #[.int .i64 o, .int .i64 p, .slice none 0 0] 29)).mono (by omega)))
  have X1 := hid ((X0.out.below hb1.out hWz).alloc (.cells #[.int .i64 o, .int .i64 p, .slice none 0 0] 29))
  obtain ⟨W1, hW1⟩ : ∃ W1, W1 = w1.alloc (.cells #[.int .i64 o, .int .i64 p, .slice none 0 0] 29) := ⟨_, rfl⟩
  rw [← hW1] at B1 X1 ⊢
  clear hW1 hb1 X0 x0 x1 CN B0
  have x0 := X1.out.c0
  have x1 := X1.out.c1
  have x2 := X1.out.c2
  have hW1 : w.heap.size < W1.heap.size := X1.out.lt
  by_cases hnp : (n : Int) > p
  · have hq : q = false := by
      rw [HQ.out, decide_eq_false_iff_not]
      rintro ⟨_, _, _, _, a5, _⟩
      rw [HL.out] at a5
      omega
    subst hq
    go_wp2_with fail
    go_ret
    exact ⟨rfl, B1⟩
  have hn6 : Hid (n ≤ 6) := hid (by
    obtain ⟨_, _, _, a4⟩ := HN.out
    omega)
  by_cases hx : x = 0
  case neg =>
    have hq : q = false := by
      rw [HQ.out, decide_eq_false_iff_not]
      rintro ⟨_, _, _, _, _, a6, _⟩
      exact hx (HK.out.trans a6)
    subst hq
    go_wp2_with fail
    refine (CK.out _ B1.out).mono ?_
    rintro e w2 ⟨rfl, hb2⟩
    go_wp2_with fail
    go_ret
    exact ⟨rfl, hid (B1.out.trans (hb2.out.mono B1.out.size))⟩
  subst hx
  obtain ⟨r, hr⟩ : ∃ r, r = oth o l := ⟨_, rfl⟩
  obtain ⟨r2, hr2⟩ : ∃ r2, r2 = srt r := ⟨_, rfl⟩
  obtain ⟨r3, hr3⟩ : ∃ r3, r3 = fsts r2 := ⟨_, rfl⟩
  have hlr : r.length ≤ 6 := by
    have h1 := List.length_filter_le (fun d : De => decide (d.1 ≠ o)) l
    have h2 := HL.out
    have h3 := hn6.out
    rw [hr]
    unfold oth
    omega
  have hlr2 : r2.length ≤ 6 := by
    rw [hr2, srt_length]
    exact hlr
  have hq : q = decide (l = r3) := by
    rw [HQ.out, hr3, hr2, hr, ← top_fsts, decide_eq_decide]
    obtain ⟨a1, a2, a3, a4⟩ := HN.out
    have h2 := HL.out
    exact ⟨fun h => h.2.2.2.2.2.2, fun h => ⟨a1, a2, a3, a4, by rw [h2]; omega, HK.out.symm, h⟩⟩
  have CO := hid (fun X (hb : Below w.heap.size w X) => others_any o (H.out.below hb) hb.size (by have := hn6.out; omega))
  rw [← hr] at CO
  have CS := hid (fun (X : World) (A2 : Option Addr) (c2 : Nat) (hD : Ds X X.heap.size A2 r.length c2 r) => sorted_any hD (Nat.le_refl _) (by omega))
  rw [← hr2] at CS
  have CF := hid (fun (X : World) (A2 : Option Addr) (c2 : Nat) (hD : Ds X X.heap.size A2 r2.length c2 r2) => firsts_any hD (Nat.le_refl _) (by omega))
  rw [← hr3] at CF
  have CM := hid (fun (X : World) (A2 : Option Addr) (c2 : Nat) (hb : Below w.heap.size w X) (hD : Ds X X.heap.size A2 r3.length c2 r3) => rsame_any (H.out.below hb) hD hb.size (Nat.le_refl _))
  rw [← hq] at CM
  clear hr hr2 hr3 hlr hlr2 hq HQ
  go_wp2_with fail
  refine (CK.out _ B1.out).mono ?_
  rintro e w2 ⟨rfl, hb2⟩
  have B2 := hid (B1.out.trans (hb2.out.mono B1.out.size))
  have X2 := hid (X1.out.below hb2.out hW1)
  clear CK x0 x1 x2 hb2 X1 hW1 B1
  go_upto_region 4 with fail
  have CG : Hid (∀ X, Below w2.heap.size w2 X → X.cell? ⟨w.heap.size, 0, none⟩ = some (.int .i64 o) ∧ X.cell? ⟨w.heap.size, 2, none⟩ = some (.slice A n c)) := hid fun X hb => by
    have h1 := X2.out.below hb X2.out.lt
    exact ⟨h1.c0, h1.c2⟩
  have HBz : Hid (Below w2.heap.size w2 w2.drew) := hid (Below.refl w2.heap.size w2).drew
  go_region_held3 (fun X => X.cell? ⟨w.heap.size, 0, none⟩ = some (.int .i64 o) ∧ X.cell? ⟨w.heap.size, 2, none⟩ = some (.slice A n c))
    (exact CG.out _ HBz.out)
    (first
    | (go_at_call 40
       with_reducible refine (CO.out _ (B2.out.trans (HBz.out.mono B2.out.size))).mono ?_
       rintro e' w' ⟨v, rfl, hv⟩
       have HBz := hid (HBz.out.trans (hv.out.2.mono HBz.out.size))
       obtain ⟨A2, c2, rfl, hD2, _, _⟩ := hv.out.1.form
       have HD2 := hid hD2
       clear hv hD2)
    | (go_at_call 39
       with_reducible refine (CS.out _ _ _ HD2.out).mono ?_
       rintro e' w' ⟨v, rfl, hv⟩
       have HBz := hid (HBz.out.trans (hv.out.2.mono HBz.out.size))
       obtain ⟨A3, c3, rfl, hD3, _, _⟩ := hv.out.1.form
       have HD3 := hid hD3
       clear hv hD3)
    | (go_at_call 38
       with_reducible refine (CF.out _ _ _ HD3.out).mono ?_
       rintro e' w' ⟨v, rfl, hv⟩
       have HBz := hid (HBz.out.trans (hv.out.2.mono HBz.out.size))
       obtain ⟨A4, c4, rfl, hD4, _, _⟩ := hv.out.1.form
       have HD4 := hid hD4
       clear hv hD4)
    | (go_at_call 18
       with_reducible refine (CM.out _ _ _ (B2.out.trans (HBz.out.mono B2.out.size)) HD4.out).mono ?_
       rintro e' w' ⟨rfl, hb⟩
       have HBz := hid (HBz.out.trans (hb.out.mono HBz.out.size))))
  all_goals
    go_wp2
    go_ret
    exact ⟨rfl, hid (B2.out.trans (HBz.out.mono B2.out.size))⟩
end Go.Proofs.Ytdemhghflanncaa
