/- The document's masses: Twin, Minus. -/
/- Masses: what is too great; the law's half, alive. -/
import Derived.Test.YtejngjhdmneaiaaMref

namespace Go.Proofs.Ytejngjhdmneaiaa
set_option maxRecDepth 100000
open Go.RowKit Go.Shelf

/-- A dyad, its sign turned. -/
def mneg (d : Dy) : Bool := if d.n = 0 then d.s else !d.s
def minusD (d : Dy) : Dy := ⟨mneg d, d.A, d.n, d.c, d.x, d.f⟩
theorem Drd.minus {w : World} {q : Prop} {M : Int} {d : Dy} (h : Drd w q M d) : Drd w q (-M) (minusD d) := by
  refine ⟨h.rd, ?_, fun hq => ?_⟩
  · rw [h.may]
    show DMay d.s d.n d.f d.x ↔ DMay (mneg d) d.n d.f d.x
    by_cases h0 : d.n = 0
    · rw [show mneg d = d.s from if_pos h0]
    · rw [show mneg d = !d.s from if_neg h0]
      exact ⟨fun k => ⟨k.1, k.2.1, k.2.2.1, fun e => absurd e h0, k.2.2.2.2⟩, fun k => ⟨k.1, k.2.1, k.2.2.1, fun e => absurd e h0, k.2.2.2.2⟩⟩
  · obtain ⟨X, hx, hM⟩ := h.val hq
    refine ⟨X, hx, ?_⟩
    show -M = dv (mneg d) (vl d.f d.n) X
    by_cases h0 : d.n = 0
    · rw [show mneg d = d.s from if_pos h0, hM, h0]
      simp [vl, dv, num]
    · rw [show mneg d = !d.s from if_neg h0, hM]
      unfold dv
      rw [num_neg]
set_option maxRecDepth 100000 in
set_option maxHeartbeats 3200000 in
theorem emtwin_any {w : World} {D : Nat → Dy} (h : Mrd w w.heap.size D) (hnil : ∀ k, k < 4 → (D k).A = none → (D k).n = 0 ∧ (D k).c = 0) (hn : ∀ k, k < 4 → (D k).n ≤ 42) :
    Calls Try.prog 9 #[.agg (mcells D)] w fun e w' => ∃ R, e = .returned (.agg (mcells R)) ∧ Hid (∀ k, k < 4 → Twd w.heap.size w' (D k) (R k)) ∧ Hid (Below w.heap.size w w') := by
  obtain ⟨W, hW⟩ : ∃ W, W = (w.alloc (.cells (mcells D) 27)).alloc (.cells #[.bool false, .slice none 0 0, .int .i64 0, .bool false, .slice none 0 0, .int .i64 0, .bool false, .slice none 0 0, .int .i64 0, .bool false, .slice none 0 0, .int .i64 0] 27) := ⟨_, rfl⟩
  have HW := hid hW
  have K := hid (show Below w.heap.size w W from hW ▸ ((Below.refl _ w).alloc (Nat.le_refl _) _).alloc (by simp) _)
  have PD : Hid (Mbox W w.heap.size D) := hid (hW ▸ (show Mbox (w.alloc _) w.heap.size D from new_at rfl).alloc _)
  have PR : Hid (Mbox W (w.heap.size + 1) D0) := hid (hW ▸ (show Mbox ((w.alloc _).alloc _) (w.heap.size + 1) D0 from new_at (by simp)))
  have Hsz := hid (show w.heap.size + 2 = W.heap.size by rw [hW]; simp)
  have HR := hid h
  have HN := hid hnil
  have Hn := hid hn
  clear hnil hn
  clear hW h
  go_enter Try.func9, Try.ntmps9
  go_upto_region 1 with fail
  rw [← HW.out]
  have CF : Hid (∀ X, Below W.heap.size W X → Mbox X w.heap.size D) := hid fun X hb => PD.out.below hb PD.out.lt
  have BX : Hid (Below W.heap.size W W.drew) := hid (Below.refl W.heap.size W).drew
  refine wp_region_held_drew (S := fun X => Mbox X w.heap.size D) (by kernel_rfl) (CF.out _ BX.out) (fun hHeld => ?_)
  refine wpAnyH_take (i := 0) (v := ?v1) rfl (by kernel_rfl) (by kernel_rfl) (by kernel_rfl) (fun _ _ _ h => h) (Or.inl ⟨by rfl, ?y1⟩) (by assumption) ?r1
  case y1 => (intro w0 hSw; (try dsimp only at hSw); (try simp only [List.getElem_toArray, List.getElem_cons_zero]); go_simp; try with_reducible rfl)
  (try simp only [Act.put, List.setIfInBounds_toArray, List.set_cons_zero, List.set_cons_succ, List.getElem_toArray, List.getElem_cons_zero])
  refine wpAnyH_take (i := 1) rfl (by kernel_rfl) (by kernel_rfl) (by kernel_rfl) (fun _ _ _ h => h) (yields_pl0 (by rfl) (.tmp 3) rfl w.heap.size D rfl (fun X hX => hX)) hHeld ?_
  (try simp only [Act.put, List.setIfInBounds_toArray, List.set_cons_zero, List.set_cons_succ, List.getElem_toArray, List.getElem_cons_succ, List.getElem_cons_zero])
  refine wpAnyH_take (i := 3) (v := ?v2) rfl (by kernel_rfl) (by kernel_rfl) (by kernel_rfl) (fun _ _ _ h => h) (Or.inl ⟨by rfl, ?y2⟩) (by assumption) ?r2
  case y2 => (intro w0 hSw; (try dsimp only at hSw); (try simp only [List.getElem_toArray, List.getElem_cons_succ, List.getElem_cons_zero]); go_simp; try with_reducible rfl)
  (try simp only [Act.put, List.setIfInBounds_toArray, List.set_cons_zero, List.set_cons_succ, List.getElem_toArray, List.getElem_cons_succ, List.getElem_cons_zero])
  refine wpAnyH_take (i := 4) rfl (by kernel_rfl) (by kernel_rfl) (by kernel_rfl) (fun _ _ _ h => h) (yields_pl1 (by rfl) (.tmp 6) rfl w.heap.size D rfl (fun X hX => hX)) hHeld ?_
  (try simp only [Act.put, List.setIfInBounds_toArray, List.set_cons_zero, List.set_cons_succ, List.getElem_toArray, List.getElem_cons_succ, List.getElem_cons_zero])
  refine wpAnyH_take (i := 6) (v := ?v3) rfl (by kernel_rfl) (by kernel_rfl) (by kernel_rfl) (fun _ _ _ h => h) (Or.inl ⟨by rfl, ?y3⟩) (by assumption) ?r3
  case y3 => (intro w0 hSw; (try dsimp only at hSw); (try simp only [List.getElem_toArray, List.getElem_cons_succ, List.getElem_cons_zero]); go_simp; try with_reducible rfl)
  (try simp only [Act.put, List.setIfInBounds_toArray, List.set_cons_zero, List.set_cons_succ, List.getElem_toArray, List.getElem_cons_succ, List.getElem_cons_zero])
  refine wpAnyH_take (i := 7) rfl (by kernel_rfl) (by kernel_rfl) (by kernel_rfl) (fun _ _ _ h => h) (yields_pl2 (by rfl) (.tmp 9) rfl w.heap.size D rfl (fun X hX => hX)) hHeld ?_
  (try simp only [Act.put, List.setIfInBounds_toArray, List.set_cons_zero, List.set_cons_succ, List.getElem_toArray, List.getElem_cons_succ, List.getElem_cons_zero])
  refine wpAnyH_take (i := 9) (v := ?v4) rfl (by kernel_rfl) (by kernel_rfl) (by kernel_rfl) (fun _ _ _ h => h) (Or.inl ⟨by rfl, ?y4⟩) (by assumption) ?r4
  case y4 => (intro w0 hSw; (try dsimp only at hSw); (try simp only [List.getElem_toArray, List.getElem_cons_succ, List.getElem_cons_zero]); go_simp; try with_reducible rfl)
  (try simp only [Act.put, List.setIfInBounds_toArray, List.set_cons_zero, List.set_cons_succ, List.getElem_toArray, List.getElem_cons_succ, List.getElem_cons_zero])
  refine wpAnyH_take (i := 10) rfl (by kernel_rfl) (by kernel_rfl) (by kernel_rfl) (fun _ _ _ h => h) (yields_pl3 (by rfl) (.tmp 12) rfl w.heap.size D rfl (fun X hX => hX)) hHeld ?_
  (try simp only [Act.put, List.setIfInBounds_toArray, List.set_cons_zero, List.set_cons_succ, List.getElem_toArray, List.getElem_cons_succ, List.getElem_cons_zero])
  refine wpAnyH_ready (rs := [2]) (by kernel_rfl) (by simp) ?_
  refine AllReadyH.cons rfl (fun K' hK => ?_) AllReadyH.nil
  (try simp only [Act.put, List.setIfInBounds_toArray, List.set_cons_zero, List.set_cons_succ, List.getElem_toArray, List.getElem_cons_succ, List.getElem_cons_zero])
  go_simp
  refine (etwin_any (((HR.out 0 (by omega)).below (K.out.trans (BX.out.mono K.out.size))).mono (Nat.le_trans K.out.size BX.out.size)) (HN.out 0 (by omega)) (Hn.out 0 (by omega)) (D 0).s (D 0).x).mono ?_
  rintro e y0 ⟨A0, c0, rfl, hmk, hb⟩
  replace BX := hid (BX.out.trans (hb.out.mono BX.out.size))
  have T0 : Hid (Twd W.heap.size y0 (D 0) ⟨(D 0).s, A0, (D 0).n, c0, (D 0).x, (D 0).f⟩) := hid ⟨hmk.out.mono (Nat.le_refl _), rfl, rfl, rfl, rfl⟩
  have S0 := hid (show W.heap.size ≤ y0.heap.size from BX.out.size)
  clear hmk
  try dsimp only
  refine hK.out _ _ (CF.out _ BX.out) (fun hHeld => ?_)
  clear hK K' hb
  (try simp only [Act.put, List.setIfInBounds_toArray, List.set_cons_zero, List.set_cons_succ, List.getElem_toArray, List.getElem_cons_succ, List.getElem_cons_zero])
  refine wpAnyH_ready (rs := [5]) (by kernel_rfl) (by simp) ?_
  refine AllReadyH.cons rfl (fun K' hK => ?_) AllReadyH.nil
  (try simp only [Act.put, List.setIfInBounds_toArray, List.set_cons_zero, List.set_cons_succ, List.getElem_toArray, List.getElem_cons_succ, List.getElem_cons_zero])
  go_simp
  refine (etwin_any (((HR.out 1 (by omega)).below (K.out.trans (BX.out.mono K.out.size))).mono (Nat.le_trans K.out.size BX.out.size)) (HN.out 1 (by omega)) (Hn.out 1 (by omega)) (D 1).s (D 1).x).mono ?_
  rintro e y1 ⟨A1, c1, rfl, hmk, hb⟩
  replace BX := hid (BX.out.trans (hb.out.mono BX.out.size))
  replace T0 := hid (T0.out.below hb.out)
  have T1 : Hid (Twd W.heap.size y1 (D 1) ⟨(D 1).s, A1, (D 1).n, c1, (D 1).x, (D 1).f⟩) := hid ⟨hmk.out.mono S0.out, rfl, rfl, rfl, rfl⟩
  have S1 := hid (show W.heap.size ≤ y1.heap.size from BX.out.size)
  clear hmk
  try dsimp only
  refine hK.out _ _ (CF.out _ BX.out) (fun hHeld => ?_)
  clear hK K' hb
  (try simp only [Act.put, List.setIfInBounds_toArray, List.set_cons_zero, List.set_cons_succ, List.getElem_toArray, List.getElem_cons_succ, List.getElem_cons_zero])
  refine wpAnyH_ready (rs := [8]) (by kernel_rfl) (by simp) ?_
  refine AllReadyH.cons rfl (fun K' hK => ?_) AllReadyH.nil
  (try simp only [Act.put, List.setIfInBounds_toArray, List.set_cons_zero, List.set_cons_succ, List.getElem_toArray, List.getElem_cons_succ, List.getElem_cons_zero])
  go_simp
  refine (etwin_any (((HR.out 2 (by omega)).below (K.out.trans (BX.out.mono K.out.size))).mono (Nat.le_trans K.out.size BX.out.size)) (HN.out 2 (by omega)) (Hn.out 2 (by omega)) (D 2).s (D 2).x).mono ?_
  rintro e y2 ⟨A2, c2, rfl, hmk, hb⟩
  replace BX := hid (BX.out.trans (hb.out.mono BX.out.size))
  replace T0 := hid (T0.out.below hb.out)
  replace T1 := hid (T1.out.below hb.out)
  have T2 : Hid (Twd W.heap.size y2 (D 2) ⟨(D 2).s, A2, (D 2).n, c2, (D 2).x, (D 2).f⟩) := hid ⟨hmk.out.mono S1.out, rfl, rfl, rfl, rfl⟩
  have S2 := hid (show W.heap.size ≤ y2.heap.size from BX.out.size)
  clear hmk
  try dsimp only
  refine hK.out _ _ (CF.out _ BX.out) (fun hHeld => ?_)
  clear hK K' hb
  (try simp only [Act.put, List.setIfInBounds_toArray, List.set_cons_zero, List.set_cons_succ, List.getElem_toArray, List.getElem_cons_succ, List.getElem_cons_zero])
  refine wpAnyH_ready (rs := [11]) (by kernel_rfl) (by simp) ?_
  refine AllReadyH.cons rfl (fun K' hK => ?_) AllReadyH.nil
  (try simp only [Act.put, List.setIfInBounds_toArray, List.set_cons_zero, List.set_cons_succ, List.getElem_toArray, List.getElem_cons_succ, List.getElem_cons_zero])
  go_simp
  refine (etwin_any (((HR.out 3 (by omega)).below (K.out.trans (BX.out.mono K.out.size))).mono (Nat.le_trans K.out.size BX.out.size)) (HN.out 3 (by omega)) (Hn.out 3 (by omega)) (D 3).s (D 3).x).mono ?_
  rintro e y3 ⟨A3, c3, rfl, hmk, hb⟩
  replace BX := hid (BX.out.trans (hb.out.mono BX.out.size))
  replace T0 := hid (T0.out.below hb.out)
  replace T1 := hid (T1.out.below hb.out)
  replace T2 := hid (T2.out.below hb.out)
  have T3 : Hid (Twd W.heap.size y3 (D 3) ⟨(D 3).s, A3, (D 3).n, c3, (D 3).x, (D 3).f⟩) := hid ⟨hmk.out.mono S2.out, rfl, rfl, rfl, rfl⟩
  have S3 := hid (show W.heap.size ≤ y3.heap.size from BX.out.size)
  clear hmk
  try dsimp only
  refine hK.out _ _ (CF.out _ BX.out) (fun hHeld => ?_)
  clear hK K' hb
  (try simp only [Act.put, List.setIfInBounds_toArray, List.set_cons_zero, List.set_cons_succ, List.getElem_toArray, List.getElem_cons_succ, List.getElem_cons_zero])
  refine wpAnyH_take (i := 12) (v := ?v5) rfl (by kernel_rfl) (by kernel_rfl) (by kernel_rfl) (fun _ _ _ h => h) (Or.inl ⟨by rfl, ?y5⟩) (by assumption) ?r5
  case y5 => (intro w0 hSw; (try dsimp only at hSw); (try simp only [List.getElem_toArray, List.getElem_cons_succ, List.getElem_cons_zero]); go_simp; try with_reducible rfl)
  (try simp only [Act.put, List.setIfInBounds_toArray, List.set_cons_zero, List.set_cons_succ, List.getElem_toArray, List.getElem_cons_succ, List.getElem_cons_zero])
  have HLit := hid (show (#[.bool (D 0).s, .slice A0 (D 0).n c0, .int .i64 (D 0).x, .bool (D 1).s, .slice A1 (D 1).n c1, .int .i64 (D 1).x, .bool (D 2).s, .slice A2 (D 2).n c2, .int .i64 (D 2).x, .bool (D 3).s, .slice A3 (D 3).n c3, .int .i64 (D 3).x] : Array Value) = mcells (of4 ⟨(D 0).s, A0, (D 0).n, c0, (D 0).x, (D 0).f⟩ ⟨(D 1).s, A1, (D 1).n, c1, (D 1).x, (D 1).f⟩ ⟨(D 2).s, A2, (D 2).n, c2, (D 2).x, (D 2).f⟩ ⟨(D 3).s, A3, (D 3).n, c3, (D 3).x, (D 3).f⟩) from rfl)
  have PRz := hid (PR.out.below BX.out PR.out.lt)
  have gz := grown_mstore y3 (w.heap.size + 1) (of4 ⟨(D 0).s, A0, (D 0).n, c0, (D 0).x, (D 0).f⟩ ⟨(D 1).s, A1, (D 1).n, c1, (D 1).x, (D 1).f⟩ ⟨(D 2).s, A2, (D 2).n, c2, (D 2).x, (D 2).f⟩ ⟨(D 3).s, A3, (D 3).n, c3, (D 3).x, (D 3).f⟩)
  have Kz := hid (below_row (K.out.trans (BX.out.mono K.out.size)) gz (Nat.le_trans K.out.size BX.out.size) (by omega))
  have PRs := hid (PRz.out.store (of4 ⟨(D 0).s, A0, (D 0).n, c0, (D 0).x, (D 0).f⟩ ⟨(D 1).s, A1, (D 1).n, c1, (D 1).x, (D 1).f⟩ ⟨(D 2).s, A2, (D 2).n, c2, (D 2).x, (D 2).f⟩ ⟨(D 3).s, A3, (D 3).n, c3, (D 3).x, (D 3).f⟩))
  have CFz := hid ((CF.out _ BX.out).grown gz (by omega))
  have HFin := hid (show ∀ k, k < 4 → Twd w.heap.size (mstore y3 (w.heap.size + 1) (of4 ⟨(D 0).s, A0, (D 0).n, c0, (D 0).x, (D 0).f⟩ ⟨(D 1).s, A1, (D 1).n, c1, (D 1).x, (D 1).f⟩ ⟨(D 2).s, A2, (D 2).n, c2, (D 2).x, (D 2).f⟩ ⟨(D 3).s, A3, (D 3).n, c3, (D 3).x, (D 3).f⟩)) (D k) ((of4 ⟨(D 0).s, A0, (D 0).n, c0, (D 0).x, (D 0).f⟩ ⟨(D 1).s, A1, (D 1).n, c1, (D 1).x, (D 1).f⟩ ⟨(D 2).s, A2, (D 2).n, c2, (D 2).x, (D 2).f⟩ ⟨(D 3).s, A3, (D 3).n, c3, (D 3).x, (D 3).f⟩) k) from all_of4 (P := fun k => Twd w.heap.size (mstore y3 (w.heap.size + 1) (of4 ⟨(D 0).s, A0, (D 0).n, c0, (D 0).x, (D 0).f⟩ ⟨(D 1).s, A1, (D 1).n, c1, (D 1).x, (D 1).f⟩ ⟨(D 2).s, A2, (D 2).n, c2, (D 2).x, (D 2).f⟩ ⟨(D 3).s, A3, (D 3).n, c3, (D 3).x, (D 3).f⟩)) (D k) ((of4 ⟨(D 0).s, A0, (D 0).n, c0, (D 0).x, (D 0).f⟩ ⟨(D 1).s, A1, (D 1).n, c1, (D 1).x, (D 1).f⟩ ⟨(D 2).s, A2, (D 2).n, c2, (D 2).x, (D 2).f⟩ ⟨(D 3).s, A3, (D 3).n, c3, (D 3).x, (D 3).f⟩) k)) ((T0.out.grown gz (by have := Hsz.out; omega)).mono (by have := Hsz.out; omega)) ((T1.out.grown gz (by have := Hsz.out; omega)).mono (by have := Hsz.out; omega)) ((T2.out.grown gz (by have := Hsz.out; omega)).mono (by have := Hsz.out; omega)) ((T3.out.grown gz (by have := Hsz.out; omega)).mono (by have := Hsz.out; omega)))
  refine wpAnyH_ready (rs := [13]) (by kernel_rfl) (by simp) ?_
  refine AllReadyH.cons rfl (fun K' hK => ?_) AllReadyH.nil
  (try simp only [List.getElem_toArray, List.getElem_cons_succ, List.getElem_cons_zero])
  refine ite_go (by kernel_rfl) ?_
  refine wp1_mstore_ (.tmp 2) (.tmp 15) rfl (w.heap.size + 1) D0 (of4 ⟨(D 0).s, A0, (D 0).n, c0, (D 0).x, (D 0).f⟩ ⟨(D 1).s, A1, (D 1).n, c1, (D 1).x, (D 1).f⟩ ⟨(D 2).s, A2, (D 2).n, c2, (D 2).x, (D 2).f⟩ ⟨(D 3).s, A3, (D 3).n, c3, (D 3).x, (D 3).f⟩) _ rfl rfl HLit.out PRz.out ?_
  refine hK.out _ _ CFz.out (fun hHeld => ?_)
  clear hK K' gz
  generalize mstore y3 (w.heap.size + 1) (of4 ⟨(D 0).s, A0, (D 0).n, c0, (D 0).x, (D 0).f⟩ ⟨(D 1).s, A1, (D 1).n, c1, (D 1).x, (D 1).f⟩ ⟨(D 2).s, A2, (D 2).n, c2, (D 2).x, (D 2).f⟩ ⟨(D 3).s, A3, (D 3).n, c3, (D 3).x, (D 3).f⟩) = W5 at *
  (try simp only [Act.put])
  refine wpAnyH_done (by kernel_rfl) ?_ _
  go_wp2
  exact bodyPost_ret (mass_cell rfl _ _ (w.heap.size + 1) (of4 ⟨(D 0).s, A0, (D 0).n, c0, (D 0).x, (D 0).f⟩ ⟨(D 1).s, A1, (D 1).n, c1, (D 1).x, (D 1).f⟩ ⟨(D 2).s, A2, (D 2).n, c2, (D 2).x, (D 2).f⟩ ⟨(D 3).s, A3, (D 3).n, c3, (D 3).x, (D 3).f⟩) rfl PRs.out) rfl ⟨_, rfl, HFin.out, Kz.out⟩

end Go.Proofs.Ytejngjhdmneaiaa


namespace Go.Proofs.Ytejngjhdmneaiaa
set_option maxRecDepth 100000
open Go.RowKit Go.Shelf

/-- A mass that is more than statements go through. -/
def MGr (D : Nat → Dy) : Prop := ∃ k, k < 4 ∧ (42 < (D k).n ∨ 1100 < (D k).x)

set_option maxHeartbeats 1600000 in
theorem mgreat_any {w : World} {D : Nat → Dy} (hn : ∀ k, k < 4 → (D k).n ≤ 140737488355328) :
    Calls Try.prog 7 #[.agg (mcells D)] w fun e w' => ∃ r : Bool, e = .returned (.bool r) ∧ Hid (r = true ↔ MGr D) ∧ Hid (Below w.heap.size w w') := by
  obtain ⟨W, hW⟩ : ∃ W, W = w.alloc (.cells (mcells D) 27) := ⟨_, rfl⟩
  have HW := hid hW
  have K := hid (show Below w.heap.size w W from hW ▸ (Below.refl _ w).alloc (Nat.le_refl _) _)
  have P := hid (show Mbox W w.heap.size D from hW ▸ heap_alloc_new w _)
  have Hn := hid hn
  clear hW hn
  by_cases h0 : 42 < (D 0).n ∨ 1100 < (D 0).x
  · replace h0 := hid h0
    go_enter Try.func7, Try.ntmps7
    go_upto_region 1 with fail
    rw [← HW.out]
    have a0 := P.out.at_ 0 _ rfl
    have a1 := P.out.at_ 1 _ rfl
    have a2 := P.out.at_ 2 _ rfl
    go_wp2_with fail
    refine (dgreat_any _ _ _ _ _ _ (Hn.out 0 (by omega))).mono ?_
    rintro e w0 ⟨rfl, hb⟩
    rw [bool_of_dec h0.out]
    clear a0 a1 a2
    replace K := hid (K.out.trans (hb.out.mono K.out.size))
    replace P := hid (P.out.below hb.out P.out.lt)
    clear hb
    go_wp2
    go_ret
    exact ⟨true, rfl, ⟨fun _ => ⟨0, by omega, h0.out⟩, fun _ => rfl⟩, K.out⟩
  · replace h0 := hid h0
    by_cases h1 : 42 < (D 1).n ∨ 1100 < (D 1).x
    · replace h1 := hid h1
      go_enter Try.func7, Try.ntmps7
      go_upto_region 1 with fail
      rw [← HW.out]
      have a0 := P.out.at_ 0 _ rfl
      have a1 := P.out.at_ 1 _ rfl
      have a2 := P.out.at_ 2 _ rfl
      go_wp2_with fail
      refine (dgreat_any _ _ _ _ _ _ (Hn.out 0 (by omega))).mono ?_
      rintro e w0 ⟨rfl, hb⟩
      rw [bool_of_not h0.out]
      clear a0 a1 a2
      replace K := hid (K.out.trans (hb.out.mono K.out.size))
      replace P := hid (P.out.below hb.out P.out.lt)
      clear hb
      have a0 := P.out.at_ 3 _ rfl
      have a1 := P.out.at_ 4 _ rfl
      have a2 := P.out.at_ 5 _ rfl
      go_wp2_with fail
      refine (dgreat_any _ _ _ _ _ _ (Hn.out 1 (by omega))).mono ?_
      rintro e w1 ⟨rfl, hb⟩
      rw [bool_of_dec h1.out]
      clear a0 a1 a2
      replace K := hid (K.out.trans (hb.out.mono K.out.size))
      replace P := hid (P.out.below hb.out P.out.lt)
      clear hb
      go_wp2
      go_ret
      exact ⟨true, rfl, ⟨fun _ => ⟨1, by omega, h1.out⟩, fun _ => rfl⟩, K.out⟩
    · replace h1 := hid h1
      by_cases h2 : 42 < (D 2).n ∨ 1100 < (D 2).x
      · replace h2 := hid h2
        go_enter Try.func7, Try.ntmps7
        go_upto_region 1 with fail
        rw [← HW.out]
        have a0 := P.out.at_ 0 _ rfl
        have a1 := P.out.at_ 1 _ rfl
        have a2 := P.out.at_ 2 _ rfl
        go_wp2_with fail
        refine (dgreat_any _ _ _ _ _ _ (Hn.out 0 (by omega))).mono ?_
        rintro e w0 ⟨rfl, hb⟩
        rw [bool_of_not h0.out]
        clear a0 a1 a2
        replace K := hid (K.out.trans (hb.out.mono K.out.size))
        replace P := hid (P.out.below hb.out P.out.lt)
        clear hb
        have a0 := P.out.at_ 3 _ rfl
        have a1 := P.out.at_ 4 _ rfl
        have a2 := P.out.at_ 5 _ rfl
        go_wp2_with fail
        refine (dgreat_any _ _ _ _ _ _ (Hn.out 1 (by omega))).mono ?_
        rintro e w1 ⟨rfl, hb⟩
        rw [bool_of_not h1.out]
        clear a0 a1 a2
        replace K := hid (K.out.trans (hb.out.mono K.out.size))
        replace P := hid (P.out.below hb.out P.out.lt)
        clear hb
        have a0 := P.out.at_ 6 _ rfl
        have a1 := P.out.at_ 7 _ rfl
        have a2 := P.out.at_ 8 _ rfl
        go_wp2_with fail
        refine (dgreat_any _ _ _ _ _ _ (Hn.out 2 (by omega))).mono ?_
        rintro e w2 ⟨rfl, hb⟩
        rw [bool_of_dec h2.out]
        clear a0 a1 a2
        replace K := hid (K.out.trans (hb.out.mono K.out.size))
        replace P := hid (P.out.below hb.out P.out.lt)
        clear hb
        go_wp2
        go_ret
        exact ⟨true, rfl, ⟨fun _ => ⟨2, by omega, h2.out⟩, fun _ => rfl⟩, K.out⟩
      · replace h2 := hid h2
        by_cases h3 : 42 < (D 3).n ∨ 1100 < (D 3).x
        · replace h3 := hid h3
          go_enter Try.func7, Try.ntmps7
          go_upto_region 1 with fail
          rw [← HW.out]
          have a0 := P.out.at_ 0 _ rfl
          have a1 := P.out.at_ 1 _ rfl
          have a2 := P.out.at_ 2 _ rfl
          go_wp2_with fail
          refine (dgreat_any _ _ _ _ _ _ (Hn.out 0 (by omega))).mono ?_
          rintro e w0 ⟨rfl, hb⟩
          rw [bool_of_not h0.out]
          clear a0 a1 a2
          replace K := hid (K.out.trans (hb.out.mono K.out.size))
          replace P := hid (P.out.below hb.out P.out.lt)
          clear hb
          have a0 := P.out.at_ 3 _ rfl
          have a1 := P.out.at_ 4 _ rfl
          have a2 := P.out.at_ 5 _ rfl
          go_wp2_with fail
          refine (dgreat_any _ _ _ _ _ _ (Hn.out 1 (by omega))).mono ?_
          rintro e w1 ⟨rfl, hb⟩
          rw [bool_of_not h1.out]
          clear a0 a1 a2
          replace K := hid (K.out.trans (hb.out.mono K.out.size))
          replace P := hid (P.out.below hb.out P.out.lt)
          clear hb
          have a0 := P.out.at_ 6 _ rfl
          have a1 := P.out.at_ 7 _ rfl
          have a2 := P.out.at_ 8 _ rfl
          go_wp2_with fail
          refine (dgreat_any _ _ _ _ _ _ (Hn.out 2 (by omega))).mono ?_
          rintro e w2 ⟨rfl, hb⟩
          rw [bool_of_not h2.out]
          clear a0 a1 a2
          replace K := hid (K.out.trans (hb.out.mono K.out.size))
          replace P := hid (P.out.below hb.out P.out.lt)
          clear hb
          have a0 := P.out.at_ 9 _ rfl
          have a1 := P.out.at_ 10 _ rfl
          have a2 := P.out.at_ 11 _ rfl
          go_wp2_with fail
          refine (dgreat_any _ _ _ _ _ _ (Hn.out 3 (by omega))).mono ?_
          rintro e w3 ⟨rfl, hb⟩
          rw [bool_of_dec h3.out]
          clear a0 a1 a2
          replace K := hid (K.out.trans (hb.out.mono K.out.size))
          replace P := hid (P.out.below hb.out P.out.lt)
          clear hb
          go_wp2
          go_ret
          exact ⟨true, rfl, ⟨fun _ => ⟨3, by omega, h3.out⟩, fun _ => rfl⟩, K.out⟩
        · replace h3 := hid h3
          go_enter Try.func7, Try.ntmps7
          go_upto_region 1 with fail
          rw [← HW.out]
          have a0 := P.out.at_ 0 _ rfl
          have a1 := P.out.at_ 1 _ rfl
          have a2 := P.out.at_ 2 _ rfl
          go_wp2_with fail
          refine (dgreat_any _ _ _ _ _ _ (Hn.out 0 (by omega))).mono ?_
          rintro e w0 ⟨rfl, hb⟩
          rw [bool_of_not h0.out]
          clear a0 a1 a2
          replace K := hid (K.out.trans (hb.out.mono K.out.size))
          replace P := hid (P.out.below hb.out P.out.lt)
          clear hb
          have a0 := P.out.at_ 3 _ rfl
          have a1 := P.out.at_ 4 _ rfl
          have a2 := P.out.at_ 5 _ rfl
          go_wp2_with fail
          refine (dgreat_any _ _ _ _ _ _ (Hn.out 1 (by omega))).mono ?_
          rintro e w1 ⟨rfl, hb⟩
          rw [bool_of_not h1.out]
          clear a0 a1 a2
          replace K := hid (K.out.trans (hb.out.mono K.out.size))
          replace P := hid (P.out.below hb.out P.out.lt)
          clear hb
          have a0 := P.out.at_ 6 _ rfl
          have a1 := P.out.at_ 7 _ rfl
          have a2 := P.out.at_ 8 _ rfl
          go_wp2_with fail
          refine (dgreat_any _ _ _ _ _ _ (Hn.out 2 (by omega))).mono ?_
          rintro e w2 ⟨rfl, hb⟩
          rw [bool_of_not h2.out]
          clear a0 a1 a2
          replace K := hid (K.out.trans (hb.out.mono K.out.size))
          replace P := hid (P.out.below hb.out P.out.lt)
          clear hb
          have a0 := P.out.at_ 9 _ rfl
          have a1 := P.out.at_ 10 _ rfl
          have a2 := P.out.at_ 11 _ rfl
          go_wp2_with fail
          refine (dgreat_any _ _ _ _ _ _ (Hn.out 3 (by omega))).mono ?_
          rintro e w3 ⟨rfl, hb⟩
          rw [bool_of_not h3.out]
          clear a0 a1 a2
          replace K := hid (K.out.trans (hb.out.mono K.out.size))
          replace P := hid (P.out.below hb.out P.out.lt)
          clear hb
          go_wp2
          go_ret
          exact ⟨false, rfl, ⟨(fun h => by cases h), fun ⟨k, hk, hg⟩ => absurd hg (all_of4 (P := fun k => ¬ (42 < (D k).n ∨ 1100 < (D k).x)) h0.out h1.out h2.out h3.out k hk)⟩, K.out⟩

theorem okay_T {T : Int} (hT : (tp 4000 : Int) = T) (n : Int) (hn : -9223372036854775808 ≤ n ∧ n ≤ 9223372036854775807) : Okay (n * T) := by
  subst hT
  obtain ⟨s, V, hV, hs, hb⟩ : ∃ s V, num s V = n ∧ (V = 0 → s = false) ∧ V < pw 40 := by
    have hp : 18446744073709551616 ≤ pw 40 := Nat.le_trans (show 18446744073709551616 ≤ pw 2 by decide) (pw_mono (j := 2) (k := 40) (by omega))
    by_cases h0 : n < 0
    · exact ⟨true, (-n).toNat, by simp [num]; omega, fun h => by omega, by omega⟩
    · exact ⟨false, n.toNat, by simp [num]; omega, fun _ => rfl, by omega⟩
  refine ⟨s, V, 0, ⟨fun h => ⟨hs h, rfl⟩, fun h => absurd h (by omega)⟩, hb, by omega, ?_⟩
  unfold dv
  rw [num_mul, hV]
end Go.Proofs.Ytejngjhdmneaiaa

