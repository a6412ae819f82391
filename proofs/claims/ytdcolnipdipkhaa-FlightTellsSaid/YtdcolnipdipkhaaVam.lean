/- The document's masses: Twin, Minus. -/
/- Flight: the document's asked, Twin. -/
import Derived.Test.YtdcolnipdipkhaaMref
import Derived.Test.YtdcolnipdipkhaaZr4
import Derived.Test.YtdcolnipdipkhaaVal
import Derived.Test.YtdcolnipdipkhaaZpc

namespace Go.Proofs.Ytdcolnipdipkhaa
set_option maxRecDepth 100000
open Go.RowKit Go.Shelf

/-- A dyad, its sign turned. -/
def mneg (d : Dy) : Bool := if d.n = 0 then d.s else !d.s
def minusD (d : Dy) : Dy := ⟨mneg d, d.A, d.n, d.c, d.x, d.f⟩
theorem Drd.minus {w : World} {q : Prop} {M : Int} {d : Dy} (h : Drd w q M d) : Drd w q (-M) (minusD d) := by
  refine ⟨h.rd, ?_, fun hq => ?_⟩
  · rw [h.may]
    show DMay d.s d.n d.f d.x ↔ DMay (mneg d) d.n d.f d.x
    by_cases h0 : d.n = 0
    · rw [show mneg d = d.s from if_pos h0]
    · rw [show mneg d = !d.s from if_neg h0]
      exact ⟨fun k => ⟨k.1, k.2.1, k.2.2.1, fun e => absurd e h0, k.2.2.2.2⟩, fun k => ⟨k.1, k.2.1, k.2.2.1, fun e => absurd e h0, k.2.2.2.2⟩⟩
  · obtain ⟨X, hx, hM⟩ := h.val hq
    refine ⟨X, hx, ?_⟩
    show -M = dv (mneg d) (vl d.f d.n) X
    by_cases h0 : d.n = 0
    · rw [show mneg d = d.s from if_pos h0, hM, h0]
      simp [vl, dv, num]
    · rw [show mneg d = !d.s from if_neg h0, hM]
      unfold dv
      rw [num_neg]
set_option maxRecDepth 100000 in
set_option maxHeartbeats 3200000 in
theorem emtwin_any {w : World} {D : Nat → Dy} (h : Mrd w w.heap.size D) (hnil : ∀ k, k < 4 → (D k).A = none → (D k).n = 0 ∧ (D k).c = 0) (hn : ∀ k, k < 4 → (D k).n ≤ 42) :
    Calls Try.prog 7 #[.agg (mcells D)] w fun e w' => ∃ R, e = .returned (.agg (mcells R)) ∧ Hid (∀ k, k < 4 → Twd w.heap.size w' (D k) (R k)) ∧ Hid (Below w.heap.size w w') := by
  obtain ⟨W, hW⟩ : ∃ W, W = (w.alloc (.cells (mcells D) 27)).alloc (.cells #[.bool false, .slice none 0 0, .int .i64 0, .bool false, .slice none 0 0, .int .i64 0, .bool false, .slice none 0 0, .int .i64 0, .bool false, .slice none 0 0, .int .i64 0] 27) := ⟨_, rfl⟩
  have HW := hid hW
  have K := hid (show Below w.heap.size w W from hW ▸ ((Below.refl _ w).alloc (Nat.le_refl _) _).alloc (by simp) _)
  have PD : Hid (Mbox W w.heap.size D) := hid (hW ▸ (show Mbox (w.alloc _) w.heap.size D from new_at rfl).alloc _)
  have PR : Hid (Mbox W (w.heap.size + 1) D0) := hid (hW ▸ (show Mbox ((w.alloc _).alloc _) (w.heap.size + 1) D0 from new_at (by simp)))
  have Hsz := hid (show w.heap.size + 2 = W.heap.size by rw [hW]; simp)
  have HR := hid h
  have HN := hid hnil
  have Hn := hid hn
  clear hnil hn
  clear hW h
  go_enter Try.func7, Try.ntmps7
  go_upto_region 1 with fail
  rw [← HW.out]
  have CF : Hid (∀ X, Below W.heap.size W X → Mbox X w.heap.size D) := hid fun X hb => PD.out.below hb PD.out.lt
  have BX : Hid (Below W.heap.size W W.drew) := hid (Below.refl W.heap.size W).drew
  refine wp_region_held_drew (S := fun X => Mbox X w.heap.size D) (by kernel_rfl) (CF.out _ BX.out) (fun hHeld => ?_)
  refine wpAnyH_take (i := 0) (v := ?v1) rfl (by kernel_rfl) (by kernel_rfl) (by kernel_rfl) (fun _ _ _ h => h) (Or.inl ⟨by rfl, ?y1⟩) (by assumption) ?r1
  case y1 => (intro w0 hSw; (try dsimp only at hSw); (try simp only [List.getElem_toArray, List.getElem_cons_zero]); go_simp; try with_reducible rfl)
  (try simp only [Act.put, List.setIfInBounds_toArray, List.set_cons_zero, List.set_cons_succ, List.getElem_toArray, List.getElem_cons_zero])
  refine wpAnyH_take (i := 1) rfl (by kernel_rfl) (by kernel_rfl) (by kernel_rfl) (fun _ _ _ h => h) (yields_pl0 (by rfl) (.tmp 3) rfl w.heap.size D rfl (fun X hX => hX)) hHeld ?_
  (try simp only [Act.put, List.setIfInBounds_toArray, List.set_cons_zero, List.set_cons_succ, List.getElem_toArray, List.getElem_cons_succ, List.getElem_cons_zero])
  refine wpAnyH_take (i := 3) (v := ?v2) rfl (by kernel_rfl) (by kernel_rfl) (by kernel_rfl) (fun _ _ _ h => h) (Or.inl ⟨by rfl, ?y2⟩) (by assumption) ?r2
  case y2 => (intro w0 hSw; (try dsimp only at hSw); (try simp only [List.getElem_toArray, List.getElem_cons_succ, List.getElem_cons_zero]); go_simp; try with_reducible rfl)
  (try simp only [Act.put, List.setIfInBounds_toArray, List.set_cons_zero, List.set_cons_succ, List.getElem_toArray, List.getElem_cons_succ, List.getElem_cons_zero])
  refine wpAnyH_take (i := 4) rfl (by kernel_rfl) (by kernel_rfl) (by kernel_rfl) (fun _ _ _ h => h) (yields_pl1 (by rfl) (.tmp 6) rfl w.heap.size D rfl (fun X hX => hX)) hHeld ?_
  (try simp only [Act.put, List.setIfInBounds_toArray, List.set_cons_zero, List.set_cons_succ, List.getElem_toArray, List.getElem_cons_succ, List.getElem_cons_zero])
  refine wpAnyH_take (i := 6) (v := ?v3) rfl (by kernel_rfl) (by kernel_rfl) (by kernel_rfl) (fun _ _ _ h => h) (Or.inl ⟨by rfl, ?y3⟩) (by assumption) ?r3
  case y3 => (intro w0 hSw; (try dsimp only at hSw); (try simp only [List.getElem_toArray, List.getElem_cons_succ, List.getElem_cons_zero]); go_simp; try with_reducible rfl)
  (try simp only [Act.put, List.setIfInBounds_toArray, List.set_cons_zero, List.set_cons_succ, List.getElem_toArray, List.getElem_cons_succ, List.getElem_cons_zero])
  refine wpAnyH_take (i := 7) rfl (by kernel_rfl) (by kernel_rfl) (by kernel_rfl) (fun _ _ _ h => h) (yields_pl2 (by rfl) (.tmp 9) rfl w.heap.size D rfl (fun X hX => hX)) hHeld ?_
  (try simp only [Act.put, List.setIfInBounds_toArray, List.set_cons_zero, List.set_cons_succ, List.getElem_toArray, List.getElem_cons_succ, List.getElem_cons_zero])
  refine wpAnyH_take (i := 9) (v := ?v4) rfl (by kernel_rfl) (by kernel_rfl) (by kernel_rfl) (fun _ _ _ h => h) (Or.inl ⟨by rfl, ?y4⟩) (by assumption) ?r4
  case y4 => (intro w0 hSw; (try dsimp only at hSw); (try simp only [List.getElem_toArray, List.getElem_cons_succ, List.getElem_cons_zero]); go_simp; try with_reducible rfl)
  (try simp only [Act.put, List.setIfInBounds_toArray, List.set_cons_zero, List.set_cons_succ, List.getElem_toArray, List.getElem_cons_succ, List.getElem_cons_zero])
  refine wpAnyH_take (i := 10) rfl (by kernel_rfl) (by kernel_rfl) (by kernel_rfl) (fun _ _ _ h => h) (yields_pl3 (by rfl) (.tmp 12) rfl w.heap.size D rfl (fun X hX => hX)) hHeld ?_
  (try simp only [Act.put, List.setIfInBounds_toArray, List.set_cons_zero, List.set_cons_succ, List.getElem_toArray, List.getElem_cons_succ, List.getElem_cons_zero])
  refine wpAnyH_ready (rs := [2]) (by kernel_rfl) (by simp) ?_
  refine AllReadyH.cons rfl (fun K' hK => ?_) AllReadyH.nil
  (try simp only [Act.put, List.setIfInBounds_toArray, List.set_cons_zero, List.set_cons_succ, List.getElem_toArray, List.getElem_cons_succ, List.getElem_cons_zero])
  go_simp
  refine (etwin_any (((HR.out 0 (by omega)).below (K.out.trans (BX.out.mono K.out.size))).mono (Nat.le_trans K.out.size BX.out.size)) (HN.out 0 (by omega)) (Hn.out 0 (by omega)) (D 0).s (D 0).x).mono ?_
  rintro e y0 ⟨A0, c0, rfl, hmk, hb⟩
  replace BX := hid (BX.out.trans (hb.out.mono BX.out.size))
  have T0 : Hid (Twd W.heap.size y0 (D 0) ⟨(D 0).s, A0, (D 0).n, c0, (D 0).x, (D 0).f⟩) := hid ⟨hmk.out.mono (Nat.le_refl _), rfl, rfl, rfl, rfl⟩
  have S0 := hid (show W.heap.size ≤ y0.heap.size from BX.out.size)
  clear hmk
  try dsimp only
  refine hK.out _ _ (CF.out _ BX.out) (fun hHeld => ?_)
  clear hK K' hb
  (try simp only [Act.put, List.setIfInBounds_toArray, List.set_cons_zero, List.set_cons_succ, List.getElem_toArray, List.getElem_cons_succ, List.getElem_cons_zero])
  refine wpAnyH_ready (rs := [5]) (by kernel_rfl) (by simp) ?_
  refine AllReadyH.cons rfl (fun K' hK => ?_) AllReadyH.nil
  (try simp only [Act.put, List.setIfInBounds_toArray, List.set_cons_zero, List.set_cons_succ, List.getElem_toArray, List.getElem_cons_succ, List.getElem_cons_zero])
  go_simp
  refine (etwin_any (((HR.out 1 (by omega)).below (K.out.trans (BX.out.mono K.out.size))).mono (Nat.le_trans K.out.size BX.out.size)) (HN.out 1 (by omega)) (Hn.out 1 (by omega)) (D 1).s (D 1).x).mono ?_
  rintro e y1 ⟨A1, c1, rfl, hmk, hb⟩
  replace BX := hid (BX.out.trans (hb.out.mono BX.out.size))
  replace T0 := hid (T0.out.below hb.out)
  have T1 : Hid (Twd W.heap.size y1 (D 1) ⟨(D 1).s, A1, (D 1).n, c1, (D 1).x, (D 1).f⟩) := hid ⟨hmk.out.mono S0.out, rfl, rfl, rfl, rfl⟩
  have S1 := hid (show W.heap.size ≤ y1.heap.size from BX.out.size)
  clear hmk
  try dsimp only
  refine hK.out _ _ (CF.out _ BX.out) (fun hHeld => ?_)
  clear hK K' hb
  (try simp only [Act.put, List.setIfInBounds_toArray, List.set_cons_zero, List.set_cons_succ, List.getElem_toArray, List.getElem_cons_succ, List.getElem_cons_zero])
  refine wpAnyH_ready (rs := [8]) (by kernel_rfl) (by simp) ?_
  refine AllReadyH.cons rfl (fun K' hK => ?_) AllReadyH.nil
  (try simp only [Act.put, List.setIfInBounds_toArray, List.set_cons_zero, List.set_cons_succ, List.getElem_toArray, List.getElem_cons_succ, List.getElem_cons_zero])
  go_simp
  refine (etwin_any (((HR.out 2 (by omega)).below (K.out.trans (BX.out.mono K.out.size))).mono (Nat.le_trans K.out.size BX.out.size)) (HN.out 2 (by omega)) (Hn.out 2 (by omega)) (D 2).s (D 2).x).mono ?_
  rintro e y2 ⟨A2, c2, rfl, hmk, hb⟩
  replace BX := hid (BX.out.trans (hb.out.mono BX.out.size))
  replace T0 := hid (T0.out.below hb.out)
  replace T1 := hid (T1.out.below hb.out)
  have T2 : Hid (Twd W.heap.size y2 (D 2) ⟨(D 2).s, A2, (D 2).n, c2, (D 2).x, (D 2).f⟩) := hid ⟨hmk.out.mono S1.out, rfl, rfl, rfl, rfl⟩
  have S2 := hid (show W.heap.size ≤ y2.heap.size from BX.out.size)
  clear hmk
  try dsimp only
  refine hK.out _ _ (CF.out _ BX.out) (fun hHeld => ?_)
  clear hK K' hb
  (try simp only [Act.put, List.setIfInBounds_toArray, List.set_cons_zero, List.set_cons_succ, List.getElem_toArray, List.getElem_cons_succ, List.getElem_cons_zero])
  refine wpAnyH_ready (rs := [11]) (by kernel_rfl) (by simp) ?_
  refine AllReadyH.cons rfl (fun K' hK => ?_) AllReadyH.nil
  (try simp only [Act.put, List.setIfInBounds_toArray, List.set_cons_zero, List.set_cons_succ, List.getElem_toArray, List.getElem_cons_succ, List.getElem_cons_zero])
  go_simp
  refine (etwin_any (((HR.out 3 (by omega)).below (K.out.trans (BX.out.mono K.out.size))).mono (Nat.le_trans K.out.size BX.out.size)) (HN.out 3 (by omega)) (Hn.out 3 (by omega)) (D 3).s (D 3).x).mono ?_
  rintro e y3 ⟨A3, c3, rfl, hmk, hb⟩
  replace BX := hid (BX.out.trans (hb.out.mono BX.out.size))
  replace T0 := hid (T0.out.below hb.out)
  replace T1 := hid (T1.out.below hb.out)
  replace T2 := hid (T2.out.below hb.out)
  have T3 : Hid (Twd W.heap.size y3 (D 3) ⟨(D 3).s, A3, (D 3).n, c3, (D 3).x, (D 3).f⟩) := hid ⟨hmk.out.mono S2.out, rfl, rfl, rfl, rfl⟩
  have S3 := hid (show W.heap.size ≤ y3.heap.size from BX.out.size)
  clear hmk
  try dsimp only
  refine hK.out _ _ (CF.out _ BX.out) (fun hHeld => ?_)
  clear hK K' hb
  (try simp only [Act.put, List.setIfInBounds_toArray, List.set_cons_zero, List.set_cons_succ, List.getElem_toArray, List.getElem_cons_succ, List.getElem_cons_zero])
  refine wpAnyH_take (i := 12) (v := ?v5) rfl (by kernel_rfl) (by kernel_rfl) (by kernel_rfl) (fun _ _ _ h => h) (Or.inl ⟨by rfl, ?y5⟩) (by assumption) ?r5
  case y5 => (intro w0 hSw; (try dsimp only at hSw); (try simp only [List.getElem_toArray, List.getElem_cons_succ, List.getElem_cons_zero]); go_simp; try with_reducible rfl)
  (try simp only [Act.put, List.setIfInBounds_toArray, List.set_cons_zero, List.set_cons_succ, List.getElem_toArray, List.getElem_cons_succ, List.getElem_cons_zero])
  have HLit := hid (show (#[.bool (D 0).s, .slice A0 (D 0).n c0, .int .i64 (D 0).x, .bool (D 1).s, .slice A1 (D 1).n c1, .int .i64 (D 1).x, .bool (D 2).s, .slice A2 (D 2).n c2, .int .i64 (D 2).x, .bool (D 3).s, .slice A3 (D 3).n c3, .int .i64 (D 3).x] : Array Value) = mcells (of4 ⟨(D 0).s, A0, (D 0).n, c0, (D 0).x, (D 0).f⟩ ⟨(D 1).s, A1, (D 1).n, c1, (D 1).x, (D 1).f⟩ ⟨(D 2).s, A2, (D 2).n, c2, (D 2).x, (D 2).f⟩ ⟨(D 3).s, A3, (D 3).n, c3, (D 3).x, (D 3).f⟩) from rfl)
  have PRz := hid (PR.out.below BX.out PR.out.lt)
  have gz := grown_mstore y3 (w.heap.size + 1) (of4 ⟨(D 0).s, A0, (D 0).n, c0, (D 0).x, (D 0).f⟩ ⟨(D 1).s, A1, (D 1).n, c1, (D 1).x, (D 1).f⟩ ⟨(D 2).s, A2, (D 2).n, c2, (D 2).x, (D 2).f⟩ ⟨(D 3).s, A3, (D 3).n, c3, (D 3).x, (D 3).f⟩)
  have Kz := hid (below_row (K.out.trans (BX.out.mono K.out.size)) gz (Nat.le_trans K.out.size BX.out.size) (by omega))
  have PRs := hid (PRz.out.store (of4 ⟨(D 0).s, A0, (D 0).n, c0, (D 0).x, (D 0).f⟩ ⟨(D 1).s, A1, (D 1).n, c1, (D 1).x, (D 1).f⟩ ⟨(D 2).s, A2, (D 2).n, c2, (D 2).x, (D 2).f⟩ ⟨(D 3).s, A3, (D 3).n, c3, (D 3).x, (D 3).f⟩))
  have CFz := hid ((CF.out _ BX.out).grown gz (by omega))
  have HFin := hid (show ∀ k, k < 4 → Twd w.heap.size (mstore y3 (w.heap.size + 1) (of4 ⟨(D 0).s, A0, (D 0).n, c0, (D 0).x, (D 0).f⟩ ⟨(D 1).s, A1, (D 1).n, c1, (D 1).x, (D 1).f⟩ ⟨(D 2).s, A2, (D 2).n, c2, (D 2).x, (D 2).f⟩ ⟨(D 3).s, A3, (D 3).n, c3, (D 3).x, (D 3).f⟩)) (D k) ((of4 ⟨(D 0).s, A0, (D 0).n, c0, (D 0).x, (D 0).f⟩ ⟨(D 1).s, A1, (D 1).n, c1, (D 1).x, (D 1).f⟩ ⟨(D 2).s, A2, (D 2).n, c2, (D 2).x, (D 2).f⟩ ⟨(D 3).s, A3, (D 3).n, c3, (D 3).x, (D 3).f⟩) k) from all_of4 (P := fun k => Twd w.heap.size (mstore y3 (w.heap.size + 1) (of4 ⟨(D 0).s, A0, (D 0).n, c0, (D 0).x, (D 0).f⟩ ⟨(D 1).s, A1, (D 1).n, c1, (D 1).x, (D 1).f⟩ ⟨(D 2).s, A2, (D 2).n, c2, (D 2).x, (D 2).f⟩ ⟨(D 3).s, A3, (D 3).n, c3, (D 3).x, (D 3).f⟩)) (D k) ((of4 ⟨(D 0).s, A0, (D 0).n, c0, (D 0).x, (D 0).f⟩ ⟨(D 1).s, A1, (D 1).n, c1, (D 1).x, (D 1).f⟩ ⟨(D 2).s, A2, (D 2).n, c2, (D 2).x, (D 2).f⟩ ⟨(D 3).s, A3, (D 3).n, c3, (D 3).x, (D 3).f⟩) k)) ((T0.out.grown gz (by have := Hsz.out; omega)).mono (by have := Hsz.out; omega)) ((T1.out.grown gz (by have := Hsz.out; omega)).mono (by have := Hsz.out; omega)) ((T2.out.grown gz (by have := Hsz.out; omega)).mono (by have := Hsz.out; omega)) ((T3.out.grown gz (by have := Hsz.out; omega)).mono (by have := Hsz.out; omega)))
  refine wpAnyH_ready (rs := [13]) (by kernel_rfl) (by simp) ?_
  refine AllReadyH.cons rfl (fun K' hK => ?_) AllReadyH.nil
  (try simp only [List.getElem_toArray, List.getElem_cons_succ, List.getElem_cons_zero])
  refine ite_go (by kernel_rfl) ?_
  refine wp1_mstore_ (.tmp 2) (.tmp 15) rfl (w.heap.size + 1) D0 (of4 ⟨(D 0).s, A0, (D 0).n, c0, (D 0).x, (D 0).f⟩ ⟨(D 1).s, A1, (D 1).n, c1, (D 1).x, (D 1).f⟩ ⟨(D 2).s, A2, (D 2).n, c2, (D 2).x, (D 2).f⟩ ⟨(D 3).s, A3, (D 3).n, c3, (D 3).x, (D 3).f⟩) _ rfl rfl HLit.out PRz.out ?_
  refine hK.out _ _ CFz.out (fun hHeld => ?_)
  clear hK K' gz
  generalize mstore y3 (w.heap.size + 1) (of4 ⟨(D 0).s, A0, (D 0).n, c0, (D 0).x, (D 0).f⟩ ⟨(D 1).s, A1, (D 1).n, c1, (D 1).x, (D 1).f⟩ ⟨(D 2).s, A2, (D 2).n, c2, (D 2).x, (D 2).f⟩ ⟨(D 3).s, A3, (D 3).n, c3, (D 3).x, (D 3).f⟩) = W5 at *
  (try simp only [Act.put])
  refine wpAnyH_done (by kernel_rfl) ?_ _
  go_wp2
  exact bodyPost_ret (mass_cell rfl _ _ (w.heap.size + 1) (of4 ⟨(D 0).s, A0, (D 0).n, c0, (D 0).x, (D 0).f⟩ ⟨(D 1).s, A1, (D 1).n, c1, (D 1).x, (D 1).f⟩ ⟨(D 2).s, A2, (D 2).n, c2, (D 2).x, (D 2).f⟩ ⟨(D 3).s, A3, (D 3).n, c3, (D 3).x, (D 3).f⟩) rfl PRs.out) rfl ⟨_, rfl, HFin.out, Kz.out⟩

end Go.Proofs.Ytdcolnipdipkhaa


namespace Go.Proofs.Ytdcolnipdipkhaa.Fli
set_option maxRecDepth 100000
open Go.RowKit Go.Shelf Go.Lib

theorem chk_lE (l : List (Ld Pm)) : Chk MayM l (lE l) := ⟨fun h => lE_many h, fun h1 h2 => lE_bad (by omega) h2, fun h => lE_zero.2 h⟩
theorem rcheck2_any {w : World} {B n c : Nat} {A : Option Addr} {l : List (Ld Pm)} (h : Lls w B A n c l) (hB : B ≤ w.heap.size) :
    Calls Try.prog 19 #[.slice A n c] w fun e w' => e = .returned (.int .i64 (lE l)) ∧ Hid (Below w.heap.size w w') := by
  refine (rcheck_any h hB).mono ?_
  rintro e w' ⟨q, rfl, hq, hb⟩
  rw [hq.out.uniq (chk_lE l)]
  exact ⟨rfl, hb⟩
set_option maxHeartbeats 1600000 in
theorem asked_any {w : World} {B n c : Nat} {A : Option Addr} {l : List (Ld Pm)} (x : Int) (h : Lls w B A n c l) (hB : B ≤ w.heap.size) :
    Calls Try.prog 30 #[.slice A n c, .int .i64 x] w fun e w' => e = .returned (.int .i64 (askE l x)) ∧ Hid (Below w.heap.size w w') := by
  have HC := hid (rcheck2_any h hB)
  clear h
  by_cases hz : lE l = 0
  case neg =>
    have hne : ¬ lE l = 0 := hz
    have hA : askE l x = lE l := by unfold askE; rw [if_neg hz]
    rw [hA]
    generalize lE l = q at *
    clear hA hz
    go_enter Try.func30, Try.ntmps30
    go_wp2_with fail
    refine HC.out.mono ?_
    rintro e w1 ⟨rfl, H1⟩
    go_wp2
    go_ret
    exact ⟨rfl, H1⟩
  rw [hz] at HC
  by_cases h0 : x < 0
  · have hA : askE l x = 2 := by unfold askE; rw [if_pos hz, if_neg (by omega)]
    rw [hA]
    clear hA hz
    go_enter Try.func30, Try.ntmps30
    go_wp2_with fail
    refine HC.out.mono ?_
    rintro e w1 ⟨rfl, H1⟩
    go_wp2
    go_ret
    exact ⟨rfl, H1⟩
  by_cases h1 : x > 1048575
  · have hA : askE l x = 2 := by unfold askE; rw [if_pos hz, if_neg (by omega)]
    rw [hA]
    clear hA hz
    go_enter Try.func30, Try.ntmps30
    go_wp2_with fail
    refine HC.out.mono ?_
    rintro e w1 ⟨rfl, H1⟩
    go_wp2
    go_ret
    exact ⟨rfl, H1⟩
  · have hA : askE l x = 0 := by unfold askE; rw [if_pos hz, if_pos (by omega)]
    rw [hA]
    clear hA hz
    go_enter Try.func30, Try.ntmps30
    go_wp2_with fail
    refine HC.out.mono ?_
    rintro e w1 ⟨rfl, H1⟩
    go_wp2
    go_ret
    exact ⟨rfl, H1⟩
set_option maxHeartbeats 6400000 in
theorem rtwins_any {w : World} {B n c : Nat} {A : Option Addr} {l : List (Ld Pm)} (h : Lls w B A n c l) (hB : B ≤ w.heap.size) (hz : SzL l) :
    Calls Try.prog 6 #[.slice A n c] w (TwsR w l) := by
  have H := hid (h.mono hB)
  have hm := h.max
  have hcap := h.cap
  have HL := hid h.len
  have HZ := hid hz
  clear h hz
  go_enter Try.func6, Try.ntmps6
  go_wp2
  go_loopg [3, 4] n (fun gg s3 s4 wr => ∃ (kk : Nat) (v : Value) (rs : List Lr), kk ≤ n ∧ n - kk ≤ gg ∧ s4 = .int .i64 kk ∧ v = s3 ∧ Hid (Lof w.heap.size wr v rs (l.take kk)) ∧ Hid (Below w.heap.size w wr))
  case atStart => exact ⟨0, _, [], Nat.zero_le _, by omega, rfl, rfl, hid (by rw [List.take_zero]; exact Lof.nil _ _), hid (Below.refl _ _)⟩
  case round =>
    obtain ⟨kk, v, rs, hkk, hg, rfl, rfl, HI, BW⟩ := hrel
    by_cases hlt : kk < n
    · have hltz : (kk : Int) < (n : Int) := by omega
      obtain ⟨b, off, r, p, rfl, hb, hp, hr, hc⟩ := (H.out.below BW.out).get hlt
      have HP := hid hp
      have HZp := hid (HZ.out.2 p (List.mem_of_getElem? hp))
      have HLn := hid (show (l.take kk).length + 1 ≤ 1000 by rw [List.length_take]; have := HZ.out.1; have := HL.out; omega)
      have hsz := BW.out.size
      have HR := hid hr
      obtain ⟨x, y, z, M⟩ := r
      have HX := hid (show wr.rangeAt b (off + kk * 15) (lcells x y z M).toList from fun t v hv => by rw [Nat.add_assoc]; exact hc t v hv)
      have AL := hid ((Below.refl _ wr).alloc (Nat.le_refl wr.heap.size) (.cells (lcells 0 0 0 D0) 40))
      have XA := hid (Lbx.new wr 0 0 0 D0)
      clear hr hp hc
      go_upto_region 6 with (first
        | (refine wp_lload (by rfl) (.tmp 14) (by with_reducible rfl) b (off + kk * 15) x y z M (by rfl) HX.out ?_)
        | (refine gput_row (P := Try.prog) (by rfl) _ (.tmp 5) (.tmp 15) (by with_reducible rfl) wr.heap.size 40 _ (lcells x y z M) (by rfl) (by rfl) XA.out rfl (loadSize x y z M) (lcells_one x y z M) ?_
           intro w3 x3 q3
           have X3 := hid (show Lbx w3 wr.heap.size x y z M from x3)
           have B3 := hid (q3.bel AL.out (Nat.le_refl _))
           clear x3 q3)
        | fail)
      have R3 := hid (HR.out.below (B3.out.mono hsz))
      have x3m := X3.out.mass
      have CT := hid (emtwin_any (w := w3) (D := M) (fun k hk => (R3.out.rd k hk).mono (Nat.le_trans hsz B3.out.size)) R3.out.nil (by
        have h4 := R3.out.pl
        have h5 := HZp.out
        simp only at h4
        rw [← h4] at h5
        exact h5.at_))
      go_wp2_with (first | (refine wp_lm (by rfl) (.tmp 16) (by with_reducible rfl) wr.heap.size 3 M (by rfl) x3m ?_) | fail)
      refine CT.out.mono ?_
      rintro e w4 ⟨R, rfl, hR, h4⟩
      have X4 := hid (X3.out.below h4.out X3.out.lt)
      have B4 := hid (gbelow_on B3.out (Nat.le_refl _) h4.out)
      have HT := hid hR.out
      have S3 := hid X3.out.lt
      clear x3m CT hR h4
      go_upto_region 7 with (first
        | (refine gput_mid (P := Try.prog) (by rfl) _ (.tmp 19) (.tmp 18) (by with_reducible rfl) wr.heap.size 3 40 _ (mcells R) (lcells x y z R) (by rfl) (by rfl) X4.out (show 3 + 12 ≤ 15 by decide) (massSize R) (mcells_one R) rfl (lcells_put x y z M R) ?_
           intro w5 x5 q5
           have X5 := hid (show Lbx w5 wr.heap.size x y z R from x5)
           have B5 := hid (q5.bel B4.out (Nat.le_refl _))
           have T5 := hid (show Low w.heap.size w5 (x, y, z, R) p from by
             refine ⟨R3.out.nu, R3.out.ep, R3.out.cp, ?_, fun k hk => ?_⟩
             · rw [← R3.out.pl]
               have hd : ∀ k, k < 4 → pdy (R k) = pdy (M k) := fun k hk4 => by
                 have := HT.out k hk4
                 unfold pdy
                 rw [this.s, this.n, this.x, this.f]
               show pmd R = pmd M
               unfold pmd
               rw [hd 0 (by omega), hd 1 (by omega), hd 2 (by omega), hd 3 (by omega)]
             · exact (Mk.keep32 (HT.out k hk).lim (fun g cs hg _ => q5.block g (by have := S3.out; omega))).mono (Nat.le_trans hsz B3.out.size))
           have xr := lbx_row X5.out
           clear x5 q5)
        | fail)
      have I5 := hid (HI.out.below B5.out)
      have b6 := hid ((Below.refl w5.heap.size w5).alloc (Nat.le_refl _) (.cells (lcells x y z R) 40))
      have I6 := hid (I5.out.below b6.out)
      have T6 := hid (T5.out.below b6.out)
      have B6 := hid (gbelow_on (gbelow_on BW.out (Nat.le_refl _) B5.out) (Nat.le_refl _) b6.out)
      have G6 := hid (Gs.new (cs := cellsL [(x, y, z, R)]) (k := 15) (n := 1) (c := 1) (B := w5.heap.size + 1) (heap_alloc_new w5 (.cells (lcells x y z R) 40)) (Nat.lt_succ_self _) rfl (Nat.le_refl _) (by omega))
      go_wp2_with (first
        | (refine wp_lload (by rfl) (.tmp 5) (by with_reducible rfl) wr.heap.size 0 x y z R (by rfl) xr ?_)
        | (at_builtin
           refine list_appG rfl _ _ rfl Try.underlying22 infoLd rfl (by decide) (by decide) rfl rfl I6.out.row G6.out (cellsL_one _) (Nat.le_trans HLn.out (by decide)) B6.out.size ?_
           intro v7 w7 T7
           have I7 := hid (I6.out.snoc T7.out T6.out)
           have B7 := hid (B6.out.trans (T7.out.below I6.out.row B6.out.size)))
        | fail)
      go_roundg (n - (kk + 1))
      case measure => omega
      case rel => exact ⟨kk + 1, v7, _, by omega, by omega, by go_num, rfl, hid (by rw [take_ld HP.out]; exact I7.out), B7⟩
    · have hltz : ¬ (kk : Int) < (n : Int) := by omega
      obtain rfl : kk = n := by omega
      have HE := hid (show Lof w.heap.size wr v rs l by have := HI.out; rwa [List.take_of_length_le (by rw [HL.out]; exact Nat.le_refl _)] at this)
      go_wp2
      go_ret
      exact ⟨v, rs, rfl, hid ⟨HE.out, BW.out⟩⟩
end Go.Proofs.Ytdcolnipdipkhaa.Fli

