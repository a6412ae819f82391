/- The document's Twin, of limbs of whatever number. -/
import Derived.Test.YtelalanhalbicaaDoorMy1
namespace Go.Proofs.YtelalanhalbicaaDoor
open Go.RowKit Go.Shelf

/-- 'append(x, y...)', x a row of the call's own, y read from wherever, or nil. -/
theorem wpList_append_srcw {P : Program} {ops : Array Oper} {rest : List Oper} {o : Oper} {a : Act} {Q : Exit → Act → World → Prop} (hgd : o.guard = none) (s x : Operand) (t : TypeId)
    (ho : o.op = .call { callee := .builtin .append, args := #[s, x], argTypes := #[t, t] }) (e : TypeId) (z : Value) (bytes : Nat) (ht : P.underlying t = some (.slice e))
    (hi : (P.info? e).map (fun i => (i.zero, i.size, i.bytes)) = some (some z, 1, bytes)) (hz : z.cells.size = 1) (hby : bytes ≤ 4)
    {w : World} {B n m c : Nat} {v : Value} {xs news : List Value} {A : Option Addr} (hs : a.eval s = v) (hx : a.eval x = .slice A m c) (hown : w.ownsRow B e 1 v n xs) (hB : B ≤ w.heap.size)
    (hl : news.length = m) (hnil : A = none → m = 0 ∧ c = 0) (hcells : ∀ p, A = some p → ∀ j u, news[j]? = some u → w.cell? (p.add j) = some u) (hu : ∀ u ∈ news, u.oneCell' = true) (hn : n + m ≤ 35184372087808)
    (h : ∀ v' w', Hid (w'.ownsRow B e 1 v' (n + m) (xs ++ news)) → Hid (Below B w w') → wpList P ops Q rest (a.put o.dst v') w') : wpList P ops Q (o :: rest) a w := by
  obtain ⟨i0, hi, hz0, hz1, hz2⟩ := info_one hi
  cases A with
  | none =>
    obtain ⟨rfl, rfl⟩ := hnil rfl
    obtain rfl : news = [] := List.length_eq_zero_iff.1 hl
    refine wpList_append_own_none hgd s x t ho B e i0 1 ht hi v n xs hs hown hx ?_
    have hh := h v w
    rw [List.append_nil, Nat.add_zero] at hh
    exact hh hown (Below.refl _ _)
  | some p =>
    refine wpList_append_own _ hgd s x t ho B e i0 z 1 bytes ht hi hz0 hz1 hz2 hz (by decide) v n xs hs hown p m c news hx (by omega) (hcells p rfl) hu ?_ ?_ hB ?_
    · unfold maxLen
      omega
    · have : (n + m) * bytes ≤ (n + m) * 4 := Nat.mul_le_mul_left _ hby
      omega
    · intro v' w' hown' hgr _
      refine h v' w' hown' ((Below.refl _ _).grown hgr hB ?_)
      intro k hk
      rcases hown with ⟨_, ⟨rfl, _⟩ | ⟨g, cap, cur, rfl, hg, _⟩⟩
      · cases hk
      · injection hk with hk
        subst hk
        exact hg

/-- 'append([]T{}, y...)': what is handed back is of the call's own, and reads as y does. -/
theorem wpList_append_copyw {P : Program} {ops : Array Oper} {rest : List Oper} {o : Oper} {a : Act} {Q : Exit → Act → World → Prop} (hgd : o.guard = none) (s x : Operand) (t : TypeId)
    (ho : o.op = .call { callee := .builtin .append, args := #[s, x], argTypes := #[t, t] }) (e : TypeId) (z : Value) (bytes : Nat) (ht : P.underlying t = some (.slice e))
    (hi : (P.info? e).map (fun i => (i.zero, i.size, i.bytes)) = some (some z, 1, bytes)) (hz : z.cells.size = 1) (hby : bytes ≤ 4)
    {w : World} {m c : Nat} {news : List Value} {A : Option Addr} (hs : a.eval s = .slice (some ⟨w.heap.size, 0, none⟩) 0 0) (hx : a.eval x = .slice A m c)
    (hl : news.length = m) (hnil : A = none → m = 0 ∧ c = 0) (hcells : ∀ p, A = some p → ∀ j u, news[j]? = some u → w.cell? (p.add j) = some u) (hu : ∀ u ∈ news, u.oneCell' = true) (hn : m ≤ 35184372087808)
    (h : ∀ v' w', Hid (w'.ownsRow w.heap.size e 1 v' m news) → Hid (Below w.heap.size w w') → wpList P ops Q rest (a.put o.dst v') w') : wpList P ops Q (o :: rest) a (w.alloc (.cells #[] e)) := by
  have bel : Below w.heap.size w (w.alloc (.cells #[] e)) := (Below.refl _ w).alloc (Nat.le_refl _) _
  refine wpList_append_srcw hgd s x t ho e z bytes ht hi hz hby (B := w.heap.size) (n := 0) (xs := []) hs hx ⟨rfl, .inr ⟨w.heap.size, 0, #[], rfl, Nat.le_refl _, heap_alloc_new w _, Nat.le_refl _, by unfold maxLen; omega, rfl, rfl⟩⟩ (by simp) hl hnil ?_ hu (by omega) ?_
  · intro p hp j u hj
    have hc := hcells p hp j u hj
    have hb : (p.add j).block < w.heap.size := block_lt_of_cell hc
    exact (bel.cell hb).trans hc
  · intro v' w' hown' hbel'
    rw [Nat.zero_add, List.nil_append] at hown'
    exact h v' w' hown' (bel.trans hbel'.out)

set_option maxHeartbeats 1600000 in
theorem etwin_big {A : Option Addr} {n c : Nat} {f : Nat → Nat} {w : World} (h : Rd w w.heap.size A n c f) (hnil : A = none → n = 0 ∧ c = 0) (hn : n ≤ 35184372087808) (s : Bool) (x : Int) :
    Calls Tryd.prog 24 #[.agg #[.bool s, .slice A n c, .int .i64 x]] w fun e w' => ∃ A' c', e = .returned (.agg #[.bool s, .slice A' n c', .int .i64 x]) ∧ Hid (Mk w' 71 w.heap.size A' n c' f) ∧ Hid (Below w.heap.size w w') := by
  have B0 := hid (((Below.refl w.heap.size w).alloc (Nat.le_refl _) (.cells #[.bool s, .slice A n c, .int .i64 x] 24)).alloc (by simp) (.cells #[.bool false, .slice none 0 0, .int .i64 0] 24))
  have P1 : Hid (Dbox _ (w.heap.size + 1) false (.slice none 0 0) 0) := heap_alloc2_new w (.cells #[.bool s, .slice A n c, .int .i64 x] 24) (.cells #[.bool false, .slice none 0 0, .int .i64 0] 24)
  have P0 : Hid (Dbox _ w.heap.size s (.slice A n c) x) := (Below.heap_alloc _ (.cells #[.bool false, .slice none 0 0, .int .i64 0] 24) _ (by simp)).trans (heap_alloc_new w (.cells #[.bool s, .slice A n c, .int .i64 x] 24))
  have Hcells := hid (cells_of_rd (h.below B0.out))
  have Hnil := hid hnil
  have H := hid h
  have hm := h.max
  clear h hnil
  obtain ⟨W, hW⟩ : ∃ W, W = (w.alloc (.cells #[.bool s, .slice A n c, .int .i64 x] 24)).alloc (.cells #[.bool false, .slice none 0 0, .int .i64 0] 24) := ⟨_, rfl⟩
  have HS : Hid (w.heap.size + 2 = W.heap.size) := by rw [hW]; simp [Hid]
  have HW := hid hW
  rw [← hW] at B0 P1 P0 Hcells
  clear hW
  go_enter Tryd.func24, Tryd.ntmps24
  go_upto_region 1 with fail
  rw [← HW.out]
  have a1 := (P0.out.alloc (.cells #[] 71)).c1
  go_wp2_with
    (at_builtin
     refine wpList_append_copyw rfl (.tmp 3) (.tmp 5) 22 rfl 71 (.int .u32 0) 4 Tryd.underlying22 info_u32 rfl (by decide) rfl rfl (by simp) Hnil.out Hcells.out (by simp; intros; subst_vars; rfl) (by omega) ?_
     intro v1 w1 hown1 hbel1
     obtain ⟨A1, c1, rfl, hr1⟩ := mk_of_row hown1.out hm H.out.lt H.out.out
     have P0 := hid (P0.out.below hbel1.out P0.out.lt)
     have P1 := hid (P1.out.below hbel1.out P1.out.lt)
     have B1 := hid (B0.out.trans (hbel1.out.mono B0.out.size))
     have M1 := hid ((hr1.far (g := w.heap.size) (by have := HS.out; omega) 1 (.slice A1 n c1)))
     have b1 := P0.out.frozen 1
     have b2 := P0.out.c1
     have P0 := hid (P0.out.set1 (.slice A1 n c1))
     have P1 := hid (P1.out.far (k := w.heap.size) (by omega) 1 (.slice A1 n c1))
     have B1 := hid (B1.out.setCell (p := ⟨w.heap.size, 1, none⟩) (Nat.le_refl _) (.slice A1 n c1))
     have g0 := P1.out.frozen 0
     have g1 := P1.out.frozen 1
     have g2 := P1.out.frozen 2
     have e0 := P1.out.c0
     have e1 := P1.out.c1
     have e2 := P1.out.c2
     have d0 := P0.out.c0
     have d1 := P0.out.c1
     have d2 := P0.out.c2
     clear a1 hown1 hbel1)
  refine ret_one rfl rfl rfl (P1.out.store (t := s) (u := .slice A1 n c1) (y := x)) ?_
  exact ⟨_, _, rfl, (M1.out.put3 (by have := HS.out; omega)).mono (by have := HS.out; omega), below_put3 B1.out (by omega)⟩

set_option maxRecDepth 100000 in
set_option maxHeartbeats 3200000 in
theorem emtwin_big {w : World} {D : Nat → Dy} (h : Mrd w w.heap.size D) (hnil : ∀ k, k < 4 → (D k).A = none → (D k).n = 0 ∧ (D k).c = 0) (hn : ∀ k, k < 4 → (D k).n ≤ 35184372087808) :
    Calls Tryd.prog 6 #[.agg (mcells D)] w fun e w' => ∃ R, e = .returned (.agg (mcells R)) ∧ Hid (∀ k, k < 4 → Twd w.heap.size w' (D k) (R k)) ∧ Hid (Below w.heap.size w w') := by
  obtain ⟨W, hW⟩ : ∃ W, W = (w.alloc (.cells (mcells D) 26)).alloc (.cells #[.bool false, .slice none 0 0, .int .i64 0, .bool false, .slice none 0 0, .int .i64 0, .bool false, .slice none 0 0, .int .i64 0, .bool false, .slice none 0 0, .int .i64 0] 26) := ⟨_, rfl⟩
  have HW := hid hW
  have K := hid (show Below w.heap.size w W from hW ▸ ((Below.refl _ w).alloc (Nat.le_refl _) _).alloc (by simp) _)
  have PD : Hid (Mbox W w.heap.size D) := hid (hW ▸ (show Mbox (w.alloc _) w.heap.size D from new_at rfl).alloc _)
  have PR : Hid (Mbox W (w.heap.size + 1) D0) := hid (hW ▸ (show Mbox ((w.alloc _).alloc _) (w.heap.size + 1) D0 from new_at (by simp)))
  have Hsz := hid (show w.heap.size + 2 = W.heap.size by rw [hW]; simp)
  have HR := hid h
  have HN := hid hnil
  have Hn := hid hn
  clear hnil hn
  clear hW h
  go_enter Tryd.func6, Tryd.ntmps6
  go_upto_region 1 with fail
  rw [← HW.out]
  have CF : Hid (∀ X, Below W.heap.size W X → Mbox X w.heap.size D) := hid fun X hb => PD.out.below hb PD.out.lt
  have BX : Hid (Below W.heap.size W W.drew) := hid (Below.refl W.heap.size W).drew
  refine wp_region_held_drew (S := fun X => Mbox X w.heap.size D) (by kernel_rfl) (CF.out _ BX.out) (fun hHeld => ?_)
  refine wpAnyH_take (i := 0) (v := ?v1) rfl (by kernel_rfl) (by kernel_rfl) (by kernel_rfl) (fun _ _ _ h => h) (Or.inl ⟨by rfl, ?y1⟩) (by assumption) ?r1
  case y1 => (intro w0 hSw; (try dsimp only at hSw); (try simp only [List.getElem_toArray, List.getElem_cons_zero]); go_simp; try with_reducible rfl)
  (try simp only [Act.put, List.setIfInBounds_toArray, List.set_cons_zero, List.set_cons_succ, List.getElem_toArray, List.getElem_cons_zero])
  refine wpAnyH_take (i := 1) rfl (by kernel_rfl) (by kernel_rfl) (by kernel_rfl) (fun _ _ _ h => h) (yields_pl0 (by rfl) (.tmp 3) rfl w.heap.size D rfl (fun X hX => hX)) hHeld ?_
  (try simp only [Act.put, List.setIfInBounds_toArray, List.set_cons_zero, List.set_cons_succ, List.getElem_toArray, List.getElem_cons_succ, List.getElem_cons_zero])
  refine wpAnyH_take (i := 3) (v := ?v2) rfl (by kernel_rfl) (by kernel_rfl) (by kernel_rfl) (fun _ _ _ h => h) (Or.inl ⟨by rfl, ?y2⟩) (by assumption) ?r2
  case y2 => (intro w0 hSw; (try dsimp only at hSw); (try simp only [List.getElem_toArray, List.getElem_cons_succ, List.getElem_cons_zero]); go_simp; try with_reducible rfl)
  (try simp only [Act.put, List.setIfInBounds_toArray, List.set_cons_zero, List.set_cons_succ, List.getElem_toArray, List.getElem_cons_succ, List.getElem_cons_zero])
  refine wpAnyH_take (i := 4) rfl (by kernel_rfl) (by kernel_rfl) (by kernel_rfl) (fun _ _ _ h => h) (yields_pl1 (by rfl) (.tmp 6) rfl w.heap.size D rfl (fun X hX => hX)) hHeld ?_
  (try simp only [Act.put, List.setIfInBounds_toArray, List.set_cons_zero, List.set_cons_succ, List.getElem_toArray, List.getElem_cons_succ, List.getElem_cons_zero])
  refine wpAnyH_take (i := 6) (v := ?v3) rfl (by kernel_rfl) (by kernel_rfl) (by kernel_rfl) (fun _ _ _ h => h) (Or.inl ⟨by rfl, ?y3⟩) (by assumption) ?r3
  case y3 => (intro w0 hSw; (try dsimp only at hSw); (try simp only [List.getElem_toArray, List.getElem_cons_succ, List.getElem_cons_zero]); go_simp; try with_reducible rfl)
  (try simp only [Act.put, List.setIfInBounds_toArray, List.set_cons_zero, List.set_cons_succ, List.getElem_toArray, List.getElem_cons_succ, List.getElem_cons_zero])
  refine wpAnyH_take (i := 7) rfl (by kernel_rfl) (by kernel_rfl) (by kernel_rfl) (fun _ _ _ h => h) (yields_pl2 (by rfl) (.tmp 9) rfl w.heap.size D rfl (fun X hX => hX)) hHeld ?_
  (try simp only [Act.put, List.setIfInBounds_toArray, List.set_cons_zero, List.set_cons_succ, List.getElem_toArray, List.getElem_cons_succ, List.getElem_cons_zero])
  refine wpAnyH_take (i := 9) (v := ?v4) rfl (by kernel_rfl) (by kernel_rfl) (by kernel_rfl) (fun _ _ _ h => h) (Or.inl ⟨by rfl, ?y4⟩) (by assumption) ?r4
  case y4 => (intro w0 hSw; (try dsimp only at hSw); (try simp only [List.getElem_toArray, List.getElem_cons_succ, List.getElem_cons_zero]); go_simp; try with_reducible rfl)
  (try simp only [Act.put, List.setIfInBounds_toArray, List.set_cons_zero, List.set_cons_succ, List.getElem_toArray, List.getElem_cons_succ, List.getElem_cons_zero])
  refine wpAnyH_take (i := 10) rfl (by kernel_rfl) (by kernel_rfl) (by kernel_rfl) (fun _ _ _ h => h) (yields_pl3 (by rfl) (.tmp 12) rfl w.heap.size D rfl (fun X hX => hX)) hHeld ?_
  (try simp only [Act.put, List.setIfInBounds_toArray, List.set_cons_zero, List.set_cons_succ, List.getElem_toArray, List.getElem_cons_succ, List.getElem_cons_zero])
  refine wpAnyH_ready (rs := [2]) (by kernel_rfl) (by simp) ?_
  refine AllReadyH.cons rfl (fun K' hK => ?_) AllReadyH.nil
  (try simp only [Act.put, List.setIfInBounds_toArray, List.set_cons_zero, List.set_cons_succ, List.getElem_toArray, List.getElem_cons_succ, List.getElem_cons_zero])
  go_simp
  refine (etwin_big (((HR.out 0 (by omega)).below (K.out.trans (BX.out.mono K.out.size))).mono (Nat.le_trans K.out.size BX.out.size)) (HN.out 0 (by omega)) (Hn.out 0 (by omega)) (D 0).s (D 0).x).mono ?_
  rintro e y0 ⟨A0, c0, rfl, hmk, hb⟩
  replace BX := hid (BX.out.trans (hb.out.mono BX.out.size))
  have T0 : Hid (Twd W.heap.size y0 (D 0) ⟨(D 0).s, A0, (D 0).n, c0, (D 0).x, (D 0).f⟩) := hid ⟨hmk.out.mono (Nat.le_refl _), rfl, rfl, rfl, rfl⟩
  have S0 := hid (show W.heap.size ≤ y0.heap.size from BX.out.size)
  clear hmk
  try dsimp only
  refine hK.out _ _ (CF.out _ BX.out) (fun hHeld => ?_)
  clear hK K' hb
  (try simp only [Act.put, List.setIfInBounds_toArray, List.set_cons_zero, List.set_cons_succ, List.getElem_toArray, List.getElem_cons_succ, List.getElem_cons_zero])
  refine wpAnyH_ready (rs := [5]) (by kernel_rfl) (by simp) ?_
  refine AllReadyH.cons rfl (fun K' hK => ?_) AllReadyH.nil
  (try simp only [Act.put, List.setIfInBounds_toArray, List.set_cons_zero, List.set_cons_succ, List.getElem_toArray, List.getElem_cons_succ, List.getElem_cons_zero])
  go_simp
  refine (etwin_big (((HR.out 1 (by omega)).below (K.out.trans (BX.out.mono K.out.size))).mono (Nat.le_trans K.out.size BX.out.size)) (HN.out 1 (by omega)) (Hn.out 1 (by omega)) (D 1).s (D 1).x).mono ?_
  rintro e y1 ⟨A1, c1, rfl, hmk, hb⟩
  replace BX := hid (BX.out.trans (hb.out.mono BX.out.size))
  replace T0 := hid (T0.out.below hb.out)
  have T1 : Hid (Twd W.heap.size y1 (D 1) ⟨(D 1).s, A1, (D 1).n, c1, (D 1).x, (D 1).f⟩) := hid ⟨hmk.out.mono S0.out, rfl, rfl, rfl, rfl⟩
  have S1 := hid (show W.heap.size ≤ y1.heap.size from BX.out.size)
  clear hmk
  try dsimp only
  refine hK.out _ _ (CF.out _ BX.out) (fun hHeld => ?_)
  clear hK K' hb
  (try simp only [Act.put, List.setIfInBounds_toArray, List.set_cons_zero, List.set_cons_succ, List.getElem_toArray, List.getElem_cons_succ, List.getElem_cons_zero])
  refine wpAnyH_ready (rs := [8]) (by kernel_rfl) (by simp) ?_
  refine AllReadyH.cons rfl (fun K' hK => ?_) AllReadyH.nil
  (try simp only [Act.put, List.setIfInBounds_toArray, List.set_cons_zero, List.set_cons_succ, List.getElem_toArray, List.getElem_cons_succ, List.getElem_cons_zero])
  go_simp
  refine (etwin_big (((HR.out 2 (by omega)).below (K.out.trans (BX.out.mono K.out.size))).mono (Nat.le_trans K.out.size BX.out.size)) (HN.out 2 (by omega)) (Hn.out 2 (by omega)) (D 2).s (D 2).x).mono ?_
  rintro e y2 ⟨A2, c2, rfl, hmk, hb⟩
  replace BX := hid (BX.out.trans (hb.out.mono BX.out.size))
  replace T0 := hid (T0.out.below hb.out)
  replace T1 := hid (T1.out.below hb.out)
  have T2 : Hid (Twd W.heap.size y2 (D 2) ⟨(D 2).s, A2, (D 2).n, c2, (D 2).x, (D 2).f⟩) := hid ⟨hmk.out.mono S1.out, rfl, rfl, rfl, rfl⟩
  have S2 := hid (show W.heap.size ≤ y2.heap.size from BX.out.size)
  clear hmk
  try dsimp only
  refine hK.out _ _ (CF.out _ BX.out) (fun hHeld => ?_)
  clear hK K' hb
  (try simp only [Act.put, List.setIfInBounds_toArray, List.set_cons_zero, List.set_cons_succ, List.getElem_toArray, List.getElem_cons_succ, List.getElem_cons_zero])
  refine wpAnyH_ready (rs := [11]) (by kernel_rfl) (by simp) ?_
  refine AllReadyH.cons rfl (fun K' hK => ?_) AllReadyH.nil
  (try simp only [Act.put, List.setIfInBounds_toArray, List.set_cons_zero, List.set_cons_succ, List.getElem_toArray, List.getElem_cons_succ, List.getElem_cons_zero])
  go_simp
  refine (etwin_big (((HR.out 3 (by omega)).below (K.out.trans (BX.out.mono K.out.size))).mono (Nat.le_trans K.out.size BX.out.size)) (HN.out 3 (by omega)) (Hn.out 3 (by omega)) (D 3).s (D 3).x).mono ?_
  rintro e y3 ⟨A3, c3, rfl, hmk, hb⟩
  replace BX := hid (BX.out.trans (hb.out.mono BX.out.size))
  replace T0 := hid (T0.out.below hb.out)
  replace T1 := hid (T1.out.below hb.out)
  replace T2 := hid (T2.out.below hb.out)
  have T3 : Hid (Twd W.heap.size y3 (D 3) ⟨(D 3).s, A3, (D 3).n, c3, (D 3).x, (D 3).f⟩) := hid ⟨hmk.out.mono S2.out, rfl, rfl, rfl, rfl⟩
  have S3 := hid (show W.heap.size ≤ y3.heap.size from BX.out.size)
  clear hmk
  try dsimp only
  refine hK.out _ _ (CF.out _ BX.out) (fun hHeld => ?_)
  clear hK K' hb
  (try simp only [Act.put, List.setIfInBounds_toArray, List.set_cons_zero, List.set_cons_succ, List.getElem_toArray, List.getElem_cons_succ, List.getElem_cons_zero])
  refine wpAnyH_take (i := 12) (v := ?v5) rfl (by kernel_rfl) (by kernel_rfl) (by kernel_rfl) (fun _ _ _ h => h) (Or.inl ⟨by rfl, ?y5⟩) (by assumption) ?r5
  case y5 => (intro w0 hSw; (try dsimp only at hSw); (try simp only [List.getElem_toArray, List.getElem_cons_succ, List.getElem_cons_zero]); go_simp; try with_reducible rfl)
  (try simp only [Act.put, List.setIfInBounds_toArray, List.set_cons_zero, List.set_cons_succ, List.getElem_toArray, List.getElem_cons_succ, List.getElem_cons_zero])
  have HLit := hid (show (#[.bool (D 0).s, .slice A0 (D 0).n c0, .int .i64 (D 0).x, .bool (D 1).s, .slice A1 (D 1).n c1, .int .i64 (D 1).x, .bool (D 2).s, .slice A2 (D 2).n c2, .int .i64 (D 2).x, .bool (D 3).s, .slice A3 (D 3).n c3, .int .i64 (D 3).x] : Array Value) = mcells (of4 ⟨(D 0).s, A0, (D 0).n, c0, (D 0).x, (D 0).f⟩ ⟨(D 1).s, A1, (D 1).n, c1, (D 1).x, (D 1).f⟩ ⟨(D 2).s, A2, (D 2).n, c2, (D 2).x, (D 2).f⟩ ⟨(D 3).s, A3, (D 3).n, c3, (D 3).x, (D 3).f⟩) from rfl)
  have PRz := hid (PR.out.below BX.out PR.out.lt)
  have gz := grown_mstore y3 (w.heap.size + 1) (of4 ⟨(D 0).s, A0, (D 0).n, c0, (D 0).x, (D 0).f⟩ ⟨(D 1).s, A1, (D 1).n, c1, (D 1).x, (D 1).f⟩ ⟨(D 2).s, A2, (D 2).n, c2, (D 2).x, (D 2).f⟩ ⟨(D 3).s, A3, (D 3).n, c3, (D 3).x, (D 3).f⟩)
  have Kz := hid (below_row (K.out.trans (BX.out.mono K.out.size)) gz (Nat.le_trans K.out.size BX.out.size) (by omega))
  have PRs := hid (PRz.out.store (of4 ⟨(D 0).s, A0, (D 0).n, c0, (D 0).x, (D 0).f⟩ ⟨(D 1).s, A1, (D 1).n, c1, (D 1).x, (D 1).f⟩ ⟨(D 2).s, A2, (D 2).n, c2, (D 2).x, (D 2).f⟩ ⟨(D 3).s, A3, (D 3).n, c3, (D 3).x, (D 3).f⟩))
  have CFz := hid ((CF.out _ BX.out).grown gz (by omega))
  have HFin := hid (show ∀ k, k < 4 → Twd w.heap.size (mstore y3 (w.heap.size + 1) (of4 ⟨(D 0).s, A0, (D 0).n, c0, (D 0).x, (D 0).f⟩ ⟨(D 1).s, A1, (D 1).n, c1, (D 1).x, (D 1).f⟩ ⟨(D 2).s, A2, (D 2).n, c2, (D 2).x, (D 2).f⟩ ⟨(D 3).s, A3, (D 3).n, c3, (D 3).x, (D 3).f⟩)) (D k) ((of4 ⟨(D 0).s, A0, (D 0).n, c0, (D 0).x, (D 0).f⟩ ⟨(D 1).s, A1, (D 1).n, c1, (D 1).x, (D 1).f⟩ ⟨(D 2).s, A2, (D 2).n, c2, (D 2).x, (D 2).f⟩ ⟨(D 3).s, A3, (D 3).n, c3, (D 3).x, (D 3).f⟩) k) from all_of4 (P := fun k => Twd w.heap.size (mstore y3 (w.heap.size + 1) (of4 ⟨(D 0).s, A0, (D 0).n, c0, (D 0).x, (D 0).f⟩ ⟨(D 1).s, A1, (D 1).n, c1, (D 1).x, (D 1).f⟩ ⟨(D 2).s, A2, (D 2).n, c2, (D 2).x, (D 2).f⟩ ⟨(D 3).s, A3, (D 3).n, c3, (D 3).x, (D 3).f⟩)) (D k) ((of4 ⟨(D 0).s, A0, (D 0).n, c0, (D 0).x, (D 0).f⟩ ⟨(D 1).s, A1, (D 1).n, c1, (D 1).x, (D 1).f⟩ ⟨(D 2).s, A2, (D 2).n, c2, (D 2).x, (D 2).f⟩ ⟨(D 3).s, A3, (D 3).n, c3, (D 3).x, (D 3).f⟩) k)) ((T0.out.grown gz (by have := Hsz.out; omega)).mono (by have := Hsz.out; omega)) ((T1.out.grown gz (by have := Hsz.out; omega)).mono (by have := Hsz.out; omega)) ((T2.out.grown gz (by have := Hsz.out; omega)).mono (by have := Hsz.out; omega)) ((T3.out.grown gz (by have := Hsz.out; omega)).mono (by have := Hsz.out; omega)))
  refine wpAnyH_ready (rs := [13]) (by kernel_rfl) (by simp) ?_
  refine AllReadyH.cons rfl (fun K' hK => ?_) AllReadyH.nil
  (try simp only [List.getElem_toArray, List.getElem_cons_succ, List.getElem_cons_zero])
  refine ite_go (by kernel_rfl) ?_
  refine wp1_mstore_ (.tmp 2) (.tmp 15) rfl (w.heap.size + 1) D0 (of4 ⟨(D 0).s, A0, (D 0).n, c0, (D 0).x, (D 0).f⟩ ⟨(D 1).s, A1, (D 1).n, c1, (D 1).x, (D 1).f⟩ ⟨(D 2).s, A2, (D 2).n, c2, (D 2).x, (D 2).f⟩ ⟨(D 3).s, A3, (D 3).n, c3, (D 3).x, (D 3).f⟩) _ rfl rfl HLit.out PRz.out ?_
  refine hK.out _ _ CFz.out (fun hHeld => ?_)
  clear hK K' gz
  generalize mstore y3 (w.heap.size + 1) (of4 ⟨(D 0).s, A0, (D 0).n, c0, (D 0).x, (D 0).f⟩ ⟨(D 1).s, A1, (D 1).n, c1, (D 1).x, (D 1).f⟩ ⟨(D 2).s, A2, (D 2).n, c2, (D 2).x, (D 2).f⟩ ⟨(D 3).s, A3, (D 3).n, c3, (D 3).x, (D 3).f⟩) = W5 at *
  (try simp only [Act.put])
  refine wpAnyH_done (by kernel_rfl) ?_ _
  go_wp2
  exact bodyPost_ret (mass_cell rfl _ _ (w.heap.size + 1) (of4 ⟨(D 0).s, A0, (D 0).n, c0, (D 0).x, (D 0).f⟩ ⟨(D 1).s, A1, (D 1).n, c1, (D 1).x, (D 1).f⟩ ⟨(D 2).s, A2, (D 2).n, c2, (D 2).x, (D 2).f⟩ ⟨(D 3).s, A3, (D 3).n, c3, (D 3).x, (D 3).f⟩) rfl PRs.out) rfl ⟨_, rfl, HFin.out, Kz.out⟩

end Go.Proofs.YtelalanhalbicaaDoor
