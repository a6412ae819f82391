/- Package mass: halved. -/
import Derived.Test.YtelalanhalbicaaDoorMtwin
namespace Go.Proofs.YtelalanhalbicaaDoor
open Go.RowKit Go.Shelf
attribute [local go_sem] Oper.semAt_some

/-- What the loop keeps: the parts that were gone through are halves; and where it returns. -/
def HaI (w : World) (H : Nat → Int) (D : Nat → Dy) (Z : Nat) (pre : List (Idx 4)) (X : World) : Prop :=
  Mbox X (w.heap.size + 1) D0 ∧ Boxed X (w.heap.size + 2) 29 (.int .i64 0) ∧ Below w.heap.size w X ∧
    ∃ R, Mbox X w.heap.size R ∧ (∀ k, k < 4 → k < pre.length → Owd Z X (H k) (R k) ∧ Okay (H k)) ∧ ∀ k, k < 4 → ¬ k < pre.length → R k = D k
def HaX (w : World) (H : Nat → Int) (X : World) : Prop := Mbox X (w.heap.size + 1) D0 ∧ Boxed X (w.heap.size + 2) 29 (.int .i64 10) ∧ Below w.heap.size w X ∧ ∃ k, k < 4 ∧ ¬ Okay (H k)

theorem halves_of {w : World} {q : Nat → Prop} {M : Nat → Int} {D : Nat → Dy} (h : Mar w q M D) (hq : All4 q) : ∃ H : Nat → Int, ∀ k, k < 4 → 2 * H k = M k := by
  refine ⟨fun k => M k / 2, fun k hk => ?_⟩
  obtain ⟨X, hx, hM⟩ := (h k hk).val (hq k hk)
  have hmay := (h k hk).may.1 (hq k hk)
  have hX : X ≤ 1024 := by have := hmay.2.2.1; omega
  have e := half_scaled (s := (D k).s) (V := vl (D k).f (D k).n) hX
  rw [← hM] at e
  show 2 * (M k / 2) = M k
  omega

set_option maxRecDepth 100000 in
set_option maxHeartbeats 4000000 in
theorem mhalved_any {w : World} {q : Nat → Prop} {M H : Nat → Int} {D : Nat → Dy} (h : Mar w q M D) (hq : All4 q) (hH : ∀ k, k < 4 → 2 * H k = M k) (hT : Tab w) :
    Calls Tryd.prog 32 #[.agg (mcells D)] w (MRes w (Merr H) H) := by
  obtain ⟨W, hW⟩ : ∃ W, W = ((w.alloc (.cells (mcells D) 26)).alloc (.cells #[.bool false, .slice none 0 0, .int .i64 0, .bool false, .slice none 0 0, .int .i64 0, .bool false, .slice none 0 0, .int .i64 0, .bool false, .slice none 0 0, .int .i64 0] 26)).alloc (.cells #[.int .i64 0] 29) := ⟨_, rfl⟩
  have B0 := hid (show Below w.heap.size w W from hW ▸ (((Below.refl _ w).alloc (Nat.le_refl _) _).alloc (by simp) _).alloc (by simp; omega) _)
  have P0 : Hid (Mbox W w.heap.size D) := hid (hW ▸ heap3_0 w _ _ _)
  have P1 : Hid (Mbox W (w.heap.size + 1) D0) := hid (hW ▸ (show Mbox _ (w.heap.size + 1) D0 from heap3_1 w _ _ _))
  have P2 : Hid (Boxed W (w.heap.size + 2) 29 (.int .i64 0)) := hid (hW ▸ heap3_2 w _ _ _)
  have HR := hid h
  have HW := hid hW
  have HQ := hid hq
  have HH := hid hH
  have HTb := hid hT
  clear hW h hq hH hT
  refine (callsIn_wide (n := 9)).1 ?_
  refine callsIn_of_wp_marks Tryd.func32 rfl trivial (wpIn_wide.2 ?_) rfl
  simp only [Tryd.ntmps32, List.size_toArray, List.length_cons, List.length_nil, Nat.reduceAdd, Nat.reduceSub, Array.replicate_succ, Array.replicate_zero, List.push_toArray, List.append_toArray, List.nil_append, List.cons_append]
  go_upto_region 1 with fail
  rw [← HW.out]
  go_wp2_with fail
  refine (callsIn_wide.1 (parts_any 9 w.heap.size W)).mono ?_
  rintro e W1 ⟨rfl, hW1⟩
  have bS : Boxed W1 W.heap.size 63 (.pointer (some ⟨w.heap.size, 0, none⟩)) := by rw [hW1]; exact heap_alloc_new W _
  have B1 : Below W.heap.size W W1 := by rw [hW1]; exact (Below.refl _ W).alloc (Nat.le_refl _) _
  have hsz : w.heap.size + 3 = W.heap.size := by rw [HW.out]; simp
  have Q0 := hid (P0.out.below B1 P0.out.lt)
  have Q1 := hid (P1.out.below B1 P1.out.lt)
  have Q2 := hid (Boxed.below' P2.out B1 P2.out.lt)
  have hs1 : W.heap.size + 1 = W1.heap.size := by rw [hW1]; simp
  have Hsz := hid hsz
  have Hs1 := hid hs1
  have HB1 := hid (B0.out.trans (B1.mono (by omega)))
  have HbS := hid bS
  have hI0 : HaI w H D (W1.heap.size + 2) [] W1 := ⟨Q1.out, Q2.out, HB1.out, D, Q0.out, fun k _ hk => absurd hk (Nat.not_lt_zero _), fun _ _ _ => rfl⟩
  clear hW1 B1 bS hsz hs1
  go_wp2_with fail
  refine wpIn_wide.1 (range_overG (F := Fence.wide) (n := 9) (gf := 54) rfl (by omega) rfl trivial (enters_of Tryd.func54 (by kernel_rfl) rfl) (K := fun b => b = W.heap.size) (g := W.heap.size) rfl (fun b hb => by have := Hs1.out; have hb2 : b = W.heap.size := hb; omega)
    (parts_comesG 8 (by omega) HbS.out.cell HbS.out.lt) (fun _ => rfl) (HaI w H D (W1.heap.size + 2)) (fun _ => HaX w H)
    ?keep ?keepx
    (fun s X Y r h _ _ => h) hI0 ?a1 ?assign ?body ?done ?stop)
  case keep =>
    rintro s X Y r ⟨h1, h1b, h2, R, h3, h4, h5⟩ hg hr
    have a1 := Hsz.out
    have a2 := Hs1.out
    exact ⟨h1.grown hg (by omega), Boxed.grown' h1b hg (by omega), below_row h2 hg h2.size (by omega), R, h3.grown hg (by omega), fun k hk hk2 => ⟨(h4 k hk hk2).1.grown hg (by omega), (h4 k hk hk2).2⟩, h5⟩
  case keepx =>
    rintro s X Y r ⟨h1, h1b, h2, h3⟩ hg hr
    have a1 := Hsz.out
    have a2 := Hs1.out
    exact ⟨h1.grown hg (by omega), Boxed.grown' h1b hg (by omega), below_row h2 hg h2.size (by omega), h3⟩
  case assign =>
    intro l x W K hK
    gi_wp2
    exact hK
  case body =>
    intro l pre x Wx hpre hZ hI
    obtain ⟨k, hk⟩ := x
    obtain ⟨hkl, -⟩ := hpre.front
    dsimp only at hkl
    obtain ⟨hQ, hQ2, hB, R, hR, hT, hS⟩ := hI
    have hRk := hS k hk (by omega)
    have HQ1 := hid hQ
    have HQ2 := hid hQ2
    have HB := hid hB
    have HRb := hid hR
    have HT := hid hT
    have HS := hid hS
    have HZ := hid hZ
    have Hk := hid hk
    have Hkl := hid hkl
    have hd := (HR.out k hk).below hB
    have hqk := HQ.out k hk
    have hHk := HH.out k hk
    have hTb := HTb.out.below hB HTb.out.lt
    obtain ⟨m, hmm⟩ : ∃ m, m = D k := ⟨_, rfl⟩
    rw [← hmm] at hd
    obtain ⟨y0, y1, y2⟩ := mcells_at hR hk (hRk.trans hmm.symm)
    clear hmm hB hR hT hS hQ hQ2 hI0 hZ hkl hRk hpre
    have CC := hid (dhalf_any hd.arg hTb)
    have Hs := hid (And.intro hqk hHk)
    clear hd hqk hHk hTb
    obtain ⟨s, A, n, c, xx, f⟩ := m
    dsimp only at y0 y1 y2 CC
    unfold pptr
    gi_wp2_with fail
    refine ⟨trivial, ?_⟩
    refine (CallsIn.inRound l (callsIn_wide.2 CC.out)).mono ?_
    rintro e Wy ⟨Hv, hHv, v, er, rfl, HE, HD, hbel⟩
    obtain rfl : Hv = H k := by have := hHv Hs.out.1; have := Hs.out.2; omega
    obtain ⟨r, rfl, hown⟩ := HD.out.own
    have HO := hid hown
    obtain ⟨s1, A1, n1, c1, x1, f1⟩ := r
    have hcase := HE.out.1 Hs.out.1
    have Ry := hid (HRb.out.below hbel.out HRb.out.lt)
    have Q1y := hid (HQ1.out.below hbel.out HQ1.out.lt)
    have Q2y := hid (Boxed.below' HQ2.out hbel.out HQ2.out.lt)
    have HBy := hid (HB.out.trans (hbel.out.mono HB.out.size))
    have Hba := hid ((Below.refl Wy.heap.size Wy).alloc (Nat.le_refl _) (.cells #[.bool s1, .slice A1 n1 c1, .int .i64 x1] 24))
    clear y0 y1 y2 hHv HD hown
    have hbel2 := hid (hbel.out.alloc hbel.out.size (.cells #[.bool s1, .slice A1 n1 c1, .int .i64 x1] 24))
    rcases hcase with ⟨hok, rfl⟩ | ⟨hno, rfl⟩
    · have z0 := fun o => ((Ry.out.alloc o).cell Hk.out).1
      have z1 := fun o => ((Ry.out.alloc o).cell Hk.out).2.1
      have z2 := fun o => ((Ry.out.alloc o).cell Hk.out).2.2
      have g0 := fun o => (Ry.out.alloc o).frozen (3 * k)
      have g1 := fun o => (Ry.out.alloc o).frozen (3 * k + 1)
      have g2 := fun o => (Ry.out.alloc o).frozen (3 * k + 2)
      have HOk := hid hok
      clear hok
      gi_wp2
      show KeepsFrom _ _ (mput (Wy.alloc (.cells #[.bool s1, .slice A1 n1 c1, .int .i64 x1] 24)) w.heap.size k ⟨s1, A1, n1, c1, x1, f1⟩) ∧ Kb _ _ (mput (Wy.alloc (.cells #[.bool s1, .slice A1 n1 c1, .int .i64 x1] 24)) w.heap.size k ⟨s1, A1, n1, c1, x1, f1⟩) ∧ HaI w H D _ _ (mput (Wy.alloc (.cells #[.bool s1, .slice A1 n1 c1, .int .i64 x1] 24)) w.heap.size k ⟨s1, A1, n1, c1, x1, f1⟩)
      clear z0 z1 z2 g0 g1 g2
      have Ro := hid (HO.out.below Hba.out)
      have Rz := hid (Ry.out.alloc (.cells #[.bool s1, .slice A1 n1 c1, .int .i64 x1] 24))
      have Q1z := hid (Q1y.out.alloc (.cells #[.bool s1, .slice A1 n1 c1, .int .i64 x1] 24))
      have Q2z := hid (Boxed.below' Q2y.out Hba.out Q2y.out.lt)
      generalize Wy.alloc (.cells #[.bool s1, .slice A1 n1 c1, .int .i64 x1] 24) = Wz at *
      refine ⟨keeps_mput (keeps_below hbel2.out), (kb_below hbel2.out ?kb).mput ?n1, ?inv⟩
      case kb => intro b hb; have hb2 : b = W.heap.size := hb; have := Hs1.out; have := HZ.out; omega
      case n1 => intro hb; have hb2 : w.heap.size = W.heap.size := hb; have := Hsz.out; omega
      case inv =>
        have e1 := Hsz.out
        have e2 := Hs1.out
        have e3 := HZ.out
        have e4 := Hkl.out
        refine ⟨Q1z.out.mput_far (k := k) (d := ⟨s1, A1, n1, c1, x1, f1⟩) (by omega), Boxed.mput (k := k) (d := ⟨s1, A1, n1, c1, x1, f1⟩) Q2z.out (by omega), below_mput (k := k) (d := ⟨s1, A1, n1, c1, x1, f1⟩) (HB.out.trans (hbel2.out.mono HB.out.size)) (Nat.le_refl _), updD R k ⟨s1, A1, n1, c1, x1, f1⟩, Rz.out.put Hk.out ⟨s1, A1, n1, c1, x1, f1⟩, fun j hj hj2 => ?_, fun j hj hj2 => ?_⟩
        · rw [List.length_append, List.length_singleton] at hj2
          by_cases hjk : j = k
          · subst hjk
            rw [updD_same]
            exact ⟨(Ro.out.mono (by omega)).mput (by omega), HOk.out⟩
          · rw [updD_ne _ _ hjk]
            exact ⟨((HT.out j hj (by omega)).1.below hbel2.out).mput (by omega), (HT.out j hj (by omega)).2⟩
        · rw [List.length_append, List.length_singleton] at hj2
          rw [updD_ne _ _ (by omega)]
          exact HS.out j hj (by omega)
    · have HNo := hid hno
      have Q1z := hid (Q1y.out.alloc (.cells #[.bool s1, .slice A1 n1 c1, .int .i64 x1] 24))
      have Q2z := hid (Boxed.below' Q2y.out Hba.out Q2y.out.lt)
      have gz := grown_mstore (Wy.alloc (.cells #[.bool s1, .slice A1 n1 c1, .int .i64 x1] 24)) (w.heap.size + 1) D0
      have Q1s := hid (Q1z.out.store D0)
      have Q2s := hid (Boxed.grown' Q2z.out gz (by omega))
      have Bz := hid (below_row (HB.out.trans (hbel2.out.mono HB.out.size)) gz (by have := HB.out.size; have := hbel2.out.size; omega) (by omega))
      have x0 := Q2s.out.cell
      have x1' := Q2s.out.frozen
      have Gz := hid gz
      clear hno gz
      gi_wp2_with (first
        | (with_reducible refine wpin_mzero rfl (.tmp 2) (.tmp 18) rfl (w.heap.size + 1) D0 rfl rfl Q1z.out ?_)
        | fail)
      show KeepsFrom _ _ ((mstore (Wy.alloc (.cells #[.bool s1, .slice A1 n1 c1, .int .i64 x1] 24)) (w.heap.size + 1) D0).setCell ⟨w.heap.size + 2, 0, none⟩ (.int .i64 10)) ∧ HaX w H ((mstore (Wy.alloc (.cells #[.bool s1, .slice A1 n1 c1, .int .i64 x1] 24)) (w.heap.size + 1) D0).setCell ⟨w.heap.size + 2, 0, none⟩ (.int .i64 10))
      have e1 := Hsz.out
      have e2 := Hs1.out
      exact ⟨(keeps_below hbel2.out).trans ((KeepsFrom.of_grownBy Gz.out (fun j h => by injection h with h; omega)).trans ((KeepsOthers.setCell _ _ _).from _)),
        (Below.heap_setCell _ ⟨w.heap.size + 2, 0, none⟩ _ _ (by show w.heap.size + 1 ≠ w.heap.size + 2; omega)).trans Q1s.out, Q2s.out.set _, Bz.out.setCell (p := ⟨w.heap.size + 2, 0, none⟩) (by show w.heap.size ≤ w.heap.size + 2; omega) _, k, Hk.out, HNo.out⟩
  case done =>
    rintro D' ys Wx rfl hys ⟨hQ, hQ2, hB, R, hR, hT, hS⟩ hK
    have e1 := Hsz.out
    have e2 := Hs1.out
    have hl := fst4_pre hys
    have HP := hid hR
    have HQ := hid hQ
    have g1 := grown_mstore Wx (w.heap.size + 1) R
    have hK1 := (g1.block W1.heap.size (lt_of_heap hK) (by intro e; injection e with e; omega)).trans hK
    have b2 := Boxed.grown' hQ2 g1 (by omega)
    have x0 := b2.cell
    have x1 := b2.frozen
    have hB1 := below_row hB g1 hB.size (by omega)
    have hO1 : ∀ k, k < 4 → Owd (W1.heap.size + 2) (mstore Wx (w.heap.size + 1) R) (H k) (R k) := fun k hk => (hT k hk (by omega)).1.grown g1 (by omega)
    have hM1 := hQ.store R
    generalize hX1 : mstore Wx (w.heap.size + 1) R = X1 at *
    have HX1 := hid hX1
    have HO4 := hid (show All4 (fun k => Okay (H k)) from fun k hk => (hT k hk (by omega)).2)
    have hK2 := (KeepsOthers.setCell X1 ⟨w.heap.size + 2, 0, none⟩ (.int .i64 0)).same W1.heap.size _ hK1 rfl
    have HB2 := hid (hB1.setCell (p := ⟨w.heap.size + 2, 0, none⟩) (by show w.heap.size ≤ w.heap.size + 2; omega) (.int .i64 0))
    have HO2 := hid (show ∀ k, k < 4 → Owd (W1.heap.size + 2) (X1.setCell ⟨w.heap.size + 2, 0, none⟩ (.int .i64 0)) (H k) (R k) from fun k hk => ⟨(hO1 k hk).lim.far_ (by omega) _ _, (hO1 k hk).may, (hO1 k hk).val⟩)
    have HM2 := hid (show Mbox (X1.setCell ⟨w.heap.size + 2, 0, none⟩ (.int .i64 0)) (w.heap.size + 1) R from (Below.heap_setCell _ ⟨w.heap.size + 2, 0, none⟩ _ _ (by show w.heap.size + 1 ≠ w.heap.size + 2; omega)).trans hM1)
    have HE2 := hid (b2.set (.int .i64 0))
    have HK := hid hK2
    have He1 := hid e1
    have He2 := hid e2
    clear e1 e2 hl hR hQ hB hT hS hK g1 hK1 b2 hB1 hO1 hM1 hX1 hK2 hI0 hQ2
    rw [show w.heap.size + 2 = w.heap.size + 1 + 1 from rfl] at x0 x1
    go_wp2_with (first
      | (with_reducible refine wp_mload rfl (.tmp 1) rfl w.heap.size R rfl HP.out ?_)
      | (with_reducible refine wp_mstore rfl (.tmp 2) (.tmp 23) rfl (w.heap.size + 1) D0 R rfl rfl HQ.out ?_; rw [HX1.out])
      | fail)
    refine ⟨by simp, .inl ⟨_, _, rfl, run_takeDeferred HK.out, ?_⟩⟩
    have e1 := He1.out
    have e2 := He2.out
    have g2 := grownBy_putObj' (X1.setCell ⟨w.heap.size + 2, 0, none⟩ (.int .i64 0)) W1.heap.size (.deferred none)
    exact ⟨_, mass_cells rfl _ _ (w.heap.size + 1) (w.heap.size + 2) R 0 rfl rfl (HM2.out.grown g2 (by omega)) (Boxed.grown' HE2.out g2 (by omega)), R, 0, rfl, .inl ⟨HO4.out, rfl⟩, (fun k hk => ((HO2.out k hk).grown g2 (by omega)).mono (by omega)), below_row HB2.out g2 HB2.out.size (by omega)⟩
  case stop =>
    rintro D' pre Wx rfl ⟨k, hk, hpre⟩ ⟨hQ, hQ2, hB, hN⟩ hK
    have HN := hid hN
    clear hN hpre
    gi_wp2
    refine ⟨by simp, .inl ⟨_, _, rfl, run_takeDeferred hK, ?_⟩⟩
    have e1 := Hsz.out
    have e2 := Hs1.out
    have g2 := grownBy_putObj' Wx W1.heap.size (.deferred none)
    exact ⟨_, mass_cells rfl _ _ (w.heap.size + 1) (w.heap.size + 2) D0 10 rfl rfl (hQ.grown g2 (by omega)) (Boxed.grown' hQ2 g2 (by omega)), D0, 10, rfl, .inr ⟨fun h => HN.out.elim fun j hj => hj.2 (h j hj.1), rfl⟩, Mow.zero _ _, below_row hB g2 hB.size (by omega)⟩

end Go.Proofs.YtelalanhalbicaaDoor
