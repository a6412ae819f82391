/- Package mass: Twin. -/
import Derived.Test.YtelalanhalbicaaDoorMown
import Derived.Test.YtelalanhalbicaaDoorMclone
namespace Go.Proofs.YtelalanhalbicaaDoor
open Go.RowKit Go.Shelf
attribute [local go_sem] Oper.semAt_some

theorem fst4_pre {s : List (Idx 4)} (h : s.map (·.1) = fst 4) : s.length = 4 := by
  have e := congrArg List.length h
  rwa [List.length_map, fst_length] at e
/-- What the loop keeps: the parts that were gone through are twins. -/
def TwI (w : World) (M : Nat → Dy) (Z : Nat) (pre : List (Idx 4)) (X : World) : Prop :=
  Mbox X (w.heap.size + 1) D0 ∧ Below w.heap.size w X ∧ ∃ R, Mbox X w.heap.size R ∧ (∀ k, k < 4 → k < pre.length → Twd Z X (M k) (R k)) ∧ ∀ k, k < 4 → ¬ k < pre.length → R k = M k

theorem mcells_at {w : World} {g : Nat} {M : Nat → Dy} (h : Mbox w g M) {k : Nat} (hk : k < 4) {m : Dy} (hm : M k = m) : w.cell? ⟨g, 3 * k, none⟩ = some (.bool m.s) ∧ w.cell? ⟨g, 3 * k + 1, none⟩ = some (.slice m.A m.n m.c) ∧ w.cell? ⟨g, 3 * k + 2, none⟩ = some (.int .i64 m.x) := by
  subst hm
  exact h.cell hk

set_option maxRecDepth 100000 in
set_option maxHeartbeats 4000000 in
theorem mtwin_any {w : World} {M : Nat → Dy} (h : Mrd w w.heap.size M) (hnil : ∀ k, k < 4 → (M k).A = none → (M k).n = 0 ∧ (M k).c = 0) (hn : ∀ k, k < 4 → (M k).n ≤ 42) :
    Calls Tryd.prog 15 #[.agg (mcells M)] w fun e w' => ∃ R, e = .returned (.agg (mcells R)) ∧ Hid (∀ k, k < 4 → Twd w.heap.size w' (M k) (R k)) ∧ Hid (Below w.heap.size w w') := by
  obtain ⟨W, hW⟩ : ∃ W, W = (w.alloc (.cells (mcells M) 26)).alloc (.cells #[.bool false, .slice none 0 0, .int .i64 0, .bool false, .slice none 0 0, .int .i64 0, .bool false, .slice none 0 0, .int .i64 0, .bool false, .slice none 0 0, .int .i64 0] 26) := ⟨_, rfl⟩
  have B0 := hid (show Below w.heap.size w W from hW ▸ ((Below.refl _ w).alloc (Nat.le_refl _) _).alloc (by simp) _)
  have P0 : Hid (Mbox W w.heap.size M) := hid (hW ▸ Mbox.alloc (show Mbox (w.alloc _) w.heap.size M from heap_alloc_new w _) _)
  have P1 : Hid (Mbox W (w.heap.size + 1) D0) := hid (hW ▸ (show Mbox _ (w.heap.size + 1) D0 from heap_alloc2_new w _ _))
  have HR := hid h
  have HW := hid hW
  have HN := hid hnil
  have Hn := hid hn
  clear hW h hnil hn
  refine (callsIn_wide (n := 9)).1 ?_
  refine callsIn_of_wp_marks Tryd.func15 rfl trivial (wpIn_wide.2 ?_) rfl
  simp only [Tryd.ntmps15, List.size_toArray, List.length_cons, List.length_nil, Nat.reduceAdd, Nat.reduceSub, Array.replicate_succ, Array.replicate_zero, List.push_toArray, List.append_toArray, List.nil_append, List.cons_append]
  go_upto_region 1 with fail
  rw [← HW.out]
  go_wp2_with fail
  refine (callsIn_wide.1 (parts_any 9 w.heap.size W)).mono ?_
  rintro e W1 ⟨rfl, hW1⟩
  have bS : Boxed W1 W.heap.size 63 (.pointer (some ⟨w.heap.size, 0, none⟩)) := by rw [hW1]; exact heap_alloc_new W _
  have B1 : Below W.heap.size W W1 := by rw [hW1]; exact (Below.refl _ W).alloc (Nat.le_refl _) _
  have hsz : w.heap.size + 2 = W.heap.size := by rw [HW.out]; simp
  have Q0 := hid (P0.out.below B1 P0.out.lt)
  have Q1 := hid (P1.out.below B1 P1.out.lt)
  have hs1 : W.heap.size + 1 = W1.heap.size := by rw [hW1]; simp
  have Hsz := hid hsz
  have Hs1 := hid hs1
  have HB1 := hid (B0.out.trans (B1.mono (by omega)))
  have HbS := hid bS
  have hI0 : TwI w M (W1.heap.size + 2) [] W1 := ⟨Q1.out, HB1.out, M, Q0.out, fun k _ hk => absurd hk (Nat.not_lt_zero _), fun _ _ _ => rfl⟩
  clear hW1 B1 bS hsz hs1
  go_wp2_with fail
  refine wpIn_wide.1 (range_overG (F := Fence.wide) (n := 9) (gf := 54) rfl (by omega) rfl trivial (enters_of Tryd.func54 (by kernel_rfl) rfl) (K := fun b => b = W.heap.size) (g := W.heap.size) rfl (fun b hb => by have := Hs1.out; have hb2 : b = W.heap.size := hb; omega)
    (parts_comesG 8 (by omega) HbS.out.cell HbS.out.lt) (fun _ => rfl) (TwI w M (W1.heap.size + 2)) (fun _ _ => False)
    ?keep (fun s X Y r h hg hr => h)
    (fun s X Y r h _ _ => h) hI0 ?a1 ?assign ?body ?done ?stop)
  case keep =>
    rintro s X Y r ⟨h1, h2, R, h3, h4, h5⟩ hg hr
    have a1 := Hsz.out
    have a2 := Hs1.out
    have a3 := h3.lt
    exact ⟨h1.grown hg (by omega), below_row h2 hg h2.size (by omega), R, h3.grown hg (by omega), fun k hk hk2 => (h4 k hk hk2).grown hg (by omega), h5⟩
  case assign =>
    intro l x W K hK
    gi_wp2
    exact hK
  case body =>
    intro l pre x Wx hpre hZ hI
    obtain ⟨k, hk⟩ := x
    obtain ⟨hkl, -⟩ := hpre.front
    dsimp only at hkl
    obtain ⟨hQ, hB, R, hR, hT, hS⟩ := hI
    have hRk := hS k hk (by omega)
    have HQ := hid hQ
    have HB := hid hB
    have HRb := hid hR
    have HT := hid hT
    have HS := hid hS
    have HZ := hid hZ
    have Hk := hid hk
    have Hkl := hid hkl
    have hr := (((HR.out k hk).below hB).mono hB.size)
    have hn := HN.out k hk
    have hm := Hn.out k hk
    obtain ⟨m, hmm⟩ : ∃ m, m = M k := ⟨_, rfl⟩
    rw [← hmm] at hr hn hm
    obtain ⟨y0, y1, y2⟩ := mcells_at hR hk (hRk.trans hmm.symm)
    have Hm := hid hmm
    clear hmm hB hR hT hS hQ hI0 hZ hkl hRk hpre
    obtain ⟨s, A, n, c, xx, f⟩ := m
    dsimp only at y0 y1 y2 hr hn hm
    have CC := hid (dtwin_any hr hn hm s xx)
    have Hs := hid (hr.max)
    clear hr hn hm
    unfold pptr
    gi_wp2_with fail
    refine ⟨trivial, ?_⟩
    refine (CallsIn.inRound l (callsIn_wide.2 CC.out)).mono ?_
    rintro e Wy ⟨A1, c1, rfl, hmk, hbel⟩
    have Ry := hid (HRb.out.below hbel.out HRb.out.lt)
    obtain ⟨z0, z1, z2⟩ := Ry.out.cell Hk.out
    have g0 := Ry.out.frozen (3 * k)
    have g1 := Ry.out.frozen (3 * k + 1)
    have g2 := Ry.out.frozen (3 * k + 2)
    clear y0 y1 y2
    gi_wp2
    show KeepsFrom _ _ (mput Wy w.heap.size k ⟨s, A1, n, c1, xx, f⟩) ∧ Kb _ _ (mput Wy w.heap.size k ⟨s, A1, n, c1, xx, f⟩) ∧ TwI w M _ _ (mput Wy w.heap.size k ⟨s, A1, n, c1, xx, f⟩)
    refine ⟨keeps_mput (keeps_below hbel.out), (kb_below hbel.out ?kb).mput ?n1, ?inv⟩
    case kb => intro b hb; have hb2 : b = W.heap.size := hb; have := Hs1.out; have := HZ.out; omega
    case n1 => intro hb; have hb2 : w.heap.size = W.heap.size := hb; have := Hsz.out; omega
    case inv =>
      have e1 := Hsz.out
      have e2 := Hs1.out
      have e3 := HZ.out
      have e4 := Hkl.out
      refine ⟨(HQ.out.below hbel.out HQ.out.lt).mput_far (k := k) (d := ⟨s, A1, n, c1, xx, f⟩) (by omega), below_mput (k := k) (d := ⟨s, A1, n, c1, xx, f⟩) (HB.out.trans (hbel.out.mono HB.out.size)) (Nat.le_refl _), updD R k ⟨s, A1, n, c1, xx, f⟩, Ry.out.put Hk.out ⟨s, A1, n, c1, xx, f⟩, fun j hj hj2 => ?_, fun j hj hj2 => ?_⟩
      · rw [List.length_append, List.length_singleton] at hj2
        by_cases hjk : j = k
        · subst hjk
          rw [updD_same, ← Hm.out]
          exact ⟨(hmk.out.mono (by omega)).mput (by omega), rfl, rfl, rfl, rfl⟩
        · rw [updD_ne _ _ hjk]
          exact ((HT.out j hj (by omega)).below hbel.out).mput (by omega)
      · rw [List.length_append, List.length_singleton] at hj2
        rw [updD_ne _ _ (by omega)]
        exact HS.out j hj (by omega)
  case done =>
    rintro D ys Wx hD hys ⟨hQ, hB, R, hR, hT, hS⟩ hK
    have e1 := Hsz.out
    have e2 := Hs1.out
    have hl := fst4_pre hys
    have HP := hid hR
    have HQ := hid hQ
    have g1 := grown_mstore Wx (w.heap.size + 1) R
    have hK' := (g1.block D (lt_of_heap hK) (by intro e; injection e with e; omega)).trans hK
    have g2 := grownBy_putObj' (mstore Wx (w.heap.size + 1) R) D (.deferred none)
    have HF := hid (show Mbox ((mstore Wx (w.heap.size + 1) R).putObj D (.deferred none)) (w.heap.size + 1) R from (hQ.store R).grown g2 (by omega))
    have HB2 := hid (below_row (below_row hB g1 hB.size (by omega)) g2 (Nat.le_trans hB.size g1.size) (by omega))
    have HT2 := hid (show ∀ k, k < 4 → Twd w.heap.size ((mstore Wx (w.heap.size + 1) R).putObj D (.deferred none)) (M k) (R k) from fun k hk => (((hT k hk (by omega)).grown g1 (by omega)).grown g2 (by omega)).mono (by omega))
    have HK := hid hK'
    clear e1 e2 hl hR hQ hB hT hS hK g1 g2 hK' hI0
    go_wp2_with (first
      | (with_reducible refine wp_mload rfl (.tmp 1) rfl w.heap.size R rfl HP.out ?_)
      | (with_reducible refine wp_mstore rfl (.tmp 2) (.tmp 12) rfl (w.heap.size + 1) D0 R rfl rfl HQ.out ?_)
      | fail)
    refine ⟨by simp, .inl ⟨_, _, rfl, run_takeDeferred HK.out, ?_⟩⟩
    exact ⟨_, mass_cell rfl _ _ (w.heap.size + 1) R rfl HF.out, R, rfl, HT2, HB2⟩
  case stop =>
    rintro D pre Wx hD _ h hK
    exact h.elim

end Go.Proofs.YtelalanhalbicaaDoor
