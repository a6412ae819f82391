/- The queue's Push and Pop; a heap's. -/
import Derived.Test.YtgcmljnjfghagaaTs
namespace Go.Proofs.Ytgcmljnjfghagaa.Tm
open Go.RowKit Go.Shelf Go.Lib
set_option maxRecDepth 100000

/-- A timer as any. -/
def av (d : De) : Value := .iface 23 (.agg #[.int .i64 d.1, .int .i64 d.2])
theorem assert_any (d1 d2 : Int) (w : World) : (Instr.typeAssert (.iface 23 (.agg #[.int .i64 d1, .int .i64 d2])) 20 23 false).run Try.prog w = .ok (.agg #[.int .i64 d1, .int .i64 d2]) w := by
  kernel_rfl
theorem Qu.drew {w : World} {B g : Nat} {v : Value} {l : List De} (h : Qu w B g v l) : Qu w.drew B g v l := h.below (Below.refl _ w).drew
/-- Behind the row's change and the store of the new one. -/
theorem Qu.store {w w1 : World} {B g : Nat} {v v' : Value} {l l' : List De} (h : Qu w B g v l) (t : Turned w w1 B v v' l') : w1.heap[g]? = some (.cells #[v] 70 (0, 0)) ∧ Qu (w1.setCell ⟨g, 0, none⟩ v') B g v' l' ∧ Below B w (w1.setCell ⟨g, 0, none⟩ v') := by
  have hgw := lt_of_heap h.box
  have h1 : w1.heap[g]? = some (.cells #[v] 70 (0, 0)) := (t.grown.block g hgw (fun e => h.ne e.symm)).trans h.box
  have hv' : v'.ownBlock ≠ some g := by
    rcases t.at_ with e | e
    · rw [e]; exact h.ne
    · rw [e]; intro e2; injection e2 with e2; omega
  have hfar : ∀ k, k ≠ g → (w1.setCell ⟨g, 0, none⟩ v').heap[k]? = w1.heap[k]? := fun k hk => Below.heap_setCell w1 ⟨g, 0, none⟩ v' k hk
  refine ⟨h1, ⟨heap_setCell_same w1 g 0 #[v] _ v' h1, ⟨?_, t.own.max⟩, h.le, hv'⟩, ⟨t.grown.os, t.grown.tape, t.grown.output, ?_, fun k hk => ?_⟩⟩
  · refine t.own.own.kept (row := some g) ⟨rfl, rfl, rfl, by simp [World.setCell], fun k _ hk => hfar k (fun e => hk (by rw [e]))⟩ (.inr hv')
  · exact Nat.le_trans t.grown.size (by simp [World.setCell])
  · have hle := h.le
    rw [hfar k (by omega)]
    exact t.grown.block k (by omega) (fun e => by have := (own_lt h.od k e.symm).1; omega)

/-- The queue holds l', and nothing ahead of block B was turned. -/
def Holds (w : World) (B g : Nat) (l' : List De) (w' : World) : Prop := ∃ v', Qu w' B g v' l' ∧ Below B w w'

set_option maxHeartbeats 6400000 in
theorem push_any {w : World} {B g : Nat} {v : Value} {l : List De} {d1 d2 : Int} (h : Qu w B g v l) (hn : l.length < 100000) :
    Calls Try.prog 47 #[.pointer (some ⟨g, 0, none⟩), .iface 23 (.agg #[.int .i64 d1, .int .i64 d2])] w fun e w' => e = .returned (.tuple #[]) ∧ Hid (Holds w B g (l ++ [(d1, d2)]) w') := by
  obtain ⟨A, n, c, rfl, _, _⟩ := od_letter h.od
  have HQ := hid h.drew
  have HB : Hid (Below w.heap.size w w.drew) := hid (Below.refl _ w).drew
  have hta := assert_any d1 d2
  have HN := hid hn
  have hBw : Hid (B ≤ w.heap.size) := hid h.size
  clear h hn
  go_enter Try.func47, Try.ntmps47
  go_upto_region 0 with fail
  have mixed : Try.prog.follows .mixedOrders = true := by kernel_rfl
  refine wp_region_held_drew (S := fun _ => True) (by kernel_rfl) trivial (fun hHeld => ?_)
  generalize w.drew = V at *
  have c0 := HQ.out.c0
  have hVs : Hid (B ≤ V.heap.size) := hid HQ.out.size
  have BA : Hid (Below V.heap.size V (V.alloc (.cells #[.int .i64 d1, .int .i64 d2] 23))) := hid (box1 V d1 d2)
  have HA : Hid (Qu (V.alloc (.cells #[.int .i64 d1, .int .i64 d2] 23)) B g (.slice A n c) l) := hid (HQ.out.below BA.out)
  have cA := HA.out.c0
  have HO : Hid (Od (V.alloc (.cells #[.int .i64 d1, .int .i64 d2] 23)) B (.slice A n c) l) := hid HA.out.od
  have HD : Hid (Ds (V.alloc (.cells #[.int .i64 d1, .int .i64 d2] 23)) (V.alloc (.cells #[.int .i64 d1, .int .i64 d2] 23)).heap.size (some ⟨V.heap.size, 0, none⟩) 1 1 [(d1, d2)]) := hid (ds_at (heap_alloc_new V _))
  have BV : Hid (Below B w (V.alloc (.cells #[.int .i64 d1, .int .i64 d2] 23))) := hid ((HB.out.mono hBw.out).trans (BA.out.mono hVs.out))
  refine wpAnyH_take (i := 0) (v := ?va1) rfl (by kernel_rfl) (by kernel_rfl) (by kernel_rfl) (fun _ _ _ h => h) (Or.inl ⟨by rfl, ?ya1⟩) (by assumption) ?ra1
  case ya1 => (intro w0 hSw; (try dsimp only at hSw); (try simp only [List.getElem_toArray, List.getElem_cons_zero]); (try simp only [hta]); go_simp; try with_reducible rfl)
  (try simp only [Act.put, List.setIfInBounds_toArray, List.set_cons_zero, List.set_cons_succ, List.getElem_toArray, List.getElem_cons_zero])
  refine wpAnyH_take (i := 1) (v := ?va2) rfl (by kernel_rfl) (by kernel_rfl) (by kernel_rfl) (fun _ _ _ h => h) (Or.inl ⟨by rfl, ?ya2⟩) (by assumption) ?ra2
  case ya2 => (intro w0 hSw; (try dsimp only at hSw); (try simp only [List.getElem_toArray, List.getElem_cons_succ, List.getElem_cons_zero]); (try simp only [hta]); go_simp; try with_reducible rfl)
  (try simp only [Act.put, List.setIfInBounds_toArray, List.set_cons_zero, List.set_cons_succ, List.getElem_toArray, List.getElem_cons_succ, List.getElem_cons_zero])
  refine wpAnyH_take (i := 2) (v := ?va3) rfl (by kernel_rfl) (by kernel_rfl) (by kernel_rfl) (fun _ _ _ h => h) (Or.inl ⟨by rfl, ?ya3⟩) (by assumption) ?ra3
  case ya3 => (intro w0 hSw; (try dsimp only at hSw); (try simp only [List.getElem_toArray, List.getElem_cons_succ, List.getElem_cons_zero]); (try simp only [hta]); go_simp; try with_reducible rfl)
  (try simp only [Act.put, List.setIfInBounds_toArray, List.set_cons_zero, List.set_cons_succ, List.getElem_toArray, List.getElem_cons_succ, List.getElem_cons_zero])
  refine wpAnyH_take (i := 3) (v := ?va4) rfl (by kernel_rfl) (by kernel_rfl) (by kernel_rfl) (fun _ _ _ h => h) (Or.inl ⟨by rfl, ?ya4⟩) (by assumption) ?ra4
  case ya4 => (intro w0 hSw; (try dsimp only at hSw); (try simp only [List.getElem_toArray, List.getElem_cons_succ, List.getElem_cons_zero]); (try simp only [hta]); go_simp; try with_reducible rfl)
  (try simp only [Act.put, List.setIfInBounds_toArray, List.set_cons_zero, List.set_cons_succ, List.getElem_toArray, List.getElem_cons_succ, List.getElem_cons_zero])
  refine wpAnyH_take (i := 5) (v := ?va5) rfl (by kernel_rfl) (by kernel_rfl) (by kernel_rfl) (fun _ _ _ h => h) (Or.inl ⟨by rfl, ?ya5⟩) (by assumption) ?ra5
  case ya5 => (intro w0 hSw; (try dsimp only at hSw); (try simp only [List.getElem_toArray, List.getElem_cons_succ, List.getElem_cons_zero]); (try simp only [hta]); go_simp; try with_reducible rfl)
  (try simp only [Act.put, List.setIfInBounds_toArray, List.set_cons_zero, List.set_cons_succ, List.getElem_toArray, List.getElem_cons_succ, List.getElem_cons_zero])
  refine wpAnyH_take (i := 6) (v := ?va6) rfl (by kernel_rfl) (by kernel_rfl) (by kernel_rfl) (fun _ _ _ h => h) (Or.inl ⟨by rfl, ?ya6⟩) (by assumption) ?ra6
  case ya6 => (intro w0 hSw; (try dsimp only at hSw); (try simp only [List.getElem_toArray, List.getElem_cons_succ, List.getElem_cons_zero]); (try simp only [hta]); go_simp; try with_reducible rfl)
  (try simp only [Act.put, List.setIfInBounds_toArray, List.set_cons_zero, List.set_cons_succ, List.getElem_toArray, List.getElem_cons_succ, List.getElem_cons_zero])
  refine wpAnyH_ready (rs := [4, 7]) (by kernel_rfl) (by simp) ?_
  refine AllReadyH.cons rfl (fun K' hK => ?_) (AllReadyH.cons rfl (fun K' hK => ?_) AllReadyH.nil)
  · (try simp only [Act.put, List.setIfInBounds_toArray, List.set_cons_zero, List.set_cons_succ, List.getElem_toArray, List.getElem_cons_succ, List.getElem_cons_zero])
    go_simp
    
    try dsimp only
    refine hK.out _ _ (trivial) (fun hHeld => ?_)
    clear hK K'
    (try simp only [Act.put, List.setIfInBounds_toArray, List.set_cons_zero, List.set_cons_succ, List.getElem_toArray, List.getElem_cons_succ, List.getElem_cons_zero])
    refine wpAnyH_ready (rs := [7]) (by kernel_rfl) (by simp) ?_
    refine AllReadyH.cons rfl (fun K' hK => ?_) AllReadyH.nil
    (try simp only [Act.put, List.setIfInBounds_toArray, List.set_cons_zero, List.set_cons_succ, List.getElem_toArray, List.getElem_cons_succ, List.getElem_cons_zero])
    go_simp
    
    try dsimp only
    refine hK.out _ _ (trivial) (fun hHeld => ?_)
    clear hK K'
    (try simp only [Act.put, List.setIfInBounds_toArray, List.set_cons_zero, List.set_cons_succ, List.getElem_toArray, List.getElem_cons_succ, List.getElem_cons_zero])
    refine wpAnyH_ready (rs := [8]) (by kernel_rfl) (by simp) ?_
    refine AllReadyH.cons rfl (fun K' hK => ?_) AllReadyH.nil
    (try simp only [Act.put, List.getElem_toArray, List.getElem_cons_succ, List.getElem_cons_zero])
    rw [if_pos (by rfl)]
    refine wp_appR (.tmp 8) (.tmp 11) (by rfl) (v := .slice A n c) (r := [(d1, d2)]) (by rfl) (by rfl) HO.out HD.out (by have := HN.out; have := HQ.out.od.row_len; omega) (by simp; exact Nat.le_succ_of_le hVs.out) ?_
    intro v' w2 HT
    obtain ⟨A', n', c', rfl, _, _⟩ := od_letter HT.out.own
    have HS := hid (Qu.store HA.out HT.out)
    have hbx := HS.out.1
    have hg2 := lt_of_heap hbx
    try dsimp only
    refine hK.out _ _ (trivial) (fun hHeld => ?_)
    clear hK K'
    (try simp only [Act.put])
    refine wpAnyH_take (i := 9) (v := ?vb1) rfl (by kernel_rfl) (by kernel_rfl) (by kernel_rfl) (fun _ _ _ h => h) (Or.inl ⟨by rfl, ?yb1⟩) (by assumption) ?rb1
    case yb1 => (intro w0 hSw; (try dsimp only at hSw); (try simp only [List.getElem_toArray, List.getElem_cons_succ, List.getElem_cons_zero]); go_simp; try with_reducible rfl)
    (try simp only [Act.put, List.setIfInBounds_toArray, List.set_cons_zero, List.set_cons_succ, List.getElem_toArray, List.getElem_cons_succ, List.getElem_cons_zero])
    refine wpAnyH_take (i := 10) (v := ?vb2) rfl (by kernel_rfl) (by kernel_rfl) (by kernel_rfl) (fun _ _ _ h => h) (Or.inl ⟨by rfl, ?yb2⟩) (by assumption) ?rb2
    case yb2 => (intro w0 hSw; (try dsimp only at hSw); (try simp only [List.getElem_toArray, List.getElem_cons_succ, List.getElem_cons_zero]); go_simp; try with_reducible rfl)
    (try simp only [Act.put, List.setIfInBounds_toArray, List.set_cons_zero, List.set_cons_succ, List.getElem_toArray, List.getElem_cons_succ, List.getElem_cons_zero])
    refine wpAnyH_ready (rs := [11]) (by kernel_rfl) (by simp) ?_
    refine AllReadyH.cons rfl (fun K' hK => ?_) AllReadyH.nil
    (try simp only [Act.put, List.getElem_toArray, List.getElem_cons_succ, List.getElem_cons_zero])
    go_simp
    have hc2 : w2.cell? ⟨g, 0, none⟩ = some (.slice A n c) := (cell_of_row w2 g 0 _ _ (0, 0) hbx).trans rfl
    have hf2 : w2.frozen? ⟨g, 0, none⟩ = false := frozen_of_row w2 g 0 _ _ hbx
    go_simp
    try dsimp only
    refine hK.out _ _ (trivial) (fun hHeld => ?_)
    clear hK K'
    (try simp only [Act.put, List.setIfInBounds_toArray, List.set_cons_zero, List.set_cons_succ, List.getElem_toArray, List.getElem_cons_succ, List.getElem_cons_zero])
    refine wpAnyH_done (by kernel_rfl) ?_ _
    go_wp2
    go_end0
    exact ⟨rfl, hid ⟨_, HS.out.2.1, BV.out.trans HS.out.2.2⟩⟩
  · (try simp only [Act.put, List.setIfInBounds_toArray, List.set_cons_zero, List.set_cons_succ, List.getElem_toArray, List.getElem_cons_succ, List.getElem_cons_zero])
    go_simp
    
    try dsimp only
    refine hK.out _ _ (trivial) (fun hHeld => ?_)
    clear hK K'
    (try simp only [Act.put, List.setIfInBounds_toArray, List.set_cons_zero, List.set_cons_succ, List.getElem_toArray, List.getElem_cons_succ, List.getElem_cons_zero])
    refine wpAnyH_ready (rs := [4]) (by kernel_rfl) (by simp) ?_
    refine AllReadyH.cons rfl (fun K' hK => ?_) AllReadyH.nil
    (try simp only [Act.put, List.setIfInBounds_toArray, List.set_cons_zero, List.set_cons_succ, List.getElem_toArray, List.getElem_cons_succ, List.getElem_cons_zero])
    go_simp
    
    try dsimp only
    refine hK.out _ _ (trivial) (fun hHeld => ?_)
    clear hK K'
    (try simp only [Act.put, List.setIfInBounds_toArray, List.set_cons_zero, List.set_cons_succ, List.getElem_toArray, List.getElem_cons_succ, List.getElem_cons_zero])
    refine wpAnyH_ready (rs := [8]) (by kernel_rfl) (by simp) ?_
    refine AllReadyH.cons rfl (fun K' hK => ?_) AllReadyH.nil
    (try simp only [Act.put, List.getElem_toArray, List.getElem_cons_succ, List.getElem_cons_zero])
    rw [if_pos (by rfl)]
    refine wp_appR (.tmp 8) (.tmp 11) (by rfl) (v := .slice A n c) (r := [(d1, d2)]) (by rfl) (by rfl) HO.out HD.out (by have := HN.out; have := HQ.out.od.row_len; omega) (by simp; exact Nat.le_succ_of_le hVs.out) ?_
    intro v' w2 HT
    obtain ⟨A', n', c', rfl, _, _⟩ := od_letter HT.out.own
    have HS := hid (Qu.store HA.out HT.out)
    have hbx := HS.out.1
    have hg2 := lt_of_heap hbx
    try dsimp only
    refine hK.out _ _ (trivial) (fun hHeld => ?_)
    clear hK K'
    (try simp only [Act.put])
    refine wpAnyH_take (i := 9) (v := ?vc1) rfl (by kernel_rfl) (by kernel_rfl) (by kernel_rfl) (fun _ _ _ h => h) (Or.inl ⟨by rfl, ?yc1⟩) (by assumption) ?rc1
    case yc1 => (intro w0 hSw; (try dsimp only at hSw); (try simp only [List.getElem_toArray, List.getElem_cons_succ, List.getElem_cons_zero]); go_simp; try with_reducible rfl)
    (try simp only [Act.put, List.setIfInBounds_toArray, List.set_cons_zero, List.set_cons_succ, List.getElem_toArray, List.getElem_cons_succ, List.getElem_cons_zero])
    refine wpAnyH_take (i := 10) (v := ?vc2) rfl (by kernel_rfl) (by kernel_rfl) (by kernel_rfl) (fun _ _ _ h => h) (Or.inl ⟨by rfl, ?yc2⟩) (by assumption) ?rc2
    case yc2 => (intro w0 hSw; (try dsimp only at hSw); (try simp only [List.getElem_toArray, List.getElem_cons_succ, List.getElem_cons_zero]); go_simp; try with_reducible rfl)
    (try simp only [Act.put, List.setIfInBounds_toArray, List.set_cons_zero, List.set_cons_succ, List.getElem_toArray, List.getElem_cons_succ, List.getElem_cons_zero])
    refine wpAnyH_ready (rs := [11]) (by kernel_rfl) (by simp) ?_
    refine AllReadyH.cons rfl (fun K' hK => ?_) AllReadyH.nil
    (try simp only [Act.put, List.getElem_toArray, List.getElem_cons_succ, List.getElem_cons_zero])
    go_simp
    have hc2 : w2.cell? ⟨g, 0, none⟩ = some (.slice A n c) := (cell_of_row w2 g 0 _ _ (0, 0) hbx).trans rfl
    have hf2 : w2.frozen? ⟨g, 0, none⟩ = false := frozen_of_row w2 g 0 _ _ hbx
    go_simp
    try dsimp only
    refine hK.out _ _ (trivial) (fun hHeld => ?_)
    clear hK K'
    (try simp only [Act.put, List.setIfInBounds_toArray, List.set_cons_zero, List.set_cons_succ, List.getElem_toArray, List.getElem_cons_succ, List.getElem_cons_zero])
    refine wpAnyH_done (by kernel_rfl) ?_ _
    go_wp2
    go_end0
    exact ⟨rfl, hid ⟨_, HS.out.2.1, BV.out.trans HS.out.2.2⟩⟩
end Go.Proofs.Ytgcmljnjfghagaa.Tm
