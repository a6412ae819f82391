/- The law's spoil, of a mass. -/
import Derived.Test.YtelalanhalbicaaDoorMy1
namespace Go.Proofs.YtelalanhalbicaaDoor
open Go.RowKit Go.Shelf

/-- A dyad whose limbs may be written over; they lie from block lo on, ahead of block hi. -/
def Sw (lo hi : Nat) (w : World) (d : Dy) : Prop := d.n = 0 ∨ ∃ g cs, d.A = some ⟨g, 0, none⟩ ∧ lo ≤ g ∧ g < hi ∧ w.heap[g]? = some (.cells cs 71 (0, 0)) ∧ d.n ≤ cs.size ∧ d.n ≤ d.c ∧ d.n ≤ 140737488355328
/-- Only blocks from lo on and ahead of hi are written over. -/
def Over (lo hi : Nat) (w w' : World) : Prop := Below lo w w' ∧ ∀ b, hi ≤ b → b < w.heap.size → w'.heap[b]? = w.heap[b]?
theorem Owd.sw {lo hi : Nat} {w : World} {M : Int} {d : Dy} (h : Owd lo w M d) (hh : 0 < d.n → ∀ g o, d.A = some ⟨g, o, none⟩ → g < hi) : Sw lo hi w d := by
  have hm := h.lim
  rcases hm.own with ⟨h0, h1, _⟩ | ⟨g, cs, hA, hg, hc, hs, _⟩
  · exact .inl h1
  · rcases Nat.eq_zero_or_pos d.n with hz | hz
    · exact .inl hz
    · exact .inr ⟨g, cs, hA, hg, hh hz g 0 hA, hc, Nat.le_trans hm.cap hs, hm.cap, hm.max⟩
theorem Owd.ahead {lo : Nat} {w : World} {M : Int} {d : Dy} (h : Owd lo w M d) : 0 < d.n → ∀ g o, d.A = some ⟨g, o, none⟩ → g < w.heap.size := by
  intro _ g o hA
  rcases h.lim.own with ⟨h0, _⟩ | ⟨g', cs, hA', _, hc, _⟩
  · rw [h0] at hA; cases hA
  · rw [hA'] at hA
    injection hA with hA
    injection hA with hA
    subst hA
    exact lt_of_heap hc
theorem Owd.over {lo hi B : Nat} {w w' : World} {M : Int} {d : Dy} (h : Owd B w M d) (ho : Over lo hi w w') (hB : hi ≤ B) : Owd B w' M d := by
  have hm := h.lim
  refine ⟨⟨hm.cap, hm.max, hm.lt, hm.out, ?_⟩, h.may, h.val⟩
  rcases hm.own with h0 | ⟨g, cs, hA, hg, hc, hs⟩
  · exact .inl h0
  · exact .inr ⟨g, cs, hA, hg, (ho.2 g (Nat.le_trans hB hg) (lt_of_heap hc)).trans hc, hs⟩
theorem Drd.over {lo hi : Nat} {w w' : World} {q : Prop} {M : Int} {d : Dy} (h : Drd w q M d) (ho : Over lo hi w w') (hB : 0 < d.n → ∀ g o, d.A = some ⟨g, o, none⟩ → g < lo ∨ hi ≤ g) : Drd w' q M d := by
  refine ⟨⟨h.rd.cap, h.rd.max, h.rd.lt, h.rd.out, fun hn => ?_⟩, h.may, h.val⟩
  obtain ⟨b, off, hA, hb, hc⟩ := h.rd.at_ hn
  have hk : w'.heap[b]? = w.heap[b]? := by
    rcases hB hn b off hA with h1 | h1
    · exact ho.1.block b h1
    · exact ho.2 b h1 hb
  exact ⟨b, off, hA, Nat.lt_of_lt_of_le hb ho.1.size, fun j hj => (World.cell?_of_block hk).trans (hc j hj)⟩
theorem Sw.over {lo hi lo' hi' : Nat} {w w' : World} {d : Dy} (h : Sw lo' hi' w d) (ho : Over lo hi w w') (hd : hi' ≤ lo ∨ hi ≤ lo') : Sw lo' hi' w' d := by
  rcases h with h | ⟨g, cs, hA, h1, h2, hc, hs⟩
  · exact .inl h
  · refine .inr ⟨g, cs, hA, h1, h2, ?_, hs⟩
    rcases hd with h3 | h3
    · exact (ho.1.block g (by omega)).trans hc
    · exact (ho.2 g (by omega) (lt_of_heap hc)).trans hc
theorem Sw.below {lo hi : Nat} {w w' : World} {d : Dy} (h : Sw lo hi w d) (hb : Below w.heap.size w w') : Sw lo hi w' d := by
  rcases h with h | ⟨g, cs, hA, h1, h2, hc, hs⟩
  · exact .inl h
  · exact .inr ⟨g, cs, hA, h1, h2, (hb.block g (lt_of_heap hc)).trans hc, hs⟩
theorem Owd.before {lo B : Nat} {w : World} {M : Int} {d : Dy} (_ : Owd lo w M d) (hr : Rd w B d.A d.n d.c d.f) : 0 < d.n → ∀ g o, d.A = some ⟨g, o, none⟩ → g < B := by
  intro hn g o hA
  obtain ⟨b, off, hA2, hb, -⟩ := hr.at_ hn
  rw [hA2] at hA
  injection hA with hA
  injection hA with hA
  omega
/-- What the loops keep. -/
def SpI (w : World) (lo hi : Nat) (D : Nat → Dy) (X : World) : Prop := X.heap[w.heap.size + 1]? = some (.cells #[.slice (D 0).A (D 0).n (D 0).c, .slice (D 1).A (D 1).n (D 1).c, .slice (D 2).A (D 2).n (D 2).c, .slice (D 3).A (D 3).n (D 3).c] 22 (0, 0)) ∧ (∀ k, k < 4 → Sw lo hi X (D k)) ∧ Over lo hi w X
theorem SpI.cell {w X : World} {lo hi k : Nat} {D : Nat → Dy} (h : SpI w lo hi D X) (hk : k < 4) : X.cell? ⟨w.heap.size + 1, k, none⟩ = some (.slice (D k).A (D k).n (D k).c) := by
  rw [cell_of_row X _ k _ _ (0, 0) h.1]
  have hc : k = 0 ∨ k = 1 ∨ k = 2 ∨ k = 3 := by omega
  rcases hc with rfl | rfl | rfl | rfl <;> rfl
theorem Over.setCell {lo hi g k : Nat} {w X : World} (h : Over lo hi w X) (hg : lo ≤ g) (hh : g < hi) (v : Value) : Over lo hi w (X.setCell ⟨g, k, none⟩ v) :=
  ⟨h.1.setCell (p := ⟨g, k, none⟩) hg v, fun b hb hl => (Below.heap_setCell X ⟨g, k, none⟩ v b (by show b ≠ g; omega)).trans (h.2 b hb hl)⟩
theorem Sw.setCell {lo hi g k : Nat} {X : World} {d : Dy} (h : Sw lo hi X d) (v : Value) (cs : Array Value) (hg : X.heap[g]? = some (.cells cs 71 (0, 0))) : Sw lo hi (X.setCell ⟨g, k, none⟩ v) d := by
  rcases h with h | ⟨b, cb, hA, h1, h2, hc, hs, hr⟩
  · exact .inl h
  · by_cases e : b = g
    · subst e
      rw [hg] at hc
      injection hc with hc
      injection hc with hc
      subst hc
      exact .inr ⟨b, _, hA, h1, h2, heap_setCell_same X b k cs _ v hg, by simpa using hs, hr⟩
    · exact .inr ⟨b, cb, hA, h1, h2, (Below.heap_setCell X ⟨g, k, none⟩ v b e).trans hc, hs, hr⟩
theorem SpI.setCell {w X : World} {lo hi g k : Nat} {D : Nat → Dy} (h : SpI w lo hi D X) (hg : lo ≤ g) (hh : g < hi) (hw : hi ≤ w.heap.size) (v : Value) (cs : Array Value) (hc : X.heap[g]? = some (.cells cs 71 (0, 0))) : SpI w lo hi D (X.setCell ⟨g, k, none⟩ v) :=
  ⟨(Below.heap_setCell X ⟨g, k, none⟩ v (w.heap.size + 1) (by show w.heap.size + 1 ≠ g; omega)).trans h.1, fun j hj => (h.2.1 j hj).setCell v cs hc, h.2.2.setCell hg hh v⟩
theorem Over.alloc {lo hi : Nat} {w X : World} (h : Over lo hi w X) (hl : lo ≤ X.heap.size) (hw : w.heap.size ≤ X.heap.size) (o : Obj) : Over lo hi w (X.alloc o) :=
  ⟨h.1.alloc hl o, fun b hb hlt => (Below.heap_alloc X o b (by omega)).trans (h.2 b hb hlt)⟩

set_option maxHeartbeats 1600000 in
theorem mspoil_any {w : World} {lo hi : Nat} {D : Nat → Dy} (h : ∀ k, k < 4 → Sw lo hi w (D k)) (hl : lo ≤ hi) (hw : hi ≤ w.heap.size) :
    Calls Tryd.prog 20 #[.agg (mcells D)] w fun e w' => e = .returned (.tuple #[]) ∧ Hid (Over lo hi w w') := by
  have PD : Hid (Mbox (w.alloc (.cells (mcells D) 26)) w.heap.size D) := hid (new_at rfl)
  have a1 := PD.out.at_ 1 _ rfl
  have a4 := PD.out.at_ 4 _ rfl
  have a7 := PD.out.at_ 7 _ rfl
  have a10 := PD.out.at_ 10 _ rfl
  obtain ⟨W, hW⟩ : ∃ W, W = (w.alloc (.cells (mcells D) 26)).alloc (.cells #[.slice (D 0).A (D 0).n (D 0).c, .slice (D 1).A (D 1).n (D 1).c, .slice (D 2).A (D 2).n (D 2).c, .slice (D 3).A (D 3).n (D 3).c] 22) := ⟨_, rfl⟩
  have HW := hid hW
  have O1 := (show Over lo hi w w from ⟨Below.refl _ _, fun _ _ _ => rfl⟩)
  have O2 : Over lo hi w W := hW ▸ (O1.alloc (by omega) (Nat.le_refl _) _).alloc (by simp; omega) (by simp) _
  have HI : Hid (SpI w lo hi D W) := hid ⟨hW ▸ (show ((w.alloc _).alloc _).heap[w.heap.size + 1]? = _ from new_at (by simp)), fun k hk => ((h k hk).below (hW ▸ ((Below.refl _ w).alloc (Nat.le_refl _) _).alloc (by simp) _)), O2⟩
  clear hW h O1 O2
  go_enter Tryd.func20, Tryd.ntmps20
  go_upto_region 2 with fail
  rw [← HW.out]
  clear a1 a4 a7 a10 HW PD
  go_wp2_with fail
  go_loopw [3, 4] (fun i _ wr => ∃ k : Nat, k ≤ 4 ∧ i = .int .i64 k ∧ Hid (SpI w lo hi D wr)) (fun i _ _ => 4 - (intOf i).toNat)
  case atStart => exact ⟨0, by omega, rfl, HI⟩
  case round =>
    obtain ⟨k, hk, rfl, HJ⟩ := hrel
    clear HI
    by_cases hk4 : k < 4
    · have hc := HJ.out.cell hk4
      go_upto_region 5 with fail
      clear hc
      go_wp2_with fail
      go_loopw [4] (fun j wx => ∃ m : Nat, m ≤ (D k).n ∧ j = .int .i64 m ∧ Hid (SpI w lo hi D wx)) (fun j _ => (D k).n - (intOf j).toNat)
      case atStart => exact ⟨0, Nat.zero_le _, rfl, HJ⟩
      case round =>
        obtain ⟨m, hm, rfl, HX⟩ := hrel
        have hc := HX.out.cell hk4
        by_cases hmn : m < (D k).n
        · have hs := HX.out.2.1 k hk4
          rcases hs with h0 | ⟨g, cs, hA, h1, h2, hh, h3, h4, h5⟩
          · omega
          · rw [hA] at hc
            have hcell : ∃ u, wr.cell? ⟨g, m, none⟩ = some u := by
              refine ⟨cs[m], ?_⟩
              rw [cell_of_row wr g m cs 71 (0, 0) hh, Array.getElem?_eq_getElem (by omega)]
            have hfr : wr.frozen? ⟨g, m, none⟩ = false := frozen_of_row wr g m cs 71 hh
            have HX2 := hid (HX.out.setCell (k := m) h1 h2 hw (.int .u32 7) cs hh)
            obtain ⟨u, hcell⟩ := hcell
            generalize (D k).n = n at *
            generalize (D k).c = c at *
            clear hA hh HX
            go_wp2
            go_roundw
            case rel => exact ⟨m + 1, by omega, by go_num, HX2⟩
            case measure => simp [intOf]; omega
        · obtain rfl : m = (D k).n := by omega
          go_wp2
          go_roundw
          case rel => exact ⟨k + 1, by omega, by go_num, HX⟩
          case measure => simp [intOf]; omega
    · obtain rfl : k = 4 := by omega
      go_wp2
      go_end0
      exact ⟨rfl, hid HJ.out.2.2⟩

end Go.Proofs.YtelalanhalbicaaDoor
