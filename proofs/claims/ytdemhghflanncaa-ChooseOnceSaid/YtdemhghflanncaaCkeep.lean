/- growing.keep: the List is chosen anew. -/
import Derived.Test.YtdemhghflanncaaCdel
namespace Go.Proofs.Ytdemhghflanncaa
open Go.RowKit Go.Shelf Go.Lib

/-- Block g is a cache's under way. -/
def Gbox (w : World) (g : Nat) (o p : Int) (v : Value) : Prop := w.heap[g]? = some (.cells #[.int .i64 o, .int .i64 p, v] 68 (0, 0))
section
variable {w w' : World} {g : Nat} {o p : Int} {v : Value}
theorem Gbox.lt (h : Gbox w g o p v) : g < w.heap.size := lt_of_heap h
theorem Gbox.c0 (h : Gbox w g o p v) : w.cell? ⟨g, 0, none⟩ = some (.int .i64 o) := by rw [cell_of_row w g 0 _ _ (0, 0) h]; rfl
theorem Gbox.c1 (h : Gbox w g o p v) : w.cell? ⟨g, 1, none⟩ = some (.int .i64 p) := by rw [cell_of_row w g 1 _ _ (0, 0) h]; rfl
theorem Gbox.c2 (h : Gbox w g o p v) : w.cell? ⟨g, 2, none⟩ = some v := by rw [cell_of_row w g 2 _ _ (0, 0) h]; rfl
theorem Gbox.below {B : Nat} (h : Gbox w g o p v) (hb : Below B w w') (hg : g < B) : Gbox w' g o p v := (hb.block g hg).trans h
theorem Gbox.frozen (h : Gbox w g o p v) (j : Nat) : w.frozen? ⟨g, j, none⟩ = false := frozen_of_row w g j _ _ h
theorem Gbox.put2 {v' : Value} (h : Gbox w g o p v) : Gbox (w.setCell ⟨g, 2, none⟩ v') g o p v' := heap_setCell_same w g 2 _ _ v' h
end

set_option maxHeartbeats 1600000 in
theorem keep1_any {x : De} {o : Int} {g b : Nat} {W : World} (h1 : W.cell? ⟨b, 0, none⟩ = some (.pointer (some ⟨g, 0, none⟩))) (h2 : W.cell? ⟨g, 0, none⟩ = some (.int .i64 o)) :
    Calls Try.prog 45 #[dv x, .pointer (some ⟨b, 0, none⟩)] W fun e w' => e = .returned (.bool (decide (x.1 = o))) ∧ Hid (Below W.heap.size W w') := by
  have hlt : ∀ {k : Nat} {v : Value}, W.cell? ⟨k, 0, none⟩ = some v → k < W.heap.size := fun {k v} h => by
    unfold World.cell? at h
    rcases Nat.lt_or_ge k W.heap.size with h' | h'
    · exact h'
    · rw [Array.getElem?_eq_none h'] at h; cases h
  have hb := hlt h1
  have hg := hlt h2
  obtain ⟨x1, x2⟩ := x
  obtain ⟨w1, hw1⟩ : ∃ w1, w1 = W.alloc (.cells #[.int .i64 x1, .int .i64 x2] 23) := ⟨_, rfl⟩
  have HB := hid (show Below W.heap.size W w1 from hw1 ▸ (Below.refl _ W).alloc (Nat.le_refl _) _)
  have hbox : w1.heap[W.heap.size]? = some (.cells #[.int .i64 x1, .int .i64 x2] 23 (0, 0)) := hw1 ▸ heap_alloc_new W _
  have y0 : w1.cell? ⟨W.heap.size, 0, none⟩ = some (.int .i64 x1) := (cell_of_row w1 _ 0 _ _ (0, 0) hbox).trans rfl
  have y1 := (HB.out.cell (p := ⟨b, 0, none⟩) hb).trans h1
  have y2 := (HB.out.cell (p := ⟨g, 0, none⟩) hg).trans h2
  have HW := hid hw1
  clear hbox hb hg h1 h2 hlt hw1
  show Calls Try.prog 45 #[.agg #[.int .i64 x1, .int .i64 x2], .pointer (some ⟨b, 0, none⟩)] W _
  have mixed : Try.prog.follows .mixedOrders = true := by kernel_rfl
  go_enter Try.func45, Try.ntmps45
  go_upto_region 1 with fail
  rw [← HW.out]
  clear HW
  go_region
  all_goals
    go_wp2
    go_ret
    refine ⟨?_, hid HB.out.drew⟩
    rfl

theorem take_min (l : List De) (q : Nat) : l.take (min l.length q) = l.take q := by
  rcases Nat.le_total l.length q with h4 | h4
  · rw [Nat.min_eq_left h4, List.take_of_length_le (Nat.le_refl _), List.take_of_length_le h4]
  · rw [Nat.min_eq_right h4]

set_option maxHeartbeats 6400000 in
set_option maxRecDepth 100000 in
theorem keep_any {w : World} {g b off k c : Nat} {v0 : Value} (o : Int) (q : Nat) (S : Nat → Option Addr × Nat × Nat) (L : Nat → List De) (hG : Gbox w g o (q : Int) v0) (h : ∀ j, j < k → w.cell? ⟨b, off + j, none⟩ = some (.slice (S j).1 (S j).2.1 (S j).2.2) ∧ Ds w w.heap.size (S j).1 (S j).2.1 (S j).2.2 (L j)) (hb : b < w.heap.size) (hk : k ≤ 1000) (hkc : k ≤ c) (hs : (cats L k).length ≤ 100000) :
    Calls Try.prog 34 #[.pointer (some ⟨g, 0, none⟩), .slice (some ⟨b, off, none⟩) k c] w fun e w' => e = .returned (.tuple #[]) ∧ ∃ v, Hid (Gbox w' g o (q : Int) v ∧ Od w' w.heap.size v ((bst (oth o (cats L k))).take q) ∧ w.grownBy w' (some g)) := by
  have mixed : Try.prog.follows .mixedOrders = true := by kernel_rfl
  have hgw := hG.lt
  obtain ⟨w1, hw1⟩ : ∃ w1, w1 = w.alloc (.cells #[.pointer (some ⟨g, 0, none⟩)] 79) := ⟨_, rfl⟩
  have hb1 : Below w.heap.size w w1 := hw1 ▸ (Below.refl _ w).alloc (Nat.le_refl _) _
  have hs1 : w1.heap.size = w.heap.size + 1 := by rw [hw1]; simp
  have hbox : w1.heap[w.heap.size]? = some (.cells #[.pointer (some ⟨g, 0, none⟩)] 79 (0, 0)) := hw1 ▸ heap_alloc_new w _
  have HB1 := hid hb1
  have HX := hid hbox
  have HG1 := hid (hG.below hb1 hgw)
  have CC := hid (concat_any (w := w1) (b := b) (off := off) (c := c) S L (fun j hj => by
    obtain ⟨e1, e2⟩ := h j hj
    exact ⟨(hb1.cell (p := ⟨b, off + j, none⟩) hb).trans e1, (e2.below hb1).mono hb1.size⟩) (by omega) hk hkc hs)
  have HW := hid hw1
  obtain ⟨R, hR⟩ : ∃ R, R = cats L k := ⟨_, rfl⟩
  rw [← hR] at CC hs ⊢
  have HRl := hid hs
  have HS1 := hid hs1
  obtain ⟨l2, hl2⟩ : ∃ l2, l2 = oth o R := ⟨_, rfl⟩
  rw [← hl2]
  obtain ⟨l3, hl3⟩ : ∃ l3, l3 = bst l2 := ⟨_, rfl⟩
  rw [← hl3]
  have HL2 := hid hl2
  have HL3 := hid hl3
  clear hw1 hbox hG h hb1 hs hR hl2 hl3
  go_enter Try.func34, Try.ntmps34
  go_upto_region 1 with fail
  rw [← HW.out]
  clear HW
  go_wp2_with fail
  refine CC.out.mono ?_
  rintro e w2 ⟨v1, rfl, H2⟩
  obtain ⟨A1, c1, hv1, hD1, _, _⟩ := H2.out.1.form
  generalize R.length = m1 at hv1 hD1
  subst hv1
  have CD := hid (delete_any (fun d => decide (d.1 = o)) 45 #[.pointer (some ⟨w.heap.size, 0, none⟩)] (enters_of Try.func45 (by kernel_rfl) rfl) H2.out.1 (fun W x hW => by
    have hne : ∀ j, j < w1.heap.size → some j ≠ (Value.slice A1 m1 c1).ownBlock := fun j hj e => by have := (own_lt H2.out.1 j e.symm).1; omega
    have hs2 := H2.out.2.size
    have e1 := ((hW.block w.heap.size (by have := HS1.out; omega) (hne _ (by have := HS1.out; omega))).trans (H2.out.2.block w.heap.size (by have := HS1.out; omega))).trans HX.out
    have e2 := ((hW.block g (by have := HS1.out; omega) (hne _ (by have := HS1.out; omega))).trans (H2.out.2.block g (by have := HS1.out; omega))).trans HG1.out
    exact keep1_any (g := g) (by rw [cell_of_row W _ 0 _ _ (0, 0) e1]; rfl) (by rw [cell_of_row W _ 0 _ _ (0, 0) e2]; rfl)))
  clear hD1
  go_wp2_with fail
  refine CD.out.mono ?_
  rintro e w3 ⟨v2, rfl, H3⟩
  have HO3 := hid (show Od w3 w1.heap.size v2 l2 from by
    have h1 := H3.out.own
    have h2 : (R.filter fun x => !decide (x.1 = o)) = l2 := by rw [HL2.out]; unfold oth; congr 1; funext x; simp
    exact h2 ▸ h1)
  have HB3 := hid (turned_below H3.out H2.out.1 H2.out.2.size)
  obtain ⟨A2, c2, hv2, hD2, _, _⟩ := HO3.out.form
  have CB := hid (best_any hD2 (Nat.le_refl _))
  clear hD2
  rw [← HL3.out] at CB
  generalize l2.length = m2 at hv2 CB
  subst hv2
  generalize chk l2 = x at CB
  go_wp2_with fail
  refine CB.out.mono ?_
  rintro e w4 ⟨v3, rfl, H4⟩
  obtain ⟨A3, c3, hv3, hD3, hcm, _⟩ := H4.out.1.form
  have hcap := hD3.cap
  have HO4 := H4.out.1
  obtain ⟨m3, hm3⟩ : ∃ m3, m3 = l3.length := ⟨_, rfl⟩
  rw [← hm3] at hv3 hcap
  subst hv3
  have B4 := hid (H2.out.2.trans ((HB3.out.trans (H4.out.2.mono (Nat.le_trans H2.out.2.size HB3.out.size))).mono (Nat.le_refl _)))
  have G4 := hid (HG1.out.below B4.out (by have := HS1.out; omega))
  have e1 := (B4.out.block w.heap.size (by have := HS1.out; omega)).trans HX.out
  have x0 : w4.cell? ⟨w.heap.size, 0, none⟩ = some (.pointer (some ⟨g, 0, none⟩)) := (cell_of_row w4 _ 0 _ _ (0, 0) e1).trans rfl
  have x1 := G4.out.c1
  have x2 := G4.out.c2
  have f2 := G4.out.frozen 2
  have HM := hid hm3
  have HO := hid HO4
  have HC := hid hcm
  obtain ⟨t, ht⟩ : ∃ t, t = min m3 q := ⟨_, rfl⟩
  have ht1 : min (m3 : Int) (q : Int) = (t : Int) := by omega
  have ht2 : (t : Int) ≤ (c3 : Int) := by omega
  have HT := hid ht
  clear hD3 hm3 HO4 hcm e1 CB CD CC H3 HO3 ht
  go_upto_region 3 with fail
  go_region
  all_goals
    go_wp2
    go_end0
    refine ⟨rfl, .slice A3 t c3, hid ⟨?_, ?_, ?_⟩⟩
    · exact G4.out.put2
    · have h1 := HO.out
      rw [HM.out] at h1
      have h2 := h1.cut (k := t) (by have := HT.out; have := HM.out; omega)
      have h3 : l3.take t = l3.take q := by rw [HT.out, HM.out]; exact take_min l3 q
      rw [h3] at h2
      have hz : w.heap.size ≤ w3.heap.size := by
        have := HB1.out.size
        have := H2.out.2.size
        have := HB3.out.size
        have := HS1.out
        omega
      have h4 := (h2.set (a := ⟨g, 2, none⟩) (by show g < _; omega) (.slice A3 t c3)).mono hz
      exact h4.below (Below.refl _ _).drew
    · have h1 : w.grownBy w4 (some g) := below_grow _ (HB1.out.trans (B4.out.mono (by have := HS1.out; omega)))
      refine grown_on h1 ⟨rfl, rfl, rfl, by simp [World.setCell, World.drew], fun j hj hne => ?_⟩
      exact Below.heap_setCell w4 ⟨g, 2, none⟩ _ j (fun e => hne (by rw [e]))
end Go.Proofs.Ytdemhghflanncaa
