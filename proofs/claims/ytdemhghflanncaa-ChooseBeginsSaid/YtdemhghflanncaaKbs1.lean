/- Best: one descriptor. -/
import Derived.Test.YtdemhghflanncaaKeach
namespace Go.Proofs.Ytdemhghflanncaa
open Go.RowKit Go.Shelf Go.Lib

theorem Od.mono {w : World} {B C : Nat} {v : Value} {l : List De} (h : Od w B v l) (hC : C ≤ B) : Od w C v l := by
  obtain ⟨⟨hl, hor⟩, hm⟩ := h
  refine ⟨⟨hl, ?_⟩, hm⟩
  rcases hor with h | ⟨g, cap, cur, h1, h2, h3⟩
  · exact .inl h
  · exact .inr ⟨g, cap, cur, h1, by omega, h3⟩
theorem any_snoc (l : List De) (d : De) (i : Int) : (l ++ [d]).any (fun x => x.1 == i) = (l.any (fun x => x.1 == i) || d.1 == i) := by simp [List.any_append]
theorem best_old {w : World} {B g0 g1 : Nat} {l : List De} {d : De} (h : BestS w B g0 g1 l) (hd : l.any (fun x => x.1 == d.1) = true) : BestS w B g0 g1 (l ++ [d]) := by
  obtain ⟨h1, h2, h3, ⟨cs, h4, h5, h6⟩, v, h7, h8, h9⟩ := h
  refine ⟨h1, h2, h3, ⟨cs, h4, h5, fun i hi => ?_⟩, v, h7, ?_, h9⟩
  · rw [any_snoc, h6 i hi]
    cases hq : (d.1 == (i : Int)) with
    | false => rw [Bool.or_false]
    | true =>
      have : d.1 = (i : Int) := by simpa using hq
      rw [← this, hd]
      rfl
  · rw [fsts_snoc]
    unfold stp
    rw [any_fsts, hd, if_pos rfl]
    exact h8
theorem fsts_le (l : List De) : (fsts l).length ≤ l.length := (fsts_sublist l).length_le

theorem box_store {t : TypeId} {w w1 : World} {B g : Nat} {v v' : Value} {l' : List De} (hg : w.heap[g]? = some (.cells #[v] t (0, 0))) (h3 : B ≤ g) (h4 : v.ownBlock ≠ some g) (hlt : ∀ k, v.ownBlock = some k → B ≤ k) (h : Turned w w1 B v v' l') :
    w1.heap[g]? = some (.cells #[v] t (0, 0)) ∧ (w1.setCell ⟨g, 0, none⟩ v').heap[g]? = some (.cells #[v'] t (0, 0)) ∧ Od (w1.setCell ⟨g, 0, none⟩ v') B v' l' ∧ v'.ownBlock ≠ some g ∧ Below B w (w1.setCell ⟨g, 0, none⟩ v') ∧
    ∀ k, k < w.heap.size → k ≠ g → some k ≠ v.ownBlock → (w1.setCell ⟨g, 0, none⟩ v').heap[k]? = w.heap[k]? := by
  have hgw := lt_of_heap hg
  have h1 : w1.heap[g]? = some (.cells #[v] t (0, 0)) := (h.grown.block g hgw (fun e => h4 e.symm)).trans hg
  have hv' : v'.ownBlock ≠ some g := by
    rcases h.at_ with e | e
    · rw [e]; exact h4
    · rw [e]; intro e2; injection e2 with e2; omega
  have hfar : ∀ k, k ≠ g → (w1.setCell ⟨g, 0, none⟩ v').heap[k]? = w1.heap[k]? := fun k hk => Below.heap_setCell w1 ⟨g, 0, none⟩ v' k hk
  refine ⟨h1, heap_setCell_at w1 g v v' _ h1, ⟨?_, h.own.max⟩, hv', ⟨h.grown.os, h.grown.tape, h.grown.output, ?_, fun k hk => ?_⟩, fun k h5 h6 h7 => by rw [hfar k h6]; exact h.grown.block k h5 h7⟩
  · refine h.own.own.kept (row := some g) ⟨rfl, rfl, rfl, by simp [World.setCell], fun k _ hk => hfar k (fun e => hk (by rw [e]))⟩ (.inr hv')
  · exact Nat.le_trans h.grown.size (by simp [World.setCell])
  · rw [hfar k (by omega)]
    exact h.grown.block k (by omega) (fun e => by have := hlt k e.symm; omega)

set_option maxHeartbeats 6400000 in
theorem best1_any {w : World} {B g0 g1 : Nat} {l : List De} {d : De} (h : BestS w B g0 g1 l) (hl : l.length < 90000) (hB : B ≤ w.heap.size) (hd : bad d = false) :
    Calls Try.prog 31 #[dv d, .pointer (some ⟨g0, 0, none⟩), .pointer (some ⟨g1, 0, none⟩)] w fun e w' => e = .returned (.tuple #[]) ∧ Hid (BestS w' B g0 g1 (l ++ [d]) ∧ Below B w w') := by
  have hdr : 0 ≤ d.1 ∧ d.1 < 8 := by
    unfold bad at hd
    simp at hd
    omega
  obtain ⟨k, hk⟩ : ∃ k : Nat, d.1 = (k : Int) := ⟨d.1.toNat, by omega⟩
  have hk8 : k < 8 := by omega
  obtain ⟨d1, d2⟩ := d
  change d1 = (k : Int) at hk
  subst hk
  clear hd hdr
  obtain ⟨w1, hw1⟩ : ∃ w1, w1 = w.alloc (.cells #[.int .i64 k, .int .i64 d2] 23) := ⟨_, rfl⟩
  have hb1 : Below w.heap.size w w1 := hw1 ▸ (Below.refl _ w).alloc (Nat.le_refl _) _
  have hbox : w1.heap[w.heap.size]? = some (.cells #[.int .i64 k, .int .i64 d2] 23 (0, 0)) := hw1 ▸ heap_alloc_new w _
  have hs1 : w1.heap.size = w.heap.size + 1 := by rw [hw1]; simp
  have h' := h.below hb1
  have hgs : g0 < w.heap.size ∧ g1 < w.heap.size := by
    obtain ⟨_, _, _, ⟨_, h4, _⟩, _, h6, _⟩ := h
    exact ⟨lt_of_heap h4, lt_of_heap h6⟩
  have hvlt : ∀ v, w1.heap[g1]? = some (.cells #[v] 27 (0, 0)) → v.ownBlock ≠ some w.heap.size := fun v hv e => by
    obtain ⟨_, _, _, _, u, h6, h7, _⟩ := h
    rw [(hb1.block _ hgs.2).trans h6] at hv
    injection hv with hv
    injection hv with hv
    injection hv with hv
    injection hv with hv
    rw [← hv] at e
    have := (own_lt h7 _ e).2
    omega
  obtain ⟨h1, h2, h3, ⟨cs, h4, h5, h6⟩, v, h7, h8, h9, h10⟩ := h'
  obtain ⟨A, c, hve, hD, hcm, hob⟩ := h8.form
  have hc0 : w1.cell? ⟨g0, k, none⟩ = some (.bool (l.any (fun x => x.1 == (k : Int)))) := by rw [cell_of_row w1 g0 k _ _ (0, 0) h4]; exact h6 k hk8
  have hf0 : w1.frozen? ⟨g0, k, none⟩ = false := frozen_of_row w1 g0 k _ _ h4
  have x0 : w1.cell? ⟨w.heap.size, 0, none⟩ = some (.int .i64 k) := by rw [cell_of_row w1 _ 0 _ _ (0, 0) hbox]; rfl
  have x1 : w1.cell? ⟨w.heap.size, 1, none⟩ = some (.int .i64 d2) := by rw [cell_of_row w1 _ 1 _ _ (0, 0) hbox]; rfl
  have HB1 := hid hb1
  show Calls Try.prog 31 #[.agg #[.int .i64 k, .int .i64 d2], .pointer (some ⟨g0, 0, none⟩), .pointer (some ⟨g1, 0, none⟩)] w _
  have hk8z : (k : Int) < 8 := by omega
  by_cases hany : l.any (fun x => x.1 == (k : Int)) = true
  · rw [hany] at hc0
    have HR := hid (best_old (d := ((k : Int), d2)) ⟨h1, h2, h3, ⟨cs, h4, h5, h6⟩, v, h7, h8, h9, h10⟩ hany)
    clear h hvlt h1 h2 h3 h4 h5 h6 h7 h8 h9 h10 hve hD hcm hob hb1 hany hbox
    go_enter Try.func31, Try.ntmps31
    go_upto_region 1 with fail
    rw [← hw1]
    clear hw1
    go_wp2
    go_end0
    exact ⟨rfl, hid ⟨HR.out, HB1.out.mono hB⟩⟩
  · have hany : l.any (fun x => x.1 == (k : Int)) = false := Bool.eq_false_iff.2 hany
    rw [hany] at hc0
    go_enter Try.func31, Try.ntmps31
    go_upto_region 1 with fail
    rw [← hw1]
    clear hw1
    have HF := hid (show fsts (l ++ [((k : Int), d2)]) = fsts l ++ [((k : Int), d2)] by rw [fsts_snoc]; unfold stp; rw [any_fsts, hany, if_neg (by simp)])
    have HN := hid (fsts_le l)
    clear hany h
    go_upto_region 3 with fail
    obtain ⟨w2, hw2⟩ : ∃ w2, w2 = w1.setCell ⟨g0, k, none⟩ (.bool true) := ⟨_, rfl⟩
    have far2 : ∀ j, j ≠ g0 → w2.heap[j]? = w1.heap[j]? := fun j hj => by rw [hw2]; exact Below.heap_setCell w1 ⟨g0, k, none⟩ _ j hj
    have hs2 : w2.heap.size = w1.heap.size := by rw [hw2]; simp [World.setCell]
    have p4 : w2.heap[g0]? = some (.cells (cs.setIfInBounds k (.bool true)) 62 (0, 0)) := by rw [hw2]; exact heap_setCell_same w1 g0 k cs _ _ h4
    have p7 := (far2 g1 (Ne.symm h3)).trans h7
    have p8 : Od w2 B v (fsts l) := h8.kept (row := some g0) ⟨by rw [hw2]; rfl, by rw [hw2]; rfl, by rw [hw2]; rfl, by omega, fun j _ hj => far2 j (fun e => hj (by rw [e]))⟩ (.inr h9)
    have B2 : Below B w w2 := ⟨by rw [hw2]; exact hb1.os, by rw [hw2]; exact hb1.tape, by rw [hw2]; exact hb1.output, by omega, fun j hj => (far2 j (by omega)).trans (hb1.block j (by omega))⟩
    have pbox := (far2 w.heap.size (by omega)).trans hbox
    rw [← hw2]
    obtain ⟨w3, hw3⟩ : ∃ w3, w3 = w2.alloc (.cells #[.int .i64 k, .int .i64 d2] 23) := ⟨_, rfl⟩
    have b3 : Below w2.heap.size w2 w3 := hw3 ▸ (Below.refl _ w2).alloc (Nat.le_refl _) _
    have q4 := (b3.block g0 (lt_of_heap p4)).trans p4
    have q7 := (b3.block g1 (lt_of_heap p7)).trans p7
    have q8 := p8.below b3
    have qb : w3.heap[w2.heap.size]? = some (.cells #[.int .i64 k, .int .i64 d2] 23 (0, 0)) := hw3 ▸ heap_alloc_new w2 _
    have rc : w2.cell? ⟨g1, 0, none⟩ = some v := (cell_of_row w2 g1 0 _ _ (0, 0) p7).trans rfl
    have y0 : w2.cell? ⟨w.heap.size, 0, none⟩ = some (.int .i64 k) := (cell_of_row w2 _ 0 _ _ (0, 0) pbox).trans rfl
    have y1 : w2.cell? ⟨w.heap.size, 1, none⟩ = some (.int .i64 d2) := (cell_of_row w2 _ 1 _ _ (0, 0) pbox).trans rfl
    have hown := q8.own
    have hnews := World.news_of_block qb
    have hB3 : B ≤ w3.heap.size := by have := b3.size; omega
    obtain ⟨i0, hi0, hz0, hzs, hzb⟩ := info_parts infoD
    have hc1 : ∀ u ∈ (#[.int .i64 k, .int .i64 d2] : Array Value).toList, u.oneCell' = true := by intro u hu; simp at hu; rcases hu with rfl | rfl <;> rfl
    have H := hid (And.intro h1 (And.intro h2 (And.intro h3 (And.intro h5 (And.intro h6 (And.intro h9 (And.intro h10 (And.intro q4 (And.intro q7 (And.intro b3 (And.intro B2 (own_lt q8))))))))))))
    obtain ⟨m, hm⟩ : ∃ m, m = (fsts l).length := ⟨_, rfl⟩
    have HM := hid hm
    have hmn : m ≤ 90000 := by have := HN.out; omega
    rw [← hm] at hve hown
    subst hve
    have HB2 : Hid (∀ X, Below w2.heap.size w2 X → Below B w X) := hid fun X hx => B2.trans (hx.mono (by omega))
    have hsz2 : w.heap.size < w2.heap.size := by omega
    have hgs2 : g0 < w2.heap.size ∧ g1 < w2.heap.size := ⟨lt_of_heap p4, lt_of_heap p7⟩
    have HQ : Hid (∀ w4, w3.grownBy w4 (Value.slice A m c).ownBlock → w4.heap[g1]? = some (.cells #[.slice A m c] 27 (0, 0))) := hid fun w4 hg => (hg.block g1 (lt_of_heap q7) (fun e => h10 e.symm)).trans q7
    have HF1 : Hid (w1.heap.size = w2.heap.size) := hid hs2.symm
    clear h1 h2 h3 h4 h5 h6 h7 h8 h9 h10 hD hcm hob hb1 hbox far2 p4 p7 p8 B2 pbox q4 q7 q8 qb hvlt hc0 hf0 x0 x1 hw2 hm hl HN b3 hs1 hs2
    subst hw3
    go_wp2_with (at_builtin; refine wpList_append_lies _ rfl _ _ 27 rfl B 23 i0 (.agg #[.int .i64 0, .int .i64 0]) 2 16 Try.underlying27 hi0 hz0 hzs hzb rfl (by decide) (.slice A m c) m _ rfl hown ⟨w2.heap.size, 0, none⟩ 1 1 _ rfl rfl hnews hc1 (by decide) (by unfold maxLen; omega) (by omega) hB3 _ rfl ?_; intro g cap w4 hown4 hgrow hat hlt; have hk := HQ.out _ hgrow; have hr4 : w4.cell? ⟨g1, 0, none⟩ = some (.slice A m c) := (cell_of_row w4 g1 0 _ _ (0, 0) hk).trans rfl; have hf4 : w4.frozen? ⟨g1, 0, none⟩ = false := frozen_of_row w4 g1 0 _ _ hk)
    go_end0
    obtain ⟨h1, h2, h3, h5, h6, h9, h10, q4, q7, b3, B2, hlo⟩ := H.out
    have hT : Turned (w2.alloc (.cells #[.int .i64 k, .int .i64 d2] 23)) w4 B (.slice A m c) (.slice (some ⟨g, 0, none⟩) (m + 1) cap) (fsts l ++ [((k : Int), d2)]) := by
      refine ⟨⟨?_, by rw [List.length_append, ← HM.out, List.length_singleton]; omega⟩, hgrow, hat.imp (fun e => e.symm) (fun e => by rw [← e]; rfl)⟩
      rw [List.length_append, ← HM.out, cellsD_append, cellsD_one]
      exact hown4
    obtain ⟨e1, e2, e3, e4, e5, e6⟩ := box_store q7 h2 h10 (fun k hk => (hlo k hk).1) hT
    refine ⟨rfl, hid ⟨⟨h1, h2, h3, ⟨_, (e6 g0 (lt_of_heap q4) h3 (fun e => h9 e.symm)).trans q4, by simpa using h5, fun i hi => ?_⟩, _, e2, by rw [HF.out]; exact e3, ?_, e4⟩, B2.trans ((b3.mono (by have := hgs2.1; omega)).trans e5)⟩⟩
    · rw [any_snoc, Array.getElem?_setIfInBounds]
      by_cases hik : k = i
      · subst hik
        rw [if_pos rfl, if_pos (by omega)]
        simp
      · rw [if_neg hik, h6 i hi]
        have : (((k : Int), d2).1 == (i : Int)) = false := by simp; omega
        rw [this, Bool.or_false]
    · rcases hat with e | e
      · rw [e] at h9
        exact h9
      · rw [e]
        intro e'
        have : (w2.alloc (.cells #[.int .i64 k, .int .i64 d2] 23)).heap.size = g0 := by injection e'
        have := lt_of_heap q4
        omega

end Go.Proofs.Ytdemhghflanncaa
