/- row.put. -/
import Derived.Test.YtdemhghflanncaaKrow
namespace Go.Proofs.Ytdemhghflanncaa
open Go.RowKit Go.Shelf Go.Lib

theorem pos_idx (d : De) (l : List De) : idx (fun x => fr d x) l = if pos d l < l.length then ((pos d l : Nat) : Int) else -1 := rfl

set_option maxHeartbeats 6400000 in
set_option maxRecDepth 100000 in
theorem put_any {w : World} {B g : Nat} {l : List De} (d : De) (h : RowS w B g l) (hl : l.length < 100000) :
    Calls Try.prog 42 #[.pointer (some ⟨g, 0, none⟩), dv d] w fun e w' => e = .returned (.tuple #[]) ∧ Hid (RowS w' B g (ins d l) ∧ Below B w w') := by
  obtain ⟨v, h1, h2, h3, h4⟩ := h
  obtain ⟨d1, d2⟩ := d
  obtain ⟨d, hd⟩ : ∃ d : De, d = (d1, d2) := ⟨_, rfl⟩
  rw [← hd]
  have he : (enc d).toArray = #[.int .i64 d1, .int .i64 d2] := by rw [hd]; rfl
  have hdv : dv d = .agg #[.int .i64 d1, .int .i64 d2] := by rw [hd]; rfl
  have hd1 : d.1 = d1 := by rw [hd]
  have hd2 : d.2 = d2 := by rw [hd]
  clear hd
  obtain ⟨A, c, rfl, hD, hcm, hob⟩ := h2.form
  have mixed : Try.prog.follows .mixedOrders = true := by kernel_rfl
  have hBw : B ≤ w.heap.size := by have := lt_of_heap h1; omega
  -- the box of d
  obtain ⟨w1, hw1⟩ : ∃ w1, w1 = w.alloc (.cells (enc d).toArray 23) := ⟨_, rfl⟩
  have b1 : Below w.heap.size w w1 := hw1 ▸ (Below.refl _ w).alloc (Nat.le_refl _) _
  have hbox : w1.heap[w.heap.size]? = some (.cells (enc d).toArray 23 (0, 0)) := hw1 ▸ heap_alloc_new w _
  have hg1 := (b1.block g (lt_of_heap h1)).trans h1
  have hs1 : w1.heap.size = w.heap.size + 1 := by rw [hw1]; simp
  have CX := hid (index_any (fun x => fr d x) 50 #[.pointer (some ⟨w.heap.size, 0, none⟩)] (enters_of Try.func50 (by kernel_rfl) rfl) (w := w1) (hD.below b1) (by omega) (fun W x hb => put1_any
    (by rw [hb.cell (p := ⟨w.heap.size, 0, none⟩) (by show w.heap.size < _; omega), cell_of_row w1 _ 0 _ _ (0, 0) hbox]; rfl)
    (by rw [hb.cell (p := ⟨w.heap.size, 1, none⟩) (by show w.heap.size < _; omega), cell_of_row w1 _ 1 _ _ (0, 0) hbox]; rfl)))
  have CI : Hid (∀ w2, Below w1.heap.size w1 w2 → Calls Try.prog 52 #[.slice A l.length c, .int .i64 (pos d l), .slice (some ⟨w2.heap.size, 0, none⟩) 1 1] (w2.alloc (.cells (enc d).toArray 23)).drew fun e w' => ∃ v', e = .returned v' ∧ Hid (Turned (w2.alloc (.cells (enc d).toArray 23)).drew w' B (.slice A l.length c) v' (ins d l))) := hid fun w2 hb => by
    rw [ins_pos]
    have b2 : Below w.heap.size w ((w2.alloc (.cells (enc d).toArray 23)).drew) := (b1.trans (hb.mono (by omega))).alloc (by have := hb.size; omega) _ |>.drew
    refine insert_any d (pos d l) (pos_le d l) (h2.below b2) hl (by have := b2.size; omega) (heap_alloc_new w2 _) (fun e => ?_)
    have := (own_lt h2 _ e).2
    have := hb.size
    omega
  have HPL := hid (pos_le d l)
  have HG := hid hg1
  have H3 := hid h3
  have H4 := hid h4
  have HLT : Hid (∀ k, (Value.slice A l.length c).ownBlock = some k → B ≤ k) := hid fun k hk => (own_lt h2 k hk).1
  have HO := hid h2
  have HBX := hid hbox
  have HB1 := hid b1
  have hidx := pos_idx d l
  obtain ⟨n, hn⟩ : ∃ n, n = l.length := ⟨_, rfl⟩
  have HN := hid hn
  have hc1 : w1.cell? ⟨g, 0, none⟩ = some (.slice A l.length c) := by rw [cell_of_row w1 g 0 _ _ (0, 0) hg1]; rfl
  have hf1 : w1.frozen? ⟨g, 0, none⟩ = false := frozen_of_row w1 g 0 _ _ hg1
  have HC1 := hid hc1
  have hgl : g < w.heap.size := lt_of_heap h1
  have HGL := hid hgl
  rw [← hn] at hc1 CX CI HLT HO HG H4 hidx HPL
  clear h1 h2 h3 h4 hob hD hcm hbox hg1 hf1 HC1 b1 hn hgl
  generalize pos d l = p at CI HPL hidx
  rw [he] at hw1 CI HBX
  rw [hdv]
  clear he hdv hd1 hd2
  by_cases hx : p < n
  case neg =>
    rw [if_neg hx] at hidx
    rw [hidx] at CX
    obtain rfl : n = p := by have := HPL.out; omega
    clear hidx
    go_enter Try.func42, Try.ntmps42
    go_upto_region 1 with fail
    rw [← hw1]
    clear hw1
    go_wp2_with fail
    refine CX.out.mono ?_
    rintro e w2 ⟨rfl, hb⟩
    have hgl := HGL.out
    have hg2 := (hb.out.block g (lt_of_heap HG.out)).trans HG.out
    have hb2 := (hb.out.block w.heap.size (lt_of_heap HBX.out)).trans HBX.out
    have rc : w2.cell? ⟨g, 0, none⟩ = some (.slice A n c) := by rw [cell_of_row w2 g 0 _ _ (0, 0) hg2]; rfl
    have x0 : w2.cell? ⟨w.heap.size, 0, none⟩ = some (.int .i64 d1) := by rw [cell_of_row w2 _ 0 _ _ (0, 0) hb2]; rfl
    have x1 : w2.cell? ⟨w.heap.size, 1, none⟩ = some (.int .i64 d2) := by rw [cell_of_row w2 _ 1 _ _ (0, 0) hb2]; rfl
    have HG3 : Hid ((w2.alloc (.cells #[.int .i64 d1, .int .i64 d2] 23)).drew.heap[g]? = some (.cells #[.slice A n c] 78 (0, 0))) := hid ((Below.heap_alloc w2 _ g (lt_of_heap hg2)).trans hg2)
    have HB2 : Hid (Below B w (w2.alloc (.cells #[.int .i64 d1, .int .i64 d2] 23)).drew) := hid (((HB1.out.trans (hb.out.mono HB1.out.size)).mono hBw).alloc (by have := hb.out.size; omega) _).drew
    have hbs : w.heap.size < w2.heap.size := lt_of_heap hb2
    have hgs : g < w2.heap.size := lt_of_heap hg2
    have CI2 := hid (CI.out w2 hb.out)
    clear hg2 hb2 HBX HG CI CX
    go_wp2_with fail
    go_region_with (first
      | (go_at_call 52; with_reducible refine CI2.out.mono ?_; rintro e w3 ⟨v', rfl, hT⟩; obtain ⟨A', c', rfl, hF⟩ := hT.out.own.form; clear hF; have hk := row_store HG3.out H3.out H4.out HLT.out hT.out; have hrc : w3.cell? ⟨g, 0, none⟩ = some (.slice A n c) := (cell_of_row w3 g 0 _ _ (0, 0) hk.1).trans rfl; have hrf : w3.frozen? ⟨g, 0, none⟩ = false := frozen_of_row w3 g 0 _ _ hk.1; have HK := hid hk.2; clear hk hT)
      | fail)
    all_goals
      go_wp2
      go_end0
      exact ⟨rfl, hid ⟨HK.out.1, HB2.out.trans HK.out.2⟩⟩
  rw [if_pos hx] at hidx
  rw [hidx] at CX
  clear hidx
  go_enter Try.func42, Try.ntmps42
  go_upto_region 1 with fail
  rw [← hw1]
  clear hw1
  go_wp2_with fail
  refine CX.out.mono ?_
  rintro e w2 ⟨rfl, hb⟩
  have hgl := HGL.out
  have hg2 := (hb.out.block g (lt_of_heap HG.out)).trans HG.out
  have hb2 := (hb.out.block w.heap.size (lt_of_heap HBX.out)).trans HBX.out
  have rc : w2.cell? ⟨g, 0, none⟩ = some (.slice A n c) := by rw [cell_of_row w2 g 0 _ _ (0, 0) hg2]; rfl
  have x0 : w2.cell? ⟨w.heap.size, 0, none⟩ = some (.int .i64 d1) := by rw [cell_of_row w2 _ 0 _ _ (0, 0) hb2]; rfl
  have x1 : w2.cell? ⟨w.heap.size, 1, none⟩ = some (.int .i64 d2) := by rw [cell_of_row w2 _ 1 _ _ (0, 0) hb2]; rfl
  have HG3 : Hid ((w2.alloc (.cells #[.int .i64 d1, .int .i64 d2] 23)).drew.heap[g]? = some (.cells #[.slice A n c] 78 (0, 0))) := hid ((Below.heap_alloc w2 _ g (lt_of_heap hg2)).trans hg2)
  have HB2 : Hid (Below B w (w2.alloc (.cells #[.int .i64 d1, .int .i64 d2] 23)).drew) := hid (((HB1.out.trans (hb.out.mono HB1.out.size)).mono hBw).alloc (by have := hb.out.size; omega) _).drew
  have hbs : w.heap.size < w2.heap.size := lt_of_heap hb2
  have hgs : g < w2.heap.size := lt_of_heap hg2
  have CI2 := hid (CI.out w2 hb.out)
  clear hg2 hb2 HBX HG CI CX
  go_wp2_with fail
  go_region_with (first
    | (go_at_call 52; with_reducible refine CI2.out.mono ?_; rintro e w3 ⟨v', rfl, hT⟩; obtain ⟨A', c', rfl, hF⟩ := hT.out.own.form; clear hF; have hk := row_store HG3.out H3.out H4.out HLT.out hT.out; have hrc : w3.cell? ⟨g, 0, none⟩ = some (.slice A n c) := (cell_of_row w3 g 0 _ _ (0, 0) hk.1).trans rfl; have hrf : w3.frozen? ⟨g, 0, none⟩ = false := frozen_of_row w3 g 0 _ _ hk.1; have HK := hid hk.2; clear hk hT)
    | fail)
  all_goals
    go_wp2
    go_end0
    exact ⟨rfl, hid ⟨HK.out.1, HB2.out.trans HK.out.2⟩⟩
end Go.Proofs.Ytdemhghflanncaa
