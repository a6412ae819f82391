/- slices.DeleteFunc. -/
import Derived.Test.YtdemhghflanncaaCcat
import Derived.Test.YtdemhghflanncaaCone
namespace Go.Proofs.Ytdemhghflanncaa
open Go.RowKit Go.Shelf Go.Lib

theorem grown_self (w : World) (o : Option Nat) : w.grownBy w o := ⟨rfl, rfl, rfl, Nat.le_refl _, fun _ _ _ => rfl⟩
theorem grown_on {w wr w' : World} {o : Option Nat} (h : w.grownBy wr o) (k : wr.grownBy w' o) : w.grownBy w' o :=
  ⟨k.os.trans h.os, k.tape.trans h.tape, k.output.trans h.output, Nat.le_trans h.size k.size, fun j hj hne => (k.block j (Nat.lt_of_lt_of_le hj h.size) hne).trans (h.block j hj hne)⟩
theorem below_grow {w w' : World} (o : Option Nat) (h : Below w.heap.size w w') : w.grownBy w' o := ⟨h.os, h.tape, h.output, h.size, fun k hk _ => h.block k hk⟩
theorem cellsD_set : ∀ (l : List De) (i : Nat) (d : De), cellsD (l.set i d) = ((cellsD l).set (i * 2) (.int .i64 d.1)).set (i * 2 + 1) (.int .i64 d.2)
  | [], i, d => by simp [cellsD]
  | x :: l, 0, d => by rw [List.set_cons_zero, cellsD_cons, cellsD_cons]; rfl
  | x :: l, i + 1, d => by
    rw [List.set_cons_succ, cellsD_cons, cellsD_cons, cellsD_set l i d, show (i + 1) * 2 = i * 2 + 1 + 1 by omega]
    rfl
/-- An element of an own list is written over. -/
theorem Od.put {w : World} {B g n cap : Nat} {l : List De} (h : Od w B (.slice (some ⟨g, 0, none⟩) n cap) l) (i : Nat) (d : De) :
    Od ((w.setCell ⟨g, i * 2, none⟩ (.int .i64 d.1)).setCell ⟨g, i * 2 + 1, none⟩ (.int .i64 d.2)) B (.slice (some ⟨g, 0, none⟩) n cap) (l.set i d) ∧ w.grownBy ((w.setCell ⟨g, i * 2, none⟩ (.int .i64 d.1)).setCell ⟨g, i * 2 + 1, none⟩ (.int .i64 d.2)) (some g) := by
  obtain ⟨⟨hl, hor⟩, hm⟩ := h
  rcases hor with ⟨e, _⟩ | ⟨g', cap', cur, e, hB, hg, hn, hc, hs, ht⟩
  · cases e
  · injection e with e1 e2 e3
    injection e1 with e1
    injection e1 with e1 _ _
    subst e1
    subst e2
    subst e3
    have h1 := heap_setCell_same w g (i * 2) cur _ (.int .i64 d.1) hg
    have h2 := heap_setCell_same _ g (i * 2 + 1) _ _ (.int .i64 d.2) h1
    refine ⟨⟨⟨by rw [cellsD_length], .inr ⟨g, cap, _, by rw [List.length_set], hB, h2, by rw [List.length_set]; exact hn, hc, by simpa using hs, ?_⟩⟩, by rw [List.length_set]; exact hm⟩, ⟨rfl, rfl, rfl, by simp [World.setCell], fun k hk hne => ?_⟩⟩
    · rw [List.length_set, Array.toList_setIfInBounds, Array.toList_setIfInBounds, List.take_set, List.take_set, ht, cellsD_set]
    · have hkg : k ≠ g := fun e => hne (by rw [e])
      exact (Below.heap_setCell _ ⟨g, i * 2 + 1, none⟩ _ k hkg).trans (Below.heap_setCell w ⟨g, i * 2, none⟩ _ k hkg)
/-- What is behind i is cleared. -/
theorem run_clearD {w : World} {B g n cap i : Nat} {l : List De} (h : Od w B (.slice (some ⟨g, 0, none⟩) n cap) l) (hi : i ≤ n) :
    ∃ w', (∀ ty c', (Builtin.clear_ #[27] ty #[.slice (some ⟨g, i * 2, none⟩) (n - i) c']).run Try.prog w = .ok (.tuple #[]) w') ∧ Od w' B (.slice (some ⟨g, 0, none⟩) i cap) (l.take i) ∧ w.grownBy w' (some g) := by
  obtain ⟨i0, hi0, hz0, hzs, hzb⟩ := info_parts infoD
  have h0 := h
  obtain ⟨⟨hl, hor⟩, hm⟩ := h
  rcases hor with ⟨e, _⟩ | ⟨g', cap', cur, e, hB, hg, hn, hc, hs, ht⟩
  · cases e
  injection e with e1 e2 e3
  injection e1 with e1
  injection e1 with e1 _ _
  subst e1
  subst e2
  subst e3
  rcases Nat.eq_zero_or_pos (l.length - i) with hz | hz
  · refine ⟨w, fun ty c' => ?_, Od.cut h0 hi, grown_self w _⟩
    rw [hz]
    simp [Builtin.clear_, run_underlying Try.underlying27]
  · obtain ⟨cs, hcs⟩ : ∃ cs, cs = (Builtin.zeroCells (Value.agg #[.int .i64 0, .int .i64 0]).cells (l.length - i)).toList := ⟨_, rfl⟩
    have hcl : cs.length = (l.length - i) * 2 := by rw [hcs, Array.length_toList, size_zeroCells]; rfl
    have hco : ∀ v ∈ cs, v.oneCell' = true := by
      intro v hv
      rw [hcs] at hv
      obtain ⟨j, hj⟩ := List.mem_iff_getElem?.1 hv
      simp only [Builtin.zeroCells] at hj
      simp at hj
      obtain ⟨q, _, hq⟩ := hj
      have hz2 : (Value.agg #[.int .i64 0, .int .i64 0]).cells = #[.int .i64 0, .int .i64 0] := rfl
      rw [hz2] at hq
      rw [← hq]
      rcases Nat.mod_two_eq_zero_or_one q with h3 | h3
      · rw [show q % (#[Value.int .i64 0, .int .i64 0] : Array Value).size = 0 from h3]; rfl
      · rw [show q % (#[Value.int .i64 0, .int .i64 0] : Array Value).size = 1 from h3]; rfl
    have hst := run_storeCells_at Try.prog g (i * 2) 23 cs 0 cur w hg (by rw [hcl]; omega) hco
    simp only [Nat.add_zero] at hst
    refine ⟨w.setRow g (cur.toList.take (i * 2) ++ cs ++ cur.toList.drop (i * 2 + cs.length)).toArray, fun ty c' => ?_, ?_, ?_⟩
    · obtain ⟨m, hm2⟩ : ∃ m, l.length - i = m + 1 := ⟨l.length - i - 1, by omega⟩
      have hzv : (zeroValue 23).run Try.prog w = .ok (.agg #[.int .i64 0, .int .i64 0]) w := by simp [zeroValue, typeInfo, hi0, hz0]
      rw [hm2] at hcs
      rw [hm2]
      simp [Builtin.clear_, run_underlying Try.underlying27, hzv, ← hcs, hst]
    · have hli : (l.take i).length = i := by rw [List.length_take]; omega
      refine ⟨⟨by rw [cellsD_length], .inr ⟨g, cap, _, by rw [hli], hB, setRow_heap w g cur _ _ _ hg, by rw [hli]; omega, hc, ?_, ?_⟩⟩, by rw [hli]; omega⟩
      · rw [← Array.length_toList]
        simp only [List.length_append, List.length_take, List.length_drop, Array.length_toList, hcl]
        omega
      · have h1 : (cur.toList.take (i * 2)).length = i * 2 := by rw [List.length_take, Array.length_toList]; omega
        rw [hli, List.append_assoc]
        rw [List.take_append_of_le_length (by omega), List.take_take, Nat.min_self, ← cellsD_take, ← ht, List.take_take, Nat.min_eq_left (by omega)]
    · refine ⟨rfl, rfl, rfl, by simp [World.setRow], fun k hk hne => heap_setRow_far w g _ (fun e => hne (by rw [e]))⟩

theorem Od.row {w : World} {B g n c : Nat} {l : List De} (h : Od w B (.slice (some ⟨g, 0, none⟩) n c) l) : l.length = n ∧ B ≤ g ∧ g < w.heap.size ∧ n ≤ c ∧ (∀ k, w.frozen? ⟨g, k, none⟩ = false) ∧ ∀ j d, l[j]? = some d → w.cell? ⟨g, j * 2, none⟩ = some (.int .i64 d.1) ∧ w.cell? ⟨g, j * 2 + 1, none⟩ = some (.int .i64 d.2) := by
  obtain ⟨A, c', e, hD, _, _⟩ := h.form
  injection e with e1 e2 e3
  subst e1
  subst e2
  subst e3
  rcases h.own.2 with ⟨e, _⟩ | ⟨g', cap', cur, e, hB, hg, hn, hc, hs, ht⟩
  · cases e
  · injection e with e1 e2 e3
    injection e1 with e1
    injection e1 with e1 _ _
    subst e1
    refine ⟨rfl, hB, lt_of_heap hg, hD.cap, fun k => frozen_of_row w g k _ _ hg, fun j d hj => ?_⟩
    have hjl := (List.getElem?_eq_some_iff.1 hj).1
    obtain ⟨b, off, e, _, hcc⟩ := hD.at_ (by omega)
    injection e with e
    injection e with e1 e2
    subst e1
    subst e2
    have := hcc j d hj
    rw [Nat.zero_add] at this
    exact this

theorem put_step {cur l : List De} {i j : Nat} {d : De} {F : List De} (hij : i < j) (hj : j < l.length) (hc : cur.length = l.length) (h1 : cur.take i = F) (h2 : cur.drop j = l.drop j) : (cur.set i d).length = l.length ∧ (cur.set i d).take (i + 1) = F ++ [d] ∧ (cur.set i d).drop (j + 1) = l.drop (j + 1) := by
  refine ⟨by rw [List.length_set]; exact hc, ?_, ?_⟩
  · rw [List.take_add_one, List.take_set, h1, List.set_eq_of_length_le (by rw [← h1, List.length_take]; omega), List.getElem?_set_self (by omega)]
    rfl
  · rw [List.drop_set_of_lt (by omega), ← List.drop_drop, h2, List.drop_drop]

set_option maxHeartbeats 6400000 in
set_option maxRecDepth 100000 in
theorem delete_any (p : De → Bool) (f : Nat) (lb : Array Value) (eg : ∀ args w, (callFunc f args).run Try.prog w = .ok (.enter f args) w) {w : World} {B : Nat} {v : Value} {l : List De} (hO : Od w B v l)
    (hp : ∀ (W : World) (x : De), w.grownBy W v.ownBlock → Calls Try.prog f (#[dv x] ++ lb) W fun e w' => e = .returned (.bool (p x)) ∧ Hid (Below W.heap.size W w')) :
    Calls Try.prog 43 #[v, .func (.func f) #[] lb] w fun e w' => ∃ v', e = .returned v' ∧ Hid (Turned w w' B v v' (l.filter fun x => !p x)) := by
  obtain ⟨A, c, rfl, hD, hcm, hob⟩ := hO.form
  have hcap := hD.cap
  have CX := hid (index_any p f lb eg hD (Nat.le_refl _) (fun W x hb => hp W x (below_grow _ hb)))
  have HP := hid hp
  have HO := hid hO
  obtain ⟨n, hn⟩ : ∃ n, n = l.length := ⟨_, rfl⟩
  have HN := hid hn
  have hmx : n ≤ 100000 := by rw [hn]; exact hO.max
  have hc63 : c ≤ 9223372036854775807 := by unfold maxLen at hcm; omega
  rw [← hn] at hcap CX HP HO ⊢
  by_cases hidx : l.findIdx p < l.length
  case neg =>
    have hi : idx p l = -1 := if_neg hidx
    have hf : (l.filter fun x => !p x) = l := List.filter_eq_self.2 fun x hx => by
      cases hq : p x with
      | false => rfl
      | true => exact absurd (List.findIdx_lt_length.2 ⟨x, hx, hq⟩) hidx
    rw [hi] at CX
    rw [hf]
    clear hp hO hD hcm hob hn hi hf hidx
    go_enter Try.func43, Try.ntmps43
    go_wp2_with (first | (go_at_call 49; refine CX.out.mono ?_; rintro e w1 ⟨rfl, hb⟩) | go_in)
    go_ret
    exact ⟨_, rfl, hid ⟨HO.out.below hb.out, below_grow _ hb.out, .inl rfl⟩⟩
  case pos =>
    obtain ⟨k0, hk0⟩ : ∃ k0, k0 = l.findIdx p := ⟨_, rfl⟩
    have hi : idx p l = k0 := by rw [hk0]; exact if_pos hidx
    have hk0n : k0 < n := by omega
    have hcapn : 0 < n := by omega
    obtain ⟨g, cur0, rfl, _⟩ : ∃ (g : Nat) (cur : Array Value), A = some ⟨g, 0, none⟩ ∧ True := by
      rcases hO.own.2 with ⟨e, _⟩ | ⟨g, cap, cur, e, _⟩
      · injection e with _ e2 _
        omega
      · injection e with e1 e2 e3
        exact ⟨g, cur, e1, trivial⟩
    have hd0 : l[k0]? = some (l[k0]'(by omega)) := List.getElem?_eq_getElem (by omega)
    have hpk : p (l[k0]'(by omega)) = true := by subst hk0; exact List.findIdx_getElem
    have HST : Hid ((l.take (k0 + 1)).filter (fun x => !p x) = l.take k0) := hid (by
      rw [take_snoc hd0, List.filter_append, List.filter_cons_of_neg (by rw [hpk]; simp), List.filter_nil, List.append_nil]
      refine List.filter_eq_self.2 fun x hx => ?_
      obtain ⟨j, hj⟩ := List.mem_iff_getElem?.1 hx
      rw [List.getElem?_take] at hj
      split at hj
      · next hjk =>
        obtain ⟨hj1, rfl⟩ := List.getElem?_eq_some_iff.1 hj
        have := List.not_of_lt_findIdx (p := p) (xs := l) (i := j) (by omega)
        simpa using this
      · cases hj)
    rw [hi] at CX
    have hne1 : ¬ ((k0 : Int) = -1) := by omega
    clear hp hO hD hcm hob hn hi hidx hk0 hd0 hpk
    go_enter Try.func43, Try.ntmps43
    go_wp2_with (first | (go_at_call 49; refine CX.out.mono ?_; rintro e w1 ⟨rfl, hb⟩) | go_in)
    go_loopg [5, 6, 7] n (fun gg s5 s6 _ wr => ∃ (i j : Nat) (cur : List De), s5 = .int .i64 i ∧ s6 = .int .i64 j ∧ i < j ∧ j ≤ n ∧ n - j ≤ gg ∧ Hid (Od wr B (.slice (some ⟨g, 0, none⟩) n c) cur ∧ w.grownBy wr (some g)) ∧ Hid (cur.length = l.length ∧ cur.take i = (l.take j).filter (fun x => !p x) ∧ cur.drop j = l.drop j))
    case atStart => exact ⟨k0, k0 + 1, l, rfl, by go_num, by omega, by omega, by omega, hid ⟨HO.out.below hb.out, below_grow _ hb.out⟩, hid ⟨rfl, HST.out.symm, rfl⟩⟩
    case round =>
      obtain ⟨i, j, cur, rfl, rfl, hij, hjn, hgg, HW, HC⟩ := hrel
      obtain ⟨hrl, hBg, hgw, hnc, hfz, hcells⟩ := HW.out.1.row
      by_cases hlt : j < n
      · have hltz : (j : Int) < (n : Int) := by omega
        have hl := HN.out
        obtain ⟨hcl, hct, hcd⟩ := HC.out
        obtain ⟨d, hd⟩ : ∃ d, l[j]? = some d := ⟨_, List.getElem?_eq_getElem (by omega)⟩
        have hcj : cur[j]? = some d := by
          have h1 : (cur.drop j)[0]? = (l.drop j)[0]? := by rw [hcd]
          rw [List.getElem?_drop, List.getElem?_drop, Nat.add_zero, hd] at h1
          exact h1
        obtain ⟨u, hu⟩ : ∃ u, cur[i]? = some u := ⟨_, List.getElem?_eq_getElem (by omega)⟩
        obtain ⟨c1, c2⟩ := hcells j d hcj
        obtain ⟨c3, c4⟩ := hcells i u hu
        obtain ⟨d1, d2⟩ := d
        change wr.cell? ⟨g, j * 2, none⟩ = some (.int .i64 d1) at c1
        change wr.cell? ⟨g, j * 2 + 1, none⟩ = some (.int .i64 d2) at c2
        obtain ⟨wb, hwb⟩ : ∃ wb, wb = wr.alloc (.cells #[.int .i64 d1, .int .i64 d2] 23) := ⟨_, rfl⟩
        have b1 : Below wr.heap.size wr wb := hwb ▸ (Below.refl _ wr).alloc (Nat.le_refl _) _
        have hs1 : wb.heap.size = wr.heap.size + 1 := by rw [hwb]; simp
        have hbox : wb.heap[wr.heap.size]? = some (.cells #[.int .i64 d1, .int .i64 d2] 23 (0, 0)) := hwb ▸ heap_alloc_new wr _
        have HCL := hid (HP.out wb (d1, d2) (grown_on HW.out.2 (below_grow _ b1)))
        have x0 : wb.cell? ⟨wr.heap.size, 0, none⟩ = some (.int .i64 d1) := (cell_of_row wb _ 0 _ _ (0, 0) hbox).trans rfl
        have x1 : wb.cell? ⟨wr.heap.size, 1, none⟩ = some (.int .i64 d2) := (cell_of_row wb _ 1 _ _ (0, 0) hbox).trans rfl
        have HF : Hid (∀ w2, Below wb.heap.size wb w2 → w2.cell? ⟨wr.heap.size, 0, none⟩ = some (.int .i64 d1) ∧ w2.cell? ⟨wr.heap.size, 1, none⟩ = some (.int .i64 d2) ∧ w2.cell? ⟨g, i * 2, none⟩ = some (.int .i64 u.1) ∧ w2.cell? ⟨g, i * 2 + 1, none⟩ = some (.int .i64 u.2) ∧ Od w2 B (.slice (some ⟨g, 0, none⟩) n c) cur ∧ w.grownBy w2 (some g)) := hid fun w2 hb => by
          refine ⟨(hb.cell (p := ⟨wr.heap.size, 0, none⟩) (by show wr.heap.size < _; omega)).trans x0, (hb.cell (p := ⟨wr.heap.size, 1, none⟩) (by show wr.heap.size < _; omega)).trans x1, ?_, ?_, (HW.out.1.below b1).below hb, grown_on (grown_on HW.out.2 (below_grow _ b1)) (below_grow _ hb)⟩
          · exact ((hb.cell (p := ⟨g, i * 2, none⟩) (by show g < _; omega)).trans (b1.cell (p := ⟨g, i * 2, none⟩) hgw)).trans c3
          · exact ((hb.cell (p := ⟨g, i * 2 + 1, none⟩) (by show g < _; omega)).trans (b1.cell (p := ⟨g, i * 2 + 1, none⟩) hgw)).trans c4
        have HD := hid hd
        have hgne : g ≠ wr.heap.size := by omega
        clear hcl hct hcd hd hcj hu hbox b1 hs1 hcells hl hrl c3 c4 hfz
        cases hq : p (d1, d2) with
        | false =>
          rw [hq] at HCL
          have HQ := hid hq
          clear hq
          go_upto_region 8 with fail
          rw [← hwb]
          clear hwb
          go_wp2_with fail
          refine HCL.out.mono ?_
          rintro e w2 ⟨rfl, hb⟩
          obtain ⟨y0, y1, y2, y3, yO, yG⟩ := HF.out w2 hb.out
          have hfz := yO.row.2.2.2.2.1
          have f0 := hfz (i * 2)
          have f1 := hfz (i * 2 + 1)
          have HY := hid (Od.put yO i (d1, d2))
          have HG := hid yG
          clear yO yG hfz hb
          go_wp2
          go_roundg (n - (j + 1))
          case measure => omega
          case rel =>
            refine ⟨i + 1, j + 1, cur.set i (d1, d2), by go_num, by go_num, by omega, by omega, by omega, hid ⟨HY.out.1, grown_on HG.out HY.out.2⟩, hid ?_⟩
            obtain ⟨h1, h2, h3⟩ := HC.out
            obtain ⟨h4, h5, h6⟩ := put_step (d := (d1, d2)) hij (by have := HN.out; omega) h1 h2 h3
            refine ⟨h4, ?_, h6⟩
            rw [h5, take_snoc HD.out, List.filter_append, List.filter_cons_of_pos (by rw [HQ.out]; rfl), List.filter_nil]
        | true =>
          rw [hq] at HCL
          have HQ := hid hq
          clear hq
          go_upto_region 8 with fail
          rw [← hwb]
          clear hwb
          go_wp2_with fail
          refine HCL.out.mono ?_
          rintro e w2 ⟨rfl, hb⟩
          obtain ⟨y0, y1, y2, y3, yO, yG⟩ := HF.out w2 hb.out
          have HY := hid (And.intro yO yG)
          clear yO yG hb y0 y1 y2 y3
          go_wp2
          go_roundg (n - (j + 1))
          case measure => omega
          case rel =>
            refine ⟨i, j + 1, cur, rfl, by go_num, by omega, by omega, by omega, hid ⟨HY.out.1, HY.out.2⟩, hid ?_⟩
            obtain ⟨h1, h2, h3⟩ := HC.out
            refine ⟨h1, ?_, ?_⟩
            · rw [take_snoc HD.out, List.filter_append, List.filter_cons_of_neg (by rw [HQ.out]; simp), List.filter_nil, List.append_nil]
              exact h2
            · rw [← List.drop_drop, h3, List.drop_drop]
      · have hltz : ¬ (j : Int) < (n : Int) := by omega
        obtain rfl : j = n := by omega
        obtain ⟨w3, hcl, hO3, hg3⟩ := run_clearD HW.out.1 (show i ≤ j by omega)
        have HR := hid (And.intro hO3 hg3)
        have hci : ¬ (c = i) := by omega
        have hij2 : i ≤ j := by omega
        clear hO3 hg3 hfz hcells hrl
        go_wp2
        go_ret
        refine ⟨_, rfl, hid ⟨?_, grown_on HW.out.2 HR.out.2, .inl rfl⟩⟩
        obtain ⟨h1, h2, h3⟩ := HC.out
        have h4 : (l.take j).filter (fun x => !p x) = l.filter (fun x => !p x) := by rw [List.take_of_length_le (by rw [HN.out]; exact Nat.le_refl _)]
        rw [← h4, ← h2]
        exact HR.out.1
end Go.Proofs.Ytdemhghflanncaa
