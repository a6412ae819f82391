/- slices.Clone and slices.DeleteFunc over timers. -/
import Derived.Test.YtgcmljnjfghagaaTown
namespace Go.Proofs.Ytgcmljnjfghagaa.Tm
open Go.RowKit Go.Shelf Go.Lib

set_option maxHeartbeats 1600000 in
theorem clone_any {w : World} {B n c : Nat} {A : Option Addr} {l : List De} (h : Ds w B A n c l) (hB : B ≤ w.heap.size) (hn : n ≤ 100000) :
    Calls Try.prog 34 #[.slice A n c] w fun e w' => ∃ v, e = .returned v ∧ Hid (Od w' w.heap.size v l ∧ Below w.heap.size w w') := by
  have H := hid h
  have heq : ∀ (A : Option Addr) (n c : Nat) (W : World), (binOp .eql 27 (.slice A n c) (.slice none 0 0)).run Try.prog W = .ok (.bool A.isNone) W := fun A n c W => by
    simp only [binOp]
    simp [run_equal_slice_nil W _ _ A n c Try.underlying27]
  cases A with
  | none =>
    obtain ⟨rfl, rfl⟩ := h.nil rfl
    obtain rfl := List.length_eq_zero_iff.1 h.len
    clear h
    have heq := heq none 0 0
    go_enter Try.func34, Try.ntmps34
    go_wp2_with (simp only [heq])
    go_ret
    exact ⟨_, rfl, hid ⟨Od.nil _ _, Below.refl _ _⟩⟩
  | some a =>
    have hb1 : Below w.heap.size w (w.alloc (.cells #[] 23)) := (Below.refl _ w).alloc (Nat.le_refl _) _
    have HO := hid (od_at (heap_alloc_new w (.cells #[] 23)) (Nat.le_refl w.heap.size))
    have HD := hid ((h.mono hB).below hb1)
    have HB1 := hid hb1
    clear h hb1
    have heq := heq (some a) n c
    go_enter Try.func34, Try.ntmps34
    go_wp2_with (first
      | simp only [heq]
      | (at_builtin; refine list_appD rfl _ _ rfl rfl rfl HO.out HD.out (by simpa using hn) (by simp) ?_; intro v' w' HT)
      | go_in)
    go_ret
    refine ⟨_, rfl, hid ⟨HT.out.own, ?_⟩⟩
    refine HB1.out.trans ?_
    refine ⟨HT.out.grown.os, HT.out.grown.tape, HT.out.grown.output, HT.out.grown.size, fun k hk => HT.out.grown.block k (by simp; omega) (fun e => ?_)⟩
    have e2 : k = w.heap.size := Option.some.inj e
    omega
set_option maxHeartbeats 6400000 in
set_option maxRecDepth 100000 in
theorem delete_any (p : De → Bool) (f : Nat) (lb : Array Value) (eg : ∀ args w, (callFunc f args).run Try.prog w = .ok (.enter f args) w) {w : World} {B : Nat} {v : Value} {l : List De} (hO : Od w B v l)
    (hp : ∀ (W : World) (x : De), w.grownBy W v.ownBlock → Calls Try.prog f (#[dv x] ++ lb) W fun e w' => e = .returned (.bool (p x)) ∧ Hid (Below W.heap.size W w')) :
    Calls Try.prog 35 #[v, .func (.func f) #[] lb] w fun e w' => ∃ v', e = .returned v' ∧ Hid (Turned w w' B v v' (l.filter fun x => !p x)) := by
  obtain ⟨A, c, rfl, hD, hcm, hob⟩ := hO.form
  have hcap := hD.cap
  have CX := hid (index_any p f lb eg hD (Nat.le_refl _) (fun W x hb => hp W x (below_grow _ hb)))
  have HP := hid hp
  have HO := hid hO
  obtain ⟨n, hn⟩ : ∃ n, n = l.length := ⟨_, rfl⟩
  have HN := hid hn
  have hmx : n ≤ 100000 := by rw [hn]; exact hO.max
  have hc63 : c ≤ 9223372036854775807 := by unfold maxLen at hcm; omega
  rw [← hn] at hcap CX HP HO ⊢
  by_cases hidx : l.findIdx p < l.length
  case neg =>
    have hi : idx p l = -1 := if_neg hidx
    have hf : (l.filter fun x => !p x) = l := List.filter_eq_self.2 fun x hx => by
      cases hq : p x with
      | false => rfl
      | true => exact absurd (List.findIdx_lt_length.2 ⟨x, hx, hq⟩) hidx
    rw [hi] at CX
    rw [hf]
    clear hp hO hD hcm hob hn hi hf hidx
    go_enter Try.func35, Try.ntmps35
    go_wp2_with (first | (go_at_call 32; refine CX.out.mono ?_; rintro e w1 ⟨rfl, hb⟩) | go_in)
    go_ret
    exact ⟨_, rfl, hid ⟨HO.out.below hb.out, below_grow _ hb.out, .inl rfl⟩⟩
  case pos =>
    obtain ⟨k0, hk0⟩ : ∃ k0, k0 = l.findIdx p := ⟨_, rfl⟩
    have hi : idx p l = k0 := by rw [hk0]; exact if_pos hidx
    have hk0n : k0 < n := by omega
    have hcapn : 0 < n := by omega
    obtain ⟨g, cur0, rfl, _⟩ : ∃ (g : Nat) (cur : Array Value), A = some ⟨g, 0, none⟩ ∧ True := by
      rcases hO.own.2 with ⟨e, _⟩ | ⟨g, cap, cur, e, _⟩
      · injection e with _ e2 _
        omega
      · injection e with e1 e2 e3
        exact ⟨g, cur, e1, trivial⟩
    have hd0 : l[k0]? = some (l[k0]'(by omega)) := List.getElem?_eq_getElem (by omega)
    have hpk : p (l[k0]'(by omega)) = true := by subst hk0; exact List.findIdx_getElem
    have HST : Hid ((l.take (k0 + 1)).filter (fun x => !p x) = l.take k0) := hid (by
      rw [take_snoc hd0, List.filter_append, List.filter_cons_of_neg (by rw [hpk]; simp), List.filter_nil, List.append_nil]
      refine List.filter_eq_self.2 fun x hx => ?_
      obtain ⟨j, hj⟩ := List.mem_iff_getElem?.1 hx
      rw [List.getElem?_take] at hj
      split at hj
      · next hjk =>
        obtain ⟨hj1, rfl⟩ := List.getElem?_eq_some_iff.1 hj
        have := List.not_of_lt_findIdx (p := p) (xs := l) (i := j) (by omega)
        simpa using this
      · cases hj)
    rw [hi] at CX
    have hne1 : ¬ ((k0 : Int) = -1) := by omega
    clear hp hO hD hcm hob hn hi hidx hk0 hd0 hpk
    go_enter Try.func35, Try.ntmps35
    go_wp2_with (first | (go_at_call 32; refine CX.out.mono ?_; rintro e w1 ⟨rfl, hb⟩) | go_in)
    go_loopg [5, 6, 7] n (fun gg s5 s6 _ wr => ∃ (i j : Nat) (cur : List De), s5 = .int .i64 i ∧ s6 = .int .i64 j ∧ i < j ∧ j ≤ n ∧ n - j ≤ gg ∧ Hid (Od wr B (.slice (some ⟨g, 0, none⟩) n c) cur ∧ w.grownBy wr (some g)) ∧ Hid (cur.length = l.length ∧ cur.take i = (l.take j).filter (fun x => !p x) ∧ cur.drop j = l.drop j))
    case atStart => exact ⟨k0, k0 + 1, l, rfl, by go_num, by omega, by omega, by omega, hid ⟨HO.out.below hb.out, below_grow _ hb.out⟩, hid ⟨rfl, HST.out.symm, rfl⟩⟩
    case round =>
      obtain ⟨i, j, cur, rfl, rfl, hij, hjn, hgg, HW, HC⟩ := hrel
      obtain ⟨hrl, hBg, hgw, hnc, hfz, hcells⟩ := HW.out.1.row
      by_cases hlt : j < n
      · have hltz : (j : Int) < (n : Int) := by omega
        have hl := HN.out
        obtain ⟨hcl, hct, hcd⟩ := HC.out
        obtain ⟨d, hd⟩ : ∃ d, l[j]? = some d := ⟨_, List.getElem?_eq_getElem (by omega)⟩
        have hcj : cur[j]? = some d := by
          have h1 : (cur.drop j)[0]? = (l.drop j)[0]? := by rw [hcd]
          rw [List.getElem?_drop, List.getElem?_drop, Nat.add_zero, hd] at h1
          exact h1
        obtain ⟨u, hu⟩ : ∃ u, cur[i]? = some u := ⟨_, List.getElem?_eq_getElem (by omega)⟩
        obtain ⟨c1, c2⟩ := hcells j d hcj
        obtain ⟨c3, c4⟩ := hcells i u hu
        obtain ⟨d1, d2⟩ := d
        change wr.cell? ⟨g, j * 2, none⟩ = some (.int .i64 d1) at c1
        change wr.cell? ⟨g, j * 2 + 1, none⟩ = some (.int .i64 d2) at c2
        obtain ⟨wb, hwb⟩ : ∃ wb, wb = wr.alloc (.cells #[.int .i64 d1, .int .i64 d2] 23) := ⟨_, rfl⟩
        have b1 : Below wr.heap.size wr wb := hwb ▸ (Below.refl _ wr).alloc (Nat.le_refl _) _
        have hs1 : wb.heap.size = wr.heap.size + 1 := by rw [hwb]; simp
        have hbox : wb.heap[wr.heap.size]? = some (.cells #[.int .i64 d1, .int .i64 d2] 23 (0, 0)) := hwb ▸ heap_alloc_new wr _
        have HCL := hid (HP.out wb (d1, d2) (grown_on HW.out.2 (below_grow _ b1)))
        have x0 : wb.cell? ⟨wr.heap.size, 0, none⟩ = some (.int .i64 d1) := (cell_of_row wb _ 0 _ _ (0, 0) hbox).trans rfl
        have x1 : wb.cell? ⟨wr.heap.size, 1, none⟩ = some (.int .i64 d2) := (cell_of_row wb _ 1 _ _ (0, 0) hbox).trans rfl
        have HF : Hid (∀ w2, Below wb.heap.size wb w2 → w2.cell? ⟨wr.heap.size, 0, none⟩ = some (.int .i64 d1) ∧ w2.cell? ⟨wr.heap.size, 1, none⟩ = some (.int .i64 d2) ∧ w2.cell? ⟨g, i * 2, none⟩ = some (.int .i64 u.1) ∧ w2.cell? ⟨g, i * 2 + 1, none⟩ = some (.int .i64 u.2) ∧ Od w2 B (.slice (some ⟨g, 0, none⟩) n c) cur ∧ w.grownBy w2 (some g)) := hid fun w2 hb => by
          refine ⟨(hb.cell (p := ⟨wr.heap.size, 0, none⟩) (by show wr.heap.size < _; omega)).trans x0, (hb.cell (p := ⟨wr.heap.size, 1, none⟩) (by show wr.heap.size < _; omega)).trans x1, ?_, ?_, (HW.out.1.below b1).below hb, grown_on (grown_on HW.out.2 (below_grow _ b1)) (below_grow _ hb)⟩
          · exact ((hb.cell (p := ⟨g, i * 2, none⟩) (by show g < _; omega)).trans (b1.cell (p := ⟨g, i * 2, none⟩) hgw)).trans c3
          · exact ((hb.cell (p := ⟨g, i * 2 + 1, none⟩) (by show g < _; omega)).trans (b1.cell (p := ⟨g, i * 2 + 1, none⟩) hgw)).trans c4
        have HD := hid hd
        have hgne : g ≠ wr.heap.size := by omega
        clear hcl hct hcd hd hcj hu hbox b1 hs1 hcells hl hrl c3 c4 hfz
        cases hq : p (d1, d2) with
        | false =>
          rw [hq] at HCL
          have HQ := hid hq
          clear hq
          go_upto_region 8 with fail
          rw [← hwb]
          clear hwb
          go_wp2_with fail
          refine HCL.out.mono ?_
          rintro e w2 ⟨rfl, hb⟩
          obtain ⟨y0, y1, y2, y3, yO, yG⟩ := HF.out w2 hb.out
          have hfz := yO.row.2.2.2.2.1
          have f0 := hfz (i * 2)
          have f1 := hfz (i * 2 + 1)
          have HY := hid (Od.put yO i (d1, d2))
          have HG := hid yG
          clear yO yG hfz hb
          go_wp2
          go_roundg (n - (j + 1))
          case measure => omega
          case rel =>
            refine ⟨i + 1, j + 1, cur.set i (d1, d2), by go_num, by go_num, by omega, by omega, by omega, hid ⟨HY.out.1, grown_on HG.out HY.out.2⟩, hid ?_⟩
            obtain ⟨h1, h2, h3⟩ := HC.out
            obtain ⟨h4, h5, h6⟩ := put_step (d := (d1, d2)) hij (by have := HN.out; omega) h1 h2 h3
            refine ⟨h4, ?_, h6⟩
            rw [h5, take_snoc HD.out, List.filter_append, List.filter_cons_of_pos (by rw [HQ.out]; rfl), List.filter_nil]
        | true =>
          rw [hq] at HCL
          have HQ := hid hq
          clear hq
          go_upto_region 8 with fail
          rw [← hwb]
          clear hwb
          go_wp2_with fail
          refine HCL.out.mono ?_
          rintro e w2 ⟨rfl, hb⟩
          obtain ⟨y0, y1, y2, y3, yO, yG⟩ := HF.out w2 hb.out
          have HY := hid (And.intro yO yG)
          clear yO yG hb y0 y1 y2 y3
          go_wp2
          go_roundg (n - (j + 1))
          case measure => omega
          case rel =>
            refine ⟨i, j + 1, cur, rfl, by go_num, by omega, by omega, by omega, hid ⟨HY.out.1, HY.out.2⟩, hid ?_⟩
            obtain ⟨h1, h2, h3⟩ := HC.out
            refine ⟨h1, ?_, ?_⟩
            · rw [take_snoc HD.out, List.filter_append, List.filter_cons_of_neg (by rw [HQ.out]; simp), List.filter_nil, List.append_nil]
              exact h2
            · rw [← List.drop_drop, h3, List.drop_drop]
      · have hltz : ¬ (j : Int) < (n : Int) := by omega
        obtain rfl : j = n := by omega
        obtain ⟨w3, hcl, hO3, hg3⟩ := run_clearD HW.out.1 (show i ≤ j by omega)
        have HR := hid (And.intro hO3 hg3)
        have hci : ¬ (c = i) := by omega
        have hij2 : i ≤ j := by omega
        clear hO3 hg3 hfz hcells hrl
        go_wp2
        go_ret
        refine ⟨_, rfl, hid ⟨?_, grown_on HW.out.2 HR.out.2, .inl rfl⟩⟩
        obtain ⟨h1, h2, h3⟩ := HC.out
        have h4 : (l.take j).filter (fun x => !p x) = l.filter (fun x => !p x) := by rw [List.take_of_length_le (by rw [HN.out]; exact Nat.le_refl _)]
        rw [← h4, ← h2]
        exact HR.out.1
end Go.Proofs.Ytgcmljnjfghagaa.Tm
