/- slices.Compact over timers. -/
import Derived.Test.YtgcmljnjfghagaaTw
import Derived.Test.YtgcmljnjfghagaaTr
namespace Go.Proofs.Ytgcmljnjfghagaa.Tm
open Go.RowKit Go.Shelf Go.Lib
set_option maxRecDepth 100000

theorem dd_last {l : List De} {m : Nat} {y : De} (h : l[m]? = some y) : (dd (l.take (m + 1))).getLast? = some y := by
  rw [(dd_ok _).1, take_snoc h, List.getLast?_append]
  rfl
theorem dd_same {l : List De} {m : Nat} {y : De} (h : l[m]? = some y) (k : l[m + 1]? = some y) : dd (l.take (m + 1 + 1)) = dd (l.take (m + 1)) := by
  rw [take_snoc k, dd_snoc]
  unfold ddS
  rw [if_pos (dd_last h)]
theorem dd_diff {l : List De} {m : Nat} {x y : De} (h : l[m]? = some y) (k : l[m + 1]? = some x) (hne : x ≠ y) : dd (l.take (m + 1 + 1)) = dd (l.take (m + 1)) ++ [x] := by
  rw [take_snoc k, dd_snoc]
  unfold ddS
  rw [if_neg (by rw [dd_last h]; intro e; injection e with e; exact hne e.symm)]
theorem dd_short {l : List De} (h : l.length < 2) : dd l = l := by
  match l, h with
  | [], _ => rfl
  | [x], _ => rfl
theorem put_on {cur l : List De} {i p : Nat} {d : De} {F : List De} (hip : i ≤ p) (hp : p + 1 < l.length) (hc : cur.length = l.length) (h1 : cur.take i = F) (h2 : cur.drop p = l.drop p) : (cur.set i d).length = l.length ∧ (cur.set i d).take (i + 1) = F ++ [d] ∧ (cur.set i d).drop (p + 1) = l.drop (p + 1) := by
  refine ⟨by rw [List.length_set]; exact hc, ?_, ?_⟩
  · rw [List.take_add_one, List.take_set, h1, List.set_eq_of_length_le (by rw [← h1, List.length_take]; omega), List.getElem?_set_self (by omega)]
    rfl
  · rw [List.drop_set_of_lt (by omega), ← List.drop_drop, h2, List.drop_drop]
theorem drop_get {cur l : List De} {p : Nat} (h : cur.drop p = l.drop p) (k : Nat) : cur[p + k]? = l[p + k]? := by
  rw [← List.getElem?_drop, ← List.getElem?_drop, h]

set_option maxHeartbeats 6400000 in
theorem compact_any {w : World} {B : Nat} {v : Value} {l : List De} (hO : Od w B v l) :
    Calls Try.prog 39 #[v] w fun e w' => ∃ v', e = .returned v' ∧ Hid (Od w' B v' (dd l) ∧ w.grownBy w' v.ownBlock) := by
  obtain ⟨A, n, c, rfl, _, _⟩ := od_letter hO
  have hn := hO.row_len
  have hmx : n ≤ 100000 := by rw [← hn]; exact hO.max
  have HO := hid hO
  have HN := hid hn
  by_cases h2 : n < 2
  case pos =>
    have hz : (n : Int) < 2 := by omega
    have hd := dd_short (by rw [hn]; exact h2)
    clear hn hO
    go_enter Try.func39, Try.ntmps39
    go_wp2
    go_ret
    exact ⟨_, rfl, hid ⟨by rw [hd]; exact HO.out, grown_self _ _⟩⟩
  obtain ⟨g, rfl⟩ : ∃ g, A = some ⟨g, 0, none⟩ := by
    rcases hO.own.2 with ⟨e, h0⟩ | ⟨g, cap, cur, e, _⟩
    · omega
    · injection e with e1 _ _
      exact ⟨g, e1⟩
  have hz : ¬ (n : Int) < 2 := by omega
  have hcap : n ≤ c := hO.row.2.2.2.1
  have hc63 : c ≤ 9223372036854775807 := by
    obtain ⟨A', c', e, _, hcm, _⟩ := hO.form
    injection e with _ _ e3
    subst e3
    unfold maxLen at hcm
    omega
  have mixed : Try.prog.follows .mixedOrders = true := by kernel_rfl
  have hgd := grdD
  clear hn hO
  go_enter Try.func39, Try.ntmps39
  go_wp2
  go_loopg [3, 4, 5] n (fun gg s3 _ _ wr => ∃ k : Nat, s3 = .int .i64 k ∧ 1 ≤ k ∧ k ≤ n ∧ n - k ≤ gg ∧ Hid (dd (l.take k) = l.take k) ∧ Hid (Below w.heap.size w wr))
  case atStart => exact ⟨1, rfl, by omega, by omega, by omega, hid (dd_short (by rw [List.length_take]; omega)), hid (Below.refl _ _)⟩
  case round =>
    obtain ⟨k, rfl, hk1, hk, hg, HD, BW⟩ := hrel
    have HOr := hid (HO.out.below BW.out)
    obtain ⟨_, hBg, hgw, _, hfz, hcells⟩ := HOr.out.row
    by_cases hlt : k < n
    case neg =>
      have hltz : ¬ (k : Int) < (n : Int) := by omega
      obtain rfl : k = n := by omega
      go_wp2
      go_ret
      refine ⟨_, rfl, hid ⟨?_, below_grow _ BW.out⟩⟩
      have h1 := HD.out
      rw [List.take_of_length_le (by rw [HN.out]; exact Nat.le_refl _)] at h1
      rw [h1]
      exact HOr.out
    have hltz : (k : Int) < (n : Int) := by omega
    obtain ⟨m, hm⟩ : ∃ m, k = m + 1 := ⟨k - 1, by omega⟩
    have hkm : (k : Int) - 1 = (m : Int) := by omega
    have hmn : (m : Int) < (n : Int) := by omega
    have hwm : IntKind.i64.wrap (m : Int) = (m : Int) := by rw [IntKind.wrap_i64]; omega
    have HM := hid hm
    obtain ⟨y, hy⟩ : ∃ y, l[m]? = some y := ⟨_, List.getElem?_eq_getElem (by have := HN.out; omega)⟩
    obtain ⟨x, hx⟩ : ∃ x, l[k]? = some x := ⟨_, List.getElem?_eq_getElem (by have := HN.out; omega)⟩
    obtain ⟨c1, c2⟩ := hcells k x hx
    obtain ⟨c3, c4⟩ := hcells m y hy
    have HX := hid (And.intro (hm ▸ hx) hy)
    obtain ⟨x1, x2⟩ := x
    obtain ⟨y1, y2⟩ := y
    change wr.cell? ⟨g, k * 2, none⟩ = some (.int .i64 x1) at c1
    change wr.cell? ⟨g, k * 2 + 1, none⟩ = some (.int .i64 x2) at c2
    change wr.cell? ⟨g, m * 2, none⟩ = some (.int .i64 y1) at c3
    change wr.cell? ⟨g, m * 2 + 1, none⟩ = some (.int .i64 y2) at c4
    clear hcells hx hy hfz hm
    by_cases hxy : (x1, x2) = (y1, y2)
    case neg =>
      have hq : ∀ W, Sem.run Try.prog (binOp .eql 23 (.agg #[.int .i64 x1, .int .i64 x2]) (.agg #[.int .i64 y1, .int .i64 y2])) W = .ok (.bool false) W := fun W => by rw [eqlD, decide_eq_false hxy]
      have HXY := hid hxy
      clear hxy
      go_wp2_with fail
      go_quiet_o (fail)
      go_wp2
      go_roundg (n - (k + 1))
      case measure => omega
      case rel =>
        refine ⟨k + 1, by go_num, by omega, by omega, by omega, hid ?_, hid (below_drewN BW.out _)⟩
        have h1 := HD.out
        rw [HM.out] at h1 ⊢
        rw [dd_diff HX.out.2 HX.out.1 HXY.out, h1, take_snoc HX.out.1]
    case pos =>
      have hq : ∀ W, Sem.run Try.prog (binOp .eql 23 (.agg #[.int .i64 x1, .int .i64 x2]) (.agg #[.int .i64 y1, .int .i64 y2])) W = .ok (.bool true) W := fun W => by rw [eqlD, decide_eq_true hxy]
      have HXY := hid hxy
      clear hxy
      go_wp2_with fail
      go_quiet_o (fail)
      go_upto_region 7 with fail
      generalize hwd : World.drewN wr _ = wd
      have BD := hid (show Below w.heap.size w wd from hwd ▸ below_drewN BW.out _)
      clear hwd c1 c2 c3 c4 hq
      have hs2 : Hid (n - k + k = n) := hid (by omega)
      obtain ⟨q, hq⟩ : ∃ q, q = n - k := ⟨_, rfl⟩
      have hqc : k ≤ c := by omega
      have HQ2 := hid (show q = n - k from hq)
      have HSS : Hid (dd (l.take (k + 1)) = l.take k) := hid (by
        have h1 := HD.out
        have h2 := HX.out.1
        have hxy := HXY.out
        rw [hxy] at h2
        rw [HM.out] at h1 ⊢
        rw [dd_same HX.out.2 h2, h1])
      go_wp2
      go_loopg [3, 5] n (fun gg s3 s5 wr => ∃ (i jj : Nat) (cur : List De), s3 = .int .i64 i ∧ s5 = .int .i64 jj ∧ 1 ≤ jj ∧ i + 1 ≤ k + jj ∧ k + jj ≤ n ∧ n - jj ≤ gg ∧ Hid (Od wr B (.slice (some ⟨g, 0, none⟩) n c) cur ∧ w.grownBy wr (some g)) ∧ Hid (cur.length = l.length ∧ cur.take i = dd (l.take (k + jj)) ∧ cur.drop (k + jj - 1) = l.drop (k + jj - 1)))
      case atStart => exact ⟨k, 1, l, rfl, rfl, by omega, by omega, by omega, by omega, hid ⟨HO.out.below BD.out, below_grow _ BD.out⟩, hid ⟨rfl, HSS.out.symm, rfl⟩⟩
      case round =>
        obtain ⟨i, jj, cur, rfl, rfl, hj1, hij, hjn, hgg, HW, HC⟩ := hrel
        obtain ⟨hrl, hBg2, hgw2, hnc2, hfz, hcells⟩ := HW.out.1.row
        by_cases hlt2 : k + jj < n
        case neg =>
          have hltz2 : ¬ (jj : Int) < ((n - k : Nat) : Int) := by omega
          have hin : i ≤ n := by omega
          obtain ⟨w3, hcl, hO3, hg3⟩ := run_clearD HW.out.1 hin
          have HR := hid (And.intro hO3 hg3)
          have hic : i ≤ c := by omega
          clear hO3 hg3 hfz hcells hrl
          go_wp2
          go_ret
          refine ⟨_, rfl, hid ⟨?_, grown_on HW.out.2 HR.out.2⟩⟩
          have h1 := HC.out.2.1
          rw [show k + jj = n by omega, show l.take n = l from List.take_of_length_le (by rw [HN.out]; exact Nat.le_refl _)] at h1
          rw [← h1]
          exact HR.out.1
        case pos =>
          have hltz2 : (jj : Int) < ((n - k : Nat) : Int) := by omega
          obtain ⟨j, hj⟩ : ∃ j, jj = j + 1 := ⟨jj - 1, by omega⟩
          have hjm : (jj : Int) - 1 = (j : Int) := by omega
          have hwj : IntKind.i64.wrap (j : Int) = (j : Int) := by rw [IntKind.wrap_i64]; omega
          have hjl : (j : Int) < ((n - k : Nat) : Int) := by omega
          have hil : (i : Int) < (n : Int) := by omega
          obtain ⟨x, hx⟩ : ∃ x, cur[k + jj]? = some x := ⟨_, List.getElem?_eq_getElem (by omega)⟩
          obtain ⟨y, hy⟩ : ∃ y, cur[k + j]? = some y := ⟨_, List.getElem?_eq_getElem (by omega)⟩
          obtain ⟨u, hu⟩ : ∃ u, cur[i]? = some u := ⟨_, List.getElem?_eq_getElem (by omega)⟩
          have HXL := hid (show l[k + j + 1]? = some x ∧ l[k + j]? = some y by
            have h1 := HC.out.2.2
            rw [show k + jj - 1 = k + j by omega] at h1
            have h2 := drop_get h1 1
            have h3 := drop_get h1 0
            rw [show k + j + 1 = k + jj by omega, hx] at h2
            rw [Nat.add_zero, hy] at h3
            exact ⟨by rw [show k + j + 1 = k + jj by omega]; exact h2.symm, h3.symm⟩)
          obtain ⟨c1, c2⟩ := hcells _ x hx
          obtain ⟨c3, c4⟩ := hcells _ y hy
          obtain ⟨c5, c6⟩ := hcells _ u hu
          obtain ⟨x1, x2⟩ := x
          obtain ⟨y1, y2⟩ := y
          rw [show (k + jj) * 2 = k * 2 + jj * 2 by omega] at c1 c2
          rw [show (k + j) * 2 = k * 2 + j * 2 by omega] at c3 c4
          change wr.cell? ⟨g, k * 2 + jj * 2, none⟩ = some (.int .i64 x1) at c1
          change wr.cell? ⟨g, k * 2 + jj * 2 + 1, none⟩ = some (.int .i64 x2) at c2
          change wr.cell? ⟨g, k * 2 + j * 2, none⟩ = some (.int .i64 y1) at c3
          change wr.cell? ⟨g, k * 2 + j * 2 + 1, none⟩ = some (.int .i64 y2) at c4
          have HJ := hid hj
          clear hj hx hy hu
          by_cases hxy : (x1, x2) = (y1, y2)
          case pos =>
            have hq : ∀ W, Sem.run Try.prog (binOp .neq 23 (.agg #[.int .i64 x1, .int .i64 x2]) (.agg #[.int .i64 y1, .int .i64 y2])) W = .ok (.bool false) W := fun W => by rw [neqD, decide_eq_true hxy]; rfl
            have HXY := hid hxy
            clear hxy
            go_wp2_with fail
            go_quiet_o (fail)
            go_wp2
            go_roundg (n - (jj + 1))
            case measure => omega
            case rel =>
              have hJ := HJ.out
              refine ⟨i, jj + 1, cur, rfl, by go_num, by omega, by omega, by omega, by omega, hid ⟨HW.out.1.below (below_drewN (Below.refl _ wr) _), grown_on HW.out.2 (below_grow _ (below_drewN (Below.refl _ wr) _))⟩, hid ⟨HC.out.1, ?_, ?_⟩⟩
              · have h2 := HXL.out.1
                rw [HXY.out] at h2
                have h3 := HC.out.2.1
                rw [hJ] at h3 ⊢
                rw [h3]
                exact (dd_same HXL.out.2 h2).symm
              · have h1 := HC.out.2.2
                rw [show k + (jj + 1) - 1 = k + jj - 1 + 1 by omega, ← List.drop_drop, h1, List.drop_drop]
          case neg =>
            have hq : ∀ W, Sem.run Try.prog (binOp .neq 23 (.agg #[.int .i64 x1, .int .i64 x2]) (.agg #[.int .i64 y1, .int .i64 y2])) W = .ok (.bool true) W := fun W => by rw [neqD, decide_eq_false hxy]; rfl
            have HXY := hid hxy
            clear hxy
            go_wp2_with fail
            go_quiet_o (fail)
            go_upto_region 12 with fail
            generalize hwd : World.drewN wr _ = we
            have BE := hid (show Below wr.heap.size wr we from hwd ▸ below_drewN (Below.refl _ wr) _)
            have OE := hid (HW.out.1.below BE.out)
            have hOr := OE.out.row
            obtain ⟨_, _, _, _, hfz2, hcells2⟩ := hOr
            have f0 := hfz2 (i * 2)
            have f1 := hfz2 (i * 2 + 1)
            have e1 : we.cell? ⟨g, k * 2 + jj * 2, none⟩ = some (.int .i64 x1) := (BE.out.cell (p := ⟨g, k * 2 + jj * 2, none⟩) hgw2).trans c1
            have e2 : we.cell? ⟨g, k * 2 + jj * 2 + 1, none⟩ = some (.int .i64 x2) := (BE.out.cell (p := ⟨g, k * 2 + jj * 2 + 1, none⟩) hgw2).trans c2
            have e5 := (BE.out.cell (p := ⟨g, i * 2, none⟩) hgw2).trans c5
            have e6 := (BE.out.cell (p := ⟨g, i * 2 + 1, none⟩) hgw2).trans c6
            have HY := hid (Od.put OE.out i (x1, x2))
            clear hwd c1 c2 c3 c4 c5 c6 hq hfz hfz2 hcells hcells2
            go_wp2
            go_roundg (n - (jj + 1))
            case measure => omega
            case rel =>
              have hJ := HJ.out
              have hn := HN.out
              obtain ⟨h1, h2, h3⟩ := HC.out
              have h4 := put_on (d := (x1, x2)) (i := i) (p := k + j) (cur := cur) (l := l) (by omega) (by omega) h1 h2 (by rw [show k + j = k + jj - 1 by omega]; exact h3)
              refine ⟨i + 1, jj + 1, cur.set i (x1, x2), by go_num, by go_num, by omega, by omega, by omega, by omega, hid ⟨HY.out.1, grown_on (grown_on HW.out.2 (below_grow _ BE.out)) HY.out.2⟩, hid ⟨h4.1, ?_, ?_⟩⟩
              · rw [h4.2.1, hJ]
                exact (dd_diff HXL.out.2 HXL.out.1 HXY.out).symm
              · rw [show k + (jj + 1) - 1 = k + j + 1 by omega]
                exact h4.2.2
end Go.Proofs.Ytgcmljnjfghagaa.Tm
