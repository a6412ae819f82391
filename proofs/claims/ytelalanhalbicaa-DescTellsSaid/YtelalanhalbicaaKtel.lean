/- DescTells, walked. -/
import Derived.Test.YtelalanhalbicaaKbes
namespace Go.Proofs.Ytelalanhalbicaa
open Go.RowKit Go.Shelf Go.Lib

theorem grown_refl (w : World) (o : Option Nat) : w.grownBy w o := ⟨rfl, rfl, rfl, Nat.le_refl _, fun _ _ _ => rfl⟩
theorem grown_then {w wr w' : World} {o : Option Nat} (h : w.grownBy wr o) (k : wr.grownBy w' o) : w.grownBy w' o :=
  ⟨k.os.trans h.os, k.tape.trans h.tape, k.output.trans h.output, Nat.le_trans h.size k.size, fun j hj hne => (k.block j (Nat.lt_of_lt_of_le hj h.size) hne).trans (h.block j hj hne)⟩
/-- The row of a list of the call's own, whatever stands in it. -/
def RowAt (w : World) (A : Option Addr) (m c : Nat) : Prop := 0 < m → ∃ (g : Nat) (cur : Array Value), A = some ⟨g, 0, none⟩ ∧ w.heap[g]? = some (.cells cur 26 (0, 0)) ∧ m * 2 ≤ cur.size ∧ m ≤ c
theorem Od.rowAt {w : World} {B m c : Nat} {A : Option Addr} {l : List De} (h : Od w B (.slice A m c) l) : RowAt w A m c := fun hm => by
  rcases h.own.2 with ⟨e, _⟩ | ⟨g, cap, cur, e, _, hg, hn, _, hs, _⟩
  · injection e with _ e2 _
    omega
  · injection e with e1 e2 e3
    exact ⟨g, cur, e1, hg, by omega, by omega⟩
theorem RowAt.other {w w' : World} {A : Option Addr} {m c : Nat} {u : Value} (h : RowAt w A m c) (hg : w.grownBy w' u.ownBlock) (hne : ∀ g, A = some ⟨g, 0, none⟩ → u.ownBlock ≠ some g) : RowAt w' A m c := fun hm => by
  obtain ⟨g, cur, e, h1, h2, h3⟩ := h hm
  exact ⟨g, cur, e, (hg.block g (lt_of_heap h1) (fun e2 => hne g e e2.symm)).trans h1, h2, h3⟩
theorem RowAt.below {w w' : World} {A : Option Addr} {m c : Nat} (h : RowAt w A m c) (hb : Below w.heap.size w w') : RowAt w' A m c := fun hm => by
  obtain ⟨g, cur, e, h1, h2, h3⟩ := h hm
  exact ⟨g, cur, e, (hb.block g (lt_of_heap h1)).trans h1, h2, h3⟩
/-- A store into the row. -/
theorem RowAt.store {w : World} {A : Option Addr} {m c g k : Nat} {cur : Array Value} (hA : A = some ⟨g, 0, none⟩) (hg : w.heap[g]? = some (.cells cur 26 (0, 0))) (h2 : m * 2 ≤ cur.size) (h3 : m ≤ c) (u : Value) :
    RowAt (w.setCell ⟨g, k, none⟩ u) A m c ∧ w.grownBy (w.setCell ⟨g, k, none⟩ u) (Value.slice A m c).ownBlock := by
  refine ⟨fun _ => ⟨g, _, hA, heap_setCell_same w g k cur _ u hg, by simpa using h2, h3⟩, ⟨rfl, rfl, rfl, by simp [World.setCell], fun j hj hne => Below.heap_setCell w ⟨g, k, none⟩ u j (fun e => hne ?_)⟩⟩
  rw [hA, e]
  rfl
theorem grown_below {w w' : World} {A : Option Addr} {m c B : Nat} (h : w.grownBy w' (Value.slice A m c).ownBlock) (hA : ∀ k, (Value.slice A m c).ownBlock = some k → B ≤ k) (hB : B ≤ w.heap.size) : Below B w w' :=
  ⟨h.os, h.tape, h.output, h.size, fun k hk => h.block k (by omega) (fun e => by have := hA k e.symm; omega)⟩

set_option maxHeartbeats 6400000 in
set_option maxRecDepth 100000 in
theorem tel_walk {w : World} {n c m d : Nat} {A D : Option Addr} {l r : List De} (h : Ds w w.heap.size A n c l) (k : Ds w w.heap.size D m d r) (a b : De) :
    Calls Try.prog 4 #[.slice A n c, .slice D m d, dv a, dv b] w fun e w' => e = .returned (.bool true) ∧ Below w.heap.size w w' := by
  have H0 := hid h
  have K0 := hid k
  have hm := h.max
  have hm2 := k.max
  have hcap := h.cap
  have hcap2 := k.cap
  have HL := hid h.len
  clear h k
  have C1 := hid (fun X => dFresher_any a b X)
  have C2 := hid (fun X => rFresher_any a b X)
  generalize frB a b = fb at C1 C2
  generalize frE a b = fe at C1 C2
  obtain ⟨a1, a2⟩ := a
  obtain ⟨b1, b2⟩ := b
  obtain ⟨W, hW⟩ : ∃ W, W = (w.alloc (.cells #[.int .i64 a1, .int .i64 a2] 26)).alloc (.cells #[.int .i64 b1, .int .i64 b2] 26) := ⟨_, rfl⟩
  have B0 := hid (show Below w.heap.size w W from hW ▸ ((Below.refl _ w).alloc (Nat.le_refl _) _).alloc (by simp) _)
  have h0 : W.heap[w.heap.size]? = some (.cells #[.int .i64 a1, .int .i64 a2] 26 (0, 0)) := hW ▸ (Below.heap_alloc _ _ _ (by simp)).trans (heap_alloc_new w _)
  have h1 : W.heap[w.heap.size + 1]? = some (.cells #[.int .i64 b1, .int .i64 b2] 26 (0, 0)) := hW ▸ new_row (by simp)
  have hw2 : w.heap.size + 1 < W.heap.size := lt_of_heap h1
  have HX : Hid (∀ X, Below W.heap.size W X → X.cell? ⟨w.heap.size, 0, none⟩ = some (.int .i64 a1) ∧ X.cell? ⟨w.heap.size, 1, none⟩ = some (.int .i64 a2) ∧ X.cell? ⟨w.heap.size + 1, 0, none⟩ = some (.int .i64 b1) ∧ X.cell? ⟨w.heap.size + 1, 1, none⟩ = some (.int .i64 b2)) := hid fun X hb =>
    ⟨(hb.cell (p := ⟨w.heap.size, 0, none⟩) (by show w.heap.size < _; omega)).trans ((cell_of_row W _ 0 _ _ (0, 0) h0).trans rfl), (hb.cell (p := ⟨w.heap.size, 1, none⟩) (by show w.heap.size < _; omega)).trans ((cell_of_row W _ 1 _ _ (0, 0) h0).trans rfl),
     (hb.cell (p := ⟨w.heap.size + 1, 0, none⟩) hw2).trans ((cell_of_row W _ 0 _ _ (0, 0) h1).trans rfl), (hb.cell (p := ⟨w.heap.size + 1, 1, none⟩) hw2).trans ((cell_of_row W _ 1 _ _ (0, 0) h1).trans rfl)⟩
  have HW := hid hW
  clear hW h0 h1 hw2
  change Hid (∀ X, Calls Try.prog _ #[.agg #[.int .i64 a1, .int .i64 a2], .agg #[.int .i64 b1, .int .i64 b2]] X _) at C1
  change Hid (∀ X, Calls Try.prog _ #[.agg #[.int .i64 a1, .int .i64 a2], .agg #[.int .i64 b1, .int .i64 b2]] X _) at C2
  have H := hid (H0.out.below B0.out)
  have K := hid (K0.out.below B0.out)
  clear H0 K0
  show Calls Try.prog 4 #[.slice A n c, .slice D m d, .agg #[.int .i64 a1, .int .i64 a2], .agg #[.int .i64 b1, .int .i64 b2]] w _
  by_cases hbig : 70 < n
  case pos =>
    have hz : (70 : Int) < (n : Int) := by omega
    go_enter Try.func4, Try.ntmps4
    go_upto_region 1 with fail
    rw [← HW.out]
    go_wp2
    go_ret
    exact ⟨rfl, B0.out⟩
  have hz : ¬ (70 : Int) < (n : Int) := by omega
  by_cases hbig2 : 70 < m
  case pos =>
    have hz2 : (70 : Int) < (m : Int) := by omega
    go_enter Try.func4, Try.ntmps4
    go_upto_region 1 with fail
    rw [← HW.out]
    go_wp2
    go_ret
    exact ⟨rfl, B0.out⟩
  have hz2 : ¬ (70 : Int) < (m : Int) := by omega
  have hn70 : n ≤ 70 := by omega
  clear hbig hbig2
  have HN := hid hn70
  go_enter Try.func4, Try.ntmps4
  go_upto_region 1 with fail
  rw [← HW.out]
  clear HW
  have HE := hid (empty_new W (Nat.le_refl _))
  have F1 := hid (H.out.below ((Below.refl _ W).alloc B0.out.size (.cells #[] 26)))
  have hsz := hid (show W.heap.size ≤ (W.alloc (.cells #[] 26)).heap.size by simp)
  go_upto_region 4 with (first | (at_builtin; refine list_appD rfl (.tmp 34) (.tmp 35) rfl (v := .slice (some ⟨W.heap.size, 0, none⟩) 0 0) (B := W.heap.size) (l := []) (r := l) rfl rfl HE.out F1.out (by have := HN.out; simp only [List.length_nil]; omega) hsz.out ?_; intro v36 w36 HT1) | fail)
  have Cw := hid (((Below.refl W.heap.size W).alloc (Nat.le_refl _) (.cells #[] 26)).trans (HT1.out.below (own_new (Nat.le_refl _)) hsz.out))
  have B36 := hid (B0.out.trans (Cw.out.mono B0.out.size))
  have O36 := hid HT1.out.own
  rw [List.nil_append] at O36
  clear HT1 HE F1 hsz
  obtain ⟨A6, c6, rfl, D6, _, _⟩ := O36.out.form
  rw [HL.out] at D6 ⊢
  have D6 := hid D6
  clear O36
  replace H := hid (H.out.below (Cw.out.mono B0.out.size))
  replace K := hid (K.out.below (Cw.out.mono B0.out.size))
  obtain ⟨x, hx⟩ : ∃ x, x = chk l := ⟨_, rfl⟩
  have CO := hid (order_any D6.out (Nat.le_refl _))
  have CRO := hid (fun X (hb : Below w36.heap.size w36 X) => rOrder_any (H.out.below (hb.mono B36.out.size)) (Nat.le_trans B36.out.size hb.size))
  have CBE := hid (fun X (hb : Below w36.heap.size w36 X) => best_any (D6.out.below hb) hb.size)
  have CRB := hid (fun X (hb : Below w36.heap.size w36 X) => rBest_any (H.out.below (hb.mono B36.out.size)) (Nat.le_trans B36.out.size hb.size))
  have CK := hid (fun X (hb : Below w36.heap.size w36 X) => check_any (D6.out.below hb) hb.size)
  have CRK := hid (fun X (hb : Below w36.heap.size w36 X) => rcheck_any (H.out.below (hb.mono B36.out.size)) (Nat.le_trans B36.out.size hb.size))
  have CS1 := hid (fun X (hb : Below w36.heap.size w36 X) => dsame_any (D6.out.below hb) (K.out.below (hb.mono B36.out.size)) hb.size (Nat.le_trans B36.out.size hb.size))
  have CS2 := hid (fun X (hb : Below w36.heap.size w36 X) => rsame_any (H.out.below (hb.mono B36.out.size)) (K.out.below (hb.mono B36.out.size)) (Nat.le_trans B36.out.size hb.size) (Nat.le_trans B36.out.size hb.size))
  have CS3 := hid (fun X (hb : Below w36.heap.size w36 X) => dsame_any (D6.out.below hb) (H.out.below (hb.mono B36.out.size)) hb.size (Nat.le_trans B36.out.size hb.size))
  have CS4 := hid (fun X (hb : Below w36.heap.size w36 X) => rsame_any (D6.out.below hb) (H.out.below (hb.mono B36.out.size)) hb.size (Nat.le_trans B36.out.size hb.size))
  rw [← hx] at CO CRO CBE CRB CK CRK
  rw [show decide (l = l) = true from decide_eq_true rfl] at CS3 CS4
  generalize decide (l = r) = sm at CS1 CS2
  clear hx
  generalize orr l = lo at CO CRO
  generalize bst l = lb at CBE CRB
  have J0 := hid (Below.refl w36.heap.size w36)
  go_wp2_with fail
  refine CO.out.mono ?_
  rintro e y1 ⟨vx, rfl, hx⟩
  have J1 := hid (J0.out.trans hx.out.2)
  have Ox := hid hx.out.1
  clear hx CO
  go_wp2_with fail
  refine (CRO.out _ J1.out).mono ?_
  rintro e y2 ⟨vy, rfl, hy⟩
  have J2 := hid (J1.out.trans (hy.out.2.mono J1.out.size))
  have Oy := hid hy.out.1
  replace Ox := hid (Ox.out.below hy.out.2)
  clear hy CRO
  go_wp2_with fail
  refine (CBE.out _ J2.out).mono ?_
  rintro e y3 ⟨vp, rfl, hp⟩
  have J3 := hid (J2.out.trans (hp.out.2.mono J2.out.size))
  have S3 := hid hp.out.2.size
  have W36 := hid J2.out.size
  have Op := hid hp.out.1
  have HXP : Hid (∀ g, vx.ownBlock = some g → g < y2.heap.size) := hid fun g e => (own_lt Ox.out g e).2
  replace Ox := hid (Ox.out.below hp.out.2)
  replace Oy := hid (Oy.out.below hp.out.2)
  clear hp CBE
  go_wp2_with fail
  refine (CRB.out _ J3.out).mono ?_
  rintro e y4 ⟨vq, rfl, hq⟩
  have J4 := hid (J3.out.trans (hq.out.2.mono J3.out.size))
  replace S3 := hid (Nat.le_trans S3.out hq.out.2.size)
  have Oq := hid hq.out.1
  replace Ox := hid (Ox.out.below hq.out.2)
  replace Oy := hid (Oy.out.below hq.out.2)
  replace Op := hid (Op.out.below hq.out.2)
  clear hq CRB
  obtain ⟨z1, z2, z3, z4⟩ := HX.out y4 (Cw.out.trans (J4.out.mono Cw.out.size))
  go_wp2_with fail
  refine (C1.out _).mono ?_
  rintro e y5 ⟨rfl, hb⟩
  have J5 := hid (J4.out.trans (hb.out.mono J4.out.size))
  replace S3 := hid (Nat.le_trans S3.out hb.out.size)
  replace Ox := hid (Ox.out.below hb.out)
  replace Oy := hid (Oy.out.below hb.out)
  replace Op := hid (Op.out.below hb.out)
  replace Oq := hid (Oq.out.below hb.out)
  clear hb z1 z2 z3 z4
  obtain ⟨z1, z2, z3, z4⟩ := HX.out y5 (Cw.out.trans (J5.out.mono Cw.out.size))
  go_wp2_with fail
  refine (C2.out _).mono ?_
  rintro e y6 ⟨rfl, hb⟩
  have J6 := hid (J5.out.trans (hb.out.mono J5.out.size))
  replace S3 := hid (Nat.le_trans S3.out hb.out.size)
  replace Ox := hid (Ox.out.below hb.out)
  replace Oy := hid (Oy.out.below hb.out)
  replace Op := hid (Op.out.below hb.out)
  replace Oq := hid (Oq.out.below hb.out)
  clear hb z1 z2 z3 z4 C1 C2 HX
  obtain ⟨Ax, cx, rfl, Dx, _, _⟩ := Ox.out.form
  obtain ⟨Ay, cy, rfl, Dy, _, _⟩ := Oy.out.form
  obtain ⟨Ap, cp, rfl, Dp, _, _⟩ := Op.out.form
  obtain ⟨Aq, cq, rfl, Dq, _, _⟩ := Oq.out.form
  have CX := hid (fun X (hb : Below y6.heap.size y6 X) => rsame_any (Dx.below hb) (Dy.below hb) hb.size hb.size)
  have CP := hid (fun X (hb : Below y6.heap.size y6 X) => rsame_any (Dp.below hb) (Dq.below hb) hb.size hb.size)
  rw [show decide (lo = lo) = true from decide_eq_true rfl] at CX
  rw [show decide (lb = lb) = true from decide_eq_true rfl] at CP
  have hcx := Dx.cap
  have hmx := Dx.max
  have hcp := Dp.cap
  have hmp := Dp.max
  have RX := hid Ox.out.rowAt
  have RP := hid Op.out.rowAt
  have LX : Hid (∀ g, (Value.slice Ax lo.length cx).ownBlock = some g → w36.heap.size ≤ g) := hid fun g e => (own_lt Ox.out g e).1
  have LP : Hid (∀ g, (Value.slice Ap lb.length cp).ownBlock = some g → y2.heap.size ≤ g) := hid fun g e => (own_lt Op.out g e).1
  generalize lo.length = nx at *
  generalize lb.length = np at *
  have K6 := hid (Below.refl y6.heap.size y6)
  clear Dx Dy Dp Dq Ox Oy Op Oq
  go_wp2_with fail
  refine (CK.out _ J6.out).mono ?_
  rintro e u1 ⟨rfl, hb⟩
  have Ju1 := hid (J6.out.trans (hb.out.mono J6.out.size))
  have Ku1 := hid (K6.out.trans (hb.out.mono K6.out.size))
  clear hb CK
  go_wp2_with fail
  refine (CRK.out _ Ju1.out).mono ?_
  rintro e u2 ⟨rfl, hb⟩
  have Ju2 := hid (Ju1.out.trans (hb.out.mono Ju1.out.size))
  have Ku2 := hid (Ku1.out.trans (hb.out.mono Ku1.out.size))
  clear hb CRK
  go_wp2_with fail
  refine (CX.out _ Ku2.out).mono ?_
  rintro e u3 ⟨rfl, hb⟩
  have Ju3 := hid (Ju2.out.trans (hb.out.mono Ju2.out.size))
  have Ku3 := hid (Ku2.out.trans (hb.out.mono Ku2.out.size))
  clear hb CX
  go_wp2_with fail
  refine (CP.out _ Ku3.out).mono ?_
  rintro e u4 ⟨rfl, hb⟩
  have Ju4 := hid (Ju3.out.trans (hb.out.mono Ju3.out.size))
  have Ku4 := hid (Ku3.out.trans (hb.out.mono Ku3.out.size))
  clear hb CP
  go_wp2_with fail
  refine (CS1.out _ Ju4.out).mono ?_
  rintro e u5 ⟨rfl, hb⟩
  have Ju5 := hid (Ju4.out.trans (hb.out.mono Ju4.out.size))
  have Ku5 := hid (Ku4.out.trans (hb.out.mono Ku4.out.size))
  clear hb CS1
  go_wp2_with fail
  refine (CS2.out _ Ju5.out).mono ?_
  rintro e u6 ⟨rfl, hb⟩
  have Ju6 := hid (Ju5.out.trans (hb.out.mono Ju5.out.size))
  have Ku6 := hid (Ku5.out.trans (hb.out.mono Ku5.out.size))
  clear hb CS2
  go_wp2_with fail
  refine (CS3.out _ Ju6.out).mono ?_
  rintro e u7 ⟨rfl, hb⟩
  have Ju7 := hid (Ju6.out.trans (hb.out.mono Ju6.out.size))
  have Ku7 := hid (Ku6.out.trans (hb.out.mono Ku6.out.size))
  clear hb CS3
  replace RX := hid (RX.out.below Ku7.out)
  replace RP := hid (RP.out.below Ku7.out)
  replace S3 := hid (Nat.le_trans S3.out Ku7.out.size)
  clear Ku1 Ku2 Ku3 Ku4 Ku5 Ku6 Ku7 Ju1 Ju2 Ju3 Ju4 Ju5 Ju6 J0 J1 J2 J3 J4 J5 J6 K6
  go_wp2
  go_loopg [24] nx (fun gg s24 wr => ∃ kk : Nat, kk ≤ nx ∧ nx - kk ≤ gg ∧ s24 = .int .i64 kk ∧ Hid (RowAt wr Ax nx cx) ∧ Hid (u7.grownBy wr (Value.slice Ax nx cx).ownBlock))
  case atStart => exact ⟨0, Nat.zero_le _, by omega, rfl, RX, hid (grown_refl u7 _)⟩
  case round =>
    obtain ⟨kk, hkk, hg, rfl, RK, GK⟩ := hrel
    by_cases hlt : kk < nx
    case pos =>
      have hltz : (kk : Int) < (nx : Int) := by omega
      obtain ⟨g, cur, rfl, hgc, hs, hc⟩ := RK.out (by omega)
      obtain ⟨u, hu⟩ : ∃ u, cur[kk * 2]? = some u := ⟨_, Array.getElem?_eq_getElem (by omega)⟩
      have hcell : wr.cell? ⟨g, kk * 2, none⟩ = some u := (cell_of_row wr g _ cur _ (0, 0) hgc).trans hu
      have hfz : wr.frozen? ⟨g, kk * 2, none⟩ = false := frozen_of_row wr g _ cur _ hgc
      have HST := hid (RowAt.store (k := kk * 2) (m := nx) (c := cx) rfl hgc hs hc (.int .i64 (-7)))
      clear hgc hs hc hu
      go_wp2
      go_roundg (nx - (kk + 1))
      case measure => omega
      case rel => exact ⟨kk + 1, by omega, by omega, by go_num, hid HST.out.1, hid (grown_then GK.out HST.out.2)⟩
    have hltz : ¬ (kk : Int) < (nx : Int) := by omega
    obtain rfl : kk = nx := by omega
    have Jx := hid (Ju7.out.trans (grown_below GK.out LX.out Ju7.out.size))
    have RQ := hid (RP.out.other GK.out (fun g e1 e2 => by
      have h1 := HXP.out g e2
      have h2 := LP.out g (by rw [e1]; rfl)
      omega))
    have S4 := hid (Nat.le_trans S3.out GK.out.size)
    clear RK GK RP HXP
    go_wp2
    go_loopg [25] np (fun gg s25 wx => ∃ j : Nat, j ≤ np ∧ np - j ≤ gg ∧ s25 = .int .i64 j ∧ Hid (RowAt wx Ap np cp) ∧ Hid (wr.grownBy wx (Value.slice Ap np cp).ownBlock))
    case atStart => exact ⟨0, Nat.zero_le _, by omega, rfl, RQ, hid (grown_refl wr _)⟩
    case round =>
      obtain ⟨j, hj, hg, rfl, RK, GK⟩ := hrel
      by_cases hlt : j < np
      case pos =>
        have hltz : (j : Int) < (np : Int) := by omega
        obtain ⟨g, cur, rfl, hgc, hs, hc⟩ := RK.out (by omega)
        obtain ⟨u, hu⟩ : ∃ u, cur[j * 2]? = some u := ⟨_, Array.getElem?_eq_getElem (by omega)⟩
        have hcell : wr.cell? ⟨g, j * 2, none⟩ = some u := (cell_of_row wr g _ cur _ (0, 0) hgc).trans hu
        have hfz : wr.frozen? ⟨g, j * 2, none⟩ = false := frozen_of_row wr g _ cur _ hgc
        have HST := hid (RowAt.store (k := j * 2) (m := np) (c := cp) rfl hgc hs hc (.int .i64 (-7)))
        clear hgc hs hc hu
        go_wp2
        go_roundg (np - (j + 1))
        case measure => omega
        case rel => exact ⟨j + 1, by omega, by omega, by go_num, hid HST.out.1, hid (grown_then GK.out HST.out.2)⟩
      have hltz2 : ¬ (j : Int) < (np : Int) := by omega
      obtain rfl : j = np := by omega
      have Jy := hid (Jx.out.trans (grown_below GK.out (fun g e => Nat.le_trans W36.out (LP.out g e)) Jx.out.size))
      go_wp2_with fail
      refine (CS4.out _ Jy.out).mono ?_
      rintro e v1 ⟨rfl, hb⟩
      go_wp2
      go_ret
      exact ⟨rfl, B36.out.trans ((Jy.out.trans (hb.out.mono Jy.out.size)).mono B36.out.size)⟩
end Go.Proofs.Ytelalanhalbicaa
