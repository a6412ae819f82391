/- CacheTells, walked. -/
import Derived.Test.YthklhhgkklpbkaaCofr
import Derived.Deep.RegionHeld3
namespace Go.Proofs.Ythklhhgkklpbkaa
open Go.RowKit Go.Shelf Go.Lib

/-- The row of a list of the call's own, whatever stands in it. -/
def RowC (w : World) (A : Option Addr) (m c : Nat) : Prop := 0 < m → ∃ (g : Nat) (cur : Array Value), A = some ⟨g, 0, none⟩ ∧ w.heap[g]? = some (.cells cur 29 (0, 0)) ∧ m * 2 ≤ cur.size ∧ m ≤ c
theorem Od.rowC {w : World} {B m c : Nat} {A : Option Addr} {l : List De} (h : Od w B (.slice A m c) l) : RowC w A m c := fun hm => by
  rcases h.own.2 with ⟨e, _⟩ | ⟨g, cap, cur, e, _, hg, hn, _, hs, _⟩
  · injection e with _ e2 _
    omega
  · injection e with e1 e2 e3
    exact ⟨g, cur, e1, hg, by omega, by omega⟩
theorem RowC.store {w : World} {A : Option Addr} {m c g k : Nat} {cur : Array Value} (hA : A = some ⟨g, 0, none⟩) (hg : w.heap[g]? = some (.cells cur 29 (0, 0))) (h2 : m * 2 ≤ cur.size) (h3 : m ≤ c) (u : Value) :
    RowC (w.setCell ⟨g, k, none⟩ u) A m c ∧ w.grownBy (w.setCell ⟨g, k, none⟩ u) (Value.slice A m c).ownBlock := by
  refine ⟨fun _ => ⟨g, _, hA, heap_setCell_same w g k cur _ u hg, by simpa using h2, h3⟩, ⟨rfl, rfl, rfl, by simp [World.setCell], fun j hj hne => Below.heap_setCell w ⟨g, k, none⟩ u j (fun e => hne ?_)⟩⟩
  rw [hA, e]
  rfl

set_option maxHeartbeats 1600000 in
theorem spoil8_any {w : World} {B : Nat} {v : Value} {l : List De} (h : Od w B v l) :
    Calls Try.prog 22 #[v] w fun e w' => e = .returned (.tuple #[]) ∧ Hid (w.grownBy w' v.ownBlock) := by
  obtain ⟨A, c, rfl, hD, _, _⟩ := h.form
  have RX := hid h.rowC
  have hcap := hD.cap
  have hmx := hD.max
  obtain ⟨n, hn⟩ : ∃ n, n = l.length := ⟨_, rfl⟩
  rw [← hn] at RX hcap hmx ⊢
  clear h hD hn
  go_enter Try.func22, Try.ntmps22
  go_wp2
  go_loopg [2] n (fun gg s2 wr => ∃ kk : Nat, kk ≤ n ∧ n - kk ≤ gg ∧ s2 = .int .i64 kk ∧ Hid (RowC wr A n c) ∧ Hid (w.grownBy wr (Value.slice A n c).ownBlock))
  case atStart => exact ⟨0, Nat.zero_le _, by omega, rfl, RX, hid (grown_self w _)⟩
  case round =>
    obtain ⟨kk, hkk, hg, rfl, RK, GK⟩ := hrel
    by_cases hlt : kk < n
    case pos =>
      have hltz : (kk : Int) < (n : Int) := by omega
      obtain ⟨g, cur, rfl, hgc, hs, hc⟩ := RK.out (by omega)
      obtain ⟨u, hu⟩ : ∃ u, cur[kk * 2]? = some u := ⟨_, Array.getElem?_eq_getElem (by omega)⟩
      have hcell : wr.cell? ⟨g, kk * 2, none⟩ = some u := (cell_of_row wr g _ cur _ (0, 0) hgc).trans hu
      have hfz : wr.frozen? ⟨g, kk * 2, none⟩ = false := frozen_of_row wr g _ cur _ hgc
      have HST := hid (RowC.store (k := kk * 2) (m := n) (c := c) rfl hgc hs hc (.int .i64 (-7)))
      clear hgc hs hc hu
      go_wp2
      go_roundg (n - (kk + 1))
      case measure => omega
      case rel => exact ⟨kk + 1, by omega, by omega, by go_num, hid HST.out.1, hid (grown_on GK.out HST.out.2)⟩
    have hltz : ¬ (kk : Int) < (n : Int) := by omega
    obtain rfl : kk = n := by omega
    go_wp2
    go_end0
    exact ⟨rfl, GK⟩

theorem bw_alloc {W X : World} {o : Obj} (h : Below W.heap.size W X) : Below W.heap.size W (X.alloc o) := h.alloc h.size o
theorem bw_drew {W X : World} (h : Below W.heap.size W X) : Below W.heap.size W X.drew := h.drew
theorem od_letter {w : World} {B : Nat} {v : Value} {l : List De} (h : Od w B v l) : ∃ A n c, v = .slice A n c ∧ Od w B (.slice A n c) l ∧ Ds w w.heap.size A n c l := by
  obtain ⟨A, c, rfl, hD, _⟩ := h.form
  exact ⟨A, _, c, rfl, h, hD⟩
theorem dsb {X Y : World} {A : Option Addr} {n c : Nat} {l : List De} (h : Ds X X.heap.size A n c l) (b : Below X.heap.size X Y) : Ds Y Y.heap.size A n c l := (h.below b).mono b.size
/-- Two own lists that lie apart. -/
theorem apart8 {w : World} {B N : Nat} {u v : Value} {l : List De} (h : Od w B v l) (hN : ∀ g, u.ownBlock = some g → g < N) (hB : N ≤ B) : v.ownBlock = none ∨ v.ownBlock ≠ u.ownBlock := by
  cases hv : v.ownBlock with
  | none => exact .inl rfl
  | some g => exact .inr (fun e => by
      have h1 := (own_lt h g hv).1
      have h2 := hN g e.symm
      omega)
theorem Cbox.spoilt {w w' : World} {g N : Nat} {o p : Int} {u v : Value} (h : Cbox w g o p v) (hg : w.grownBy w' u.ownBlock) (hN : ∀ g, u.ownBlock = some g → g < N) (hB : N ≤ g) : Cbox w' g o p v :=
  (hg.block g h.lt (fun e => by have := hN g e.symm; omega)).trans h
theorem bw_then {W X Y : World} (h : Below W.heap.size W X) (k : Below X.heap.size X Y) : Below W.heap.size W Y := h.trans (k.mono h.size)
theorem box_three {w : World} {g : Nat} {o p : Int} {v : Value} (h : Cbox w g o p v) : w.cell? ⟨g, 0, none⟩ = some (.int .i64 o) ∧ w.cell? ⟨g, 1, none⟩ = some (.int .i64 p) ∧ w.cell? ⟨g, 2, none⟩ = some v := ⟨h.c0, h.c1, h.c2⟩
/-- A spoil of a list that lies from N on leaves what lies below. -/
theorem spoil_below {N : Nat} {w w' : World} {u : Value} {B : Nat} {l : List De} (h : w.grownBy w' u.ownBlock) (hO : Od w B u l) (hB : N ≤ B) (hN : N ≤ w.heap.size) : Below N w w' :=
  ⟨h.os, h.tape, h.output, h.size, fun k hk => h.block k (by omega) (fun e => by have := (own_lt hO k e.symm).1; omega)⟩

set_option maxHeartbeats 12800000 in
set_option maxRecDepth 100000 in
theorem ctls_walk {w : World} {nc cc nd cd nl cl : Nat} {Ac Ad Al : Option Addr} {k k' l : List De} {o p o' p' now : Int} (hc : Ds w w.heap.size Ac nc cc k) (hd : Ds w w.heap.size Ad nd cd k') (hl : Ds w w.heap.size Al nl cl l) :
    Calls Try.prog 4 #[cav o p (.slice Ac nc cc), cav o' p' (.slice Ad nd cd), .slice Al nl cl, .int .i64 now] w fun e w' => e = .returned (.bool true) ∧ Below w.heap.size w w' := by
  have mixed : Try.prog.follows .mixedOrders = true := by kernel_rfl
  have HKl := hid hc.len
  have HLl := hid hl.len
  have hcap := hc.cap
  have hcap2 := hd.cap
  have hcap3 := hl.cap
  obtain ⟨W0, hW⟩ : ∃ W, W = (w.alloc (.cells #[.int .i64 o, .int .i64 p, .slice Ac nc cc] 24)).alloc (.cells #[.int .i64 o', .int .i64 p', .slice Ad nd cd] 24) := ⟨_, rfl⟩
  have B0 := hid (show Below w.heap.size w W0 from hW ▸ bw_alloc (bw_alloc (Below.refl _ w)))
  have X0 := hid (show Cbox W0 w.heap.size o p (.slice Ac nc cc) from hW ▸ heap2_0 w _ _)
  have XO := hid (show Cbox W0 (w.heap.size + 1) o' p' (.slice Ad nd cd) from hW ▸ heap2_1 w _ _)
  have DC := hid ((hc.below B0.out).mono B0.out.size)
  have DO := hid ((hd.below B0.out).mono B0.out.size)
  have DL := hid ((hl.below B0.out).mono B0.out.size)
  have HW := hid hW
  clear hW hc hd hl
  have x2 := X0.out.c2
  have y2 := XO.out.c2
  unfold cav

  by_cases h1 : 70 < nc
  · have hz1 : (nc : Int) > 70 := by omega
    go_enter Try.func4, Try.ntmps4
    go_upto_region 1 with fail
    rw [← HW.out]
    go_wp2
    go_ret
    exact ⟨rfl, B0.out⟩
  have hz1 : ¬ (nc : Int) > 70 := by omega
  by_cases h2 : 70 < nd
  · have hz2 : (nd : Int) > 70 := by omega
    go_enter Try.func4, Try.ntmps4
    go_upto_region 1 with fail
    rw [← HW.out]
    go_wp2
    go_ret
    exact ⟨rfl, B0.out⟩
  have hz2 : ¬ (nd : Int) > 70 := by omega
  by_cases h3 : 70 < nl
  · have hz3 : (nl : Int) > 70 := by omega
    go_enter Try.func4, Try.ntmps4
    go_upto_region 1 with fail
    rw [← HW.out]
    go_wp2
    go_ret
    exact ⟨rfl, B0.out⟩
  have hz3 : ¬ (nl : Int) > 70 := by omega
  have HN := hid (show nc ≤ 70 ∧ nl ≤ 70 by omega)
  clear h1 h2 h3
  have CT := hid (rctwin_any o p DC.out (Nat.le_refl _) (by have := HN.out; omega))
  unfold cav at CT
  obtain ⟨me, hme⟩ : ∃ x, x = mgE o p k l := ⟨_, rfl⟩
  obtain ⟨mo, hmo⟩ : ∃ x, x = mgO o p k l := ⟨_, rfl⟩
  obtain ⟨mp, hmp⟩ : ∃ x, x = mgP o p k l := ⟨_, rfl⟩
  obtain ⟨ml, hml⟩ : ∃ x, x = mgL o p k l := ⟨_, rfl⟩
  obtain ⟨fe, hfe⟩ : ∃ x, x = ofE o p now k := ⟨_, rfl⟩
  obtain ⟨fl, hfl⟩ : ∃ x, x = ofL o p now k := ⟨_, rfl⟩
  obtain ⟨no, hno⟩ : ∃ x : Int, x = if NMay o p then o else 0 := ⟨_, rfl⟩
  obtain ⟨nq, hnq⟩ : ∃ x : Int, x = if NMay o p then p else 0 := ⟨_, rfl⟩
  obtain ⟨ne, hne⟩ : ∃ x : Int, x = if NMay o p then 0 else 2 := ⟨_, rfl⟩
  obtain ⟨ck, hck⟩ : ∃ x, x = cchk o p k := ⟨_, rfl⟩
  have HM := hid (And.intro hme.symm (And.intro hmo.symm (And.intro hmp.symm hml.symm)))
  have HF := hid (And.intro hfe.symm hfl.symm)
  have HNW := hid (show (if NMay o p then cav o p (.slice none 0 0) else cav 0 0 (.slice none 0 0)) = cav no nq (.slice none 0 0) from by rw [hno, hnq]; by_cases h : NMay o p <;> simp [h])
  have HNE := hid hne.symm
  have HCK := hid hck.symm
  clear hme hmo hmp hml hfe hfl hno hnq hne hck
  go_enter Try.func4, Try.ntmps4
  go_upto_region 1 with fail
  rw [← HW.out]
  clear HW
  go_upto_region 3 with fail
  clear x2 y2
  have x0 := X0.out.c0
  have x1 := X0.out.c1
  have x2 := X0.out.c2
  go_wp2_with fail
  refine CT.out.mono ?_
  rintro e w1 ⟨v9, rfl, h9⟩
  obtain ⟨A9, c9, hv9, d9, _, _⟩ := h9.out.1.form
  obtain ⟨n9, hn9⟩ : ∃ n, n = k.length := ⟨_, rfl⟩
  rw [← hn9] at hv9 d9
  subst hv9
  have D9 := hid d9
  have B1 := hid (bw_then (Below.refl _ W0) h9.out.2)
  clear d9 h9 CT x0 x1 x2 hn9
  have HE := hid (od_at (heap_alloc_new w1 (.cells #[] 29)) (Nat.le_refl w1.heap.size))
  have F1 := hid ((DL.out.below B1.out).below ((Below.refl _ w1).alloc (by have := B1.out.size; omega) (.cells #[] 29) |>.mono B1.out.size))
  have hsz := hid (show w1.heap.size ≤ (w1.alloc (.cells #[] 29)).heap.size by simp)
  go_upto_region 4 with (first | (at_builtin; refine list_appD rfl _ _ rfl (v := .slice (some ⟨w1.heap.size, 0, none⟩) 0 0) (B := w1.heap.size) (l := []) (r := l) rfl rfl HE.out F1.out (by have := HN.out; simp only [List.length_nil]; omega) hsz.out ?_; intro v10 w10 HT) | fail)

  obtain ⟨A10, n10, c10, hv10, O10, d10⟩ := od_letter HT.out.own
  rw [List.nil_append] at d10
  subst hv10
  have b10 := hid (((Below.refl _ w1).alloc (Nat.le_refl _) (.cells #[] 29)).trans (turned_below HT.out HE.out hsz.out))
  have D10 := hid d10
  clear d10 O10 HT HE F1 hsz
  replace X0 := hid (X0.out.below B1.out X0.out.lt)
  replace XO := hid (XO.out.below B1.out XO.out.lt)
  replace DC := hid (dsb DC.out B1.out)
  replace DO := hid (dsb DO.out B1.out)
  replace DL := hid (dsb DL.out B1.out)
  replace X0 := hid (X0.out.below b10.out X0.out.lt)
  replace XO := hid (XO.out.below b10.out XO.out.lt)
  replace DC := hid (dsb DC.out b10.out)
  replace DO := hid (dsb DO.out b10.out)
  replace DL := hid (dsb DL.out b10.out)
  replace D9 := hid (dsb D9.out b10.out)
  have B10 := hid (bw_then B1.out b10.out)
  obtain ⟨W1, hW1⟩ : ∃ W, W = w10.alloc (.cells #[.int .i64 o, .int .i64 p, .slice A9 n9 c9] 24) := ⟨_, rfl⟩
  rw [← hW1]
  have bW1 := hid (show Below w10.heap.size w10 W1 from hW1 ▸ bw_alloc (Below.refl _ w10))
  have Y9 := hid (show Cbox W1 w10.heap.size o p (.slice A9 n9 c9) from hW1 ▸ heap_alloc_new w10 _)
  replace X0 := hid (X0.out.below bW1.out X0.out.lt)
  replace XO := hid (XO.out.below bW1.out XO.out.lt)
  replace DC := hid (dsb DC.out bW1.out)
  replace DO := hid (dsb DO.out bW1.out)
  replace DL := hid (dsb DL.out bW1.out)
  replace D9 := hid (dsb D9.out bW1.out)
  replace D10 := hid (dsb D10.out bW1.out)
  have HB0 := hid (bw_then B10.out bW1.out)
  have g9 := hid (show w10.heap.size < W1.heap.size from Y9.out.lt)
  have HBz := hid (Below.refl W1.heap.size W1)
  have E9 := D9
  have E10 := D10
  have EC := DC
  have EL := DL
  have F9 := Y9
  have F4 := X0
  clear hW1 bW1 b10 B10 B1
  have hK := hid (cmerge_any o p D9.out D10.out (Nat.le_refl _) (Nat.le_refl _))
  rw [HM.out.1, HM.out.2.1, HM.out.2.2.1, HM.out.2.2.2] at hK
  unfold cav at hK
  have x9_0 := Y9.out.c0
  have x9_1 := Y9.out.c1
  have x9_2 := Y9.out.c2
  go_wp2_with fail
  refine hK.out.mono ?_
  rintro e w2 ⟨vx, rfl, hx⟩
  have bw2 := hid (hx.out.2)
  clear hK x9_0 x9_1 x9_2
  replace X0 := hid (X0.out.below bw2.out X0.out.lt)
  replace XO := hid (XO.out.below bw2.out XO.out.lt)
  replace Y9 := hid (Y9.out.below bw2.out Y9.out.lt)
  replace DC := hid (dsb DC.out bw2.out)
  replace DO := hid (dsb DO.out bw2.out)
  replace DL := hid (dsb DL.out bw2.out)
  replace D9 := hid (dsb D9.out bw2.out)
  replace D10 := hid (dsb D10.out bw2.out)
  replace HBz := hid (bw_then HBz.out bw2.out)
  clear bw2
  obtain ⟨Ax, nx, cx, hvx, ox, dx⟩ := od_letter hx.out.1
  subst hvx
  have OX := hid ox
  have DX := hid dx
  clear hx ox dx
  go_upto_region 5 with fail
  obtain ⟨W2, hW2⟩ : ∃ W, W = w2.alloc (.cells #[.int .i64 mo, .int .i64 mp, .slice Ax nx cx] 24) := ⟨_, rfl⟩
  rw [← hW2]
  have bW2 := hid (show Below w2.heap.size w2 W2 from hW2 ▸ bw_alloc (Below.refl _ w2))
  have Y11 := hid (show Cbox W2 w2.heap.size mo mp (.slice Ax nx cx) from hW2 ▸ heap_alloc_new w2 _)
  replace X0 := hid (X0.out.below bW2.out X0.out.lt)
  replace XO := hid (XO.out.below bW2.out XO.out.lt)
  replace Y9 := hid (Y9.out.below bW2.out Y9.out.lt)
  replace DC := hid (dsb DC.out bW2.out)
  replace DO := hid (dsb DO.out bW2.out)
  replace DL := hid (dsb DL.out bW2.out)
  replace D9 := hid (dsb D9.out bW2.out)
  replace D10 := hid (dsb D10.out bW2.out)
  replace DX := hid (dsb DX.out bW2.out)
  replace OX := hid (OX.out.below bW2.out)
  replace HBz := hid (bw_then HBz.out bW2.out)
  clear hW2 bW2
  have hK := hid (rcmerge_any o p DC.out DL.out (Nat.le_refl _) (Nat.le_refl _))
  rw [HM.out.1, HM.out.2.1, HM.out.2.2.1, HM.out.2.2.2] at hK
  unfold cav at hK
  have x4_0 := X0.out.c0
  have x4_1 := X0.out.c1
  have x4_2 := X0.out.c2
  go_wp2_with fail
  refine hK.out.mono ?_
  rintro e w3 ⟨vy, rfl, hy⟩
  have bw3 := hid (hy.out.2)
  clear hK x4_0 x4_1 x4_2
  replace X0 := hid (X0.out.below bw3.out X0.out.lt)
  replace XO := hid (XO.out.below bw3.out XO.out.lt)
  replace Y9 := hid (Y9.out.below bw3.out Y9.out.lt)
  replace Y11 := hid (Y11.out.below bw3.out Y11.out.lt)
  replace DC := hid (dsb DC.out bw3.out)
  replace DO := hid (dsb DO.out bw3.out)
  replace DL := hid (dsb DL.out bw3.out)
  replace D9 := hid (dsb D9.out bw3.out)
  replace D10 := hid (dsb D10.out bw3.out)
  replace DX := hid (dsb DX.out bw3.out)
  replace OX := hid (OX.out.below bw3.out)
  replace HBz := hid (bw_then HBz.out bw3.out)
  clear bw3
  obtain ⟨Ay, ny, cy, hvy, _, dy⟩ := od_letter hy.out.1
  subst hvy
  have DY := hid dy
  clear hy dy
  go_upto_region 6 with fail
  obtain ⟨W3, hW3⟩ : ∃ W, W = w3.alloc (.cells #[.int .i64 mo, .int .i64 mp, .slice Ay ny cy] 24) := ⟨_, rfl⟩
  rw [← hW3]
  have bW3 := hid (show Below w3.heap.size w3 W3 from hW3 ▸ bw_alloc (Below.refl _ w3))
  have Y13 := hid (show Cbox W3 w3.heap.size mo mp (.slice Ay ny cy) from hW3 ▸ heap_alloc_new w3 _)
  replace X0 := hid (X0.out.below bW3.out X0.out.lt)
  replace XO := hid (XO.out.below bW3.out XO.out.lt)
  replace Y9 := hid (Y9.out.below bW3.out Y9.out.lt)
  replace Y11 := hid (Y11.out.below bW3.out Y11.out.lt)
  replace DC := hid (dsb DC.out bW3.out)
  replace DO := hid (dsb DO.out bW3.out)
  replace DL := hid (dsb DL.out bW3.out)
  replace D9 := hid (dsb D9.out bW3.out)
  replace D10 := hid (dsb D10.out bW3.out)
  replace DX := hid (dsb DX.out bW3.out)
  replace DY := hid (dsb DY.out bW3.out)
  replace OX := hid (OX.out.below bW3.out)
  replace HBz := hid (bw_then HBz.out bW3.out)
  clear hW3 bW3
  have hz3 := hid HBz.out.size
  have hxb := hid (fun g (e : (Value.slice Ax nx cx).ownBlock = some g) => (own_lt OX.out g e).2)
  have hK := hid (coffer_any o p now D9.out (Nat.le_refl _))
  rw [HF.out.1, HF.out.2] at hK
  unfold cav at hK
  have x9_0 := Y9.out.c0
  have x9_1 := Y9.out.c1
  have x9_2 := Y9.out.c2
  go_wp2_with fail
  refine hK.out.mono ?_
  rintro e w4 ⟨vp, rfl, hp⟩
  have bw4 := hid (hp.out.2)
  clear hK x9_0 x9_1 x9_2
  replace X0 := hid (X0.out.below bw4.out X0.out.lt)
  replace XO := hid (XO.out.below bw4.out XO.out.lt)
  replace Y9 := hid (Y9.out.below bw4.out Y9.out.lt)
  replace Y11 := hid (Y11.out.below bw4.out Y11.out.lt)
  replace Y13 := hid (Y13.out.below bw4.out Y13.out.lt)
  replace DC := hid (dsb DC.out bw4.out)
  replace DO := hid (dsb DO.out bw4.out)
  replace DL := hid (dsb DL.out bw4.out)
  replace D9 := hid (dsb D9.out bw4.out)
  replace D10 := hid (dsb D10.out bw4.out)
  replace DX := hid (dsb DX.out bw4.out)
  replace DY := hid (dsb DY.out bw4.out)
  replace OX := hid (OX.out.below bw4.out)
  replace HBz := hid (bw_then HBz.out bw4.out)
  clear bw4
  obtain ⟨Ap, np, cp, hvp, op, dp⟩ := od_letter hp.out.1
  subst hvp
  have OP := hid op
  have DP := hid dp
  clear hp op dp
  go_upto_region 7 with fail
  have hK := hid (rcoffer_any o p now DC.out (Nat.le_refl _))
  rw [HF.out.1, HF.out.2] at hK
  unfold cav at hK
  have x4_0 := X0.out.c0
  have x4_1 := X0.out.c1
  have x4_2 := X0.out.c2
  go_wp2_with fail
  refine hK.out.mono ?_
  rintro e w5 ⟨vq, rfl, hq⟩
  have bw5 := hid (hq.out.2)
  clear hK x4_0 x4_1 x4_2
  replace X0 := hid (X0.out.below bw5.out X0.out.lt)
  replace XO := hid (XO.out.below bw5.out XO.out.lt)
  replace Y9 := hid (Y9.out.below bw5.out Y9.out.lt)
  replace Y11 := hid (Y11.out.below bw5.out Y11.out.lt)
  replace Y13 := hid (Y13.out.below bw5.out Y13.out.lt)
  replace DC := hid (dsb DC.out bw5.out)
  replace DO := hid (dsb DO.out bw5.out)
  replace DL := hid (dsb DL.out bw5.out)
  replace D9 := hid (dsb D9.out bw5.out)
  replace D10 := hid (dsb D10.out bw5.out)
  replace DX := hid (dsb DX.out bw5.out)
  replace DY := hid (dsb DY.out bw5.out)
  replace DP := hid (dsb DP.out bw5.out)
  replace OX := hid (OX.out.below bw5.out)
  replace OP := hid (OP.out.below bw5.out)
  replace HBz := hid (bw_then HBz.out bw5.out)
  clear bw5
  obtain ⟨Aq, nqq, cq, hvq, _, dq⟩ := od_letter hq.out.1
  subst hvq
  have DQ := hid dq
  clear hq dq
  go_upto_region 8 with fail
  have hK := hid (cnew_any o p w5)
  rw [HNW.out, HNE.out] at hK
  unfold cav at hK
  have x4_0 := X0.out.c0
  have x4_1 := X0.out.c1
  have x4_2 := X0.out.c2
  go_wp2_with fail
  refine hK.out.mono ?_
  rintro e w6 ⟨rfl, hb⟩
  have bw6 := hid (hb.out)
  clear hK x4_0 x4_1 x4_2
  replace X0 := hid (X0.out.below bw6.out X0.out.lt)
  replace XO := hid (XO.out.below bw6.out XO.out.lt)
  replace Y9 := hid (Y9.out.below bw6.out Y9.out.lt)
  replace Y11 := hid (Y11.out.below bw6.out Y11.out.lt)
  replace Y13 := hid (Y13.out.below bw6.out Y13.out.lt)
  replace DC := hid (dsb DC.out bw6.out)
  replace DO := hid (dsb DO.out bw6.out)
  replace DL := hid (dsb DL.out bw6.out)
  replace D9 := hid (dsb D9.out bw6.out)
  replace D10 := hid (dsb D10.out bw6.out)
  replace DX := hid (dsb DX.out bw6.out)
  replace DY := hid (dsb DY.out bw6.out)
  replace DP := hid (dsb DP.out bw6.out)
  replace DQ := hid (dsb DQ.out bw6.out)
  replace OX := hid (OX.out.below bw6.out)
  replace OP := hid (OP.out.below bw6.out)
  replace HBz := hid (bw_then HBz.out bw6.out)
  clear bw6
  clear hb
  go_upto_region 9 with fail
  obtain ⟨W6, hW6⟩ : ∃ W, W = w6.alloc (.cells #[.int .i64 no, .int .i64 nq, .slice none 0 0] 24) := ⟨_, rfl⟩
  rw [← hW6]
  have bW6 := hid (show Below w6.heap.size w6 W6 from hW6 ▸ bw_alloc (Below.refl _ w6))
  have Y19 := hid (show Cbox W6 w6.heap.size no nq (.slice none 0 0) from hW6 ▸ heap_alloc_new w6 _)
  replace X0 := hid (X0.out.below bW6.out X0.out.lt)
  replace XO := hid (XO.out.below bW6.out XO.out.lt)
  replace Y9 := hid (Y9.out.below bW6.out Y9.out.lt)
  replace Y11 := hid (Y11.out.below bW6.out Y11.out.lt)
  replace Y13 := hid (Y13.out.below bW6.out Y13.out.lt)
  replace DC := hid (dsb DC.out bW6.out)
  replace DO := hid (dsb DO.out bW6.out)
  replace DL := hid (dsb DL.out bW6.out)
  replace D9 := hid (dsb D9.out bW6.out)
  replace D10 := hid (dsb D10.out bW6.out)
  replace DX := hid (dsb DX.out bW6.out)
  replace DY := hid (dsb DY.out bW6.out)
  replace DP := hid (dsb DP.out bW6.out)
  replace DQ := hid (dsb DQ.out bW6.out)
  replace OX := hid (OX.out.below bW6.out)
  replace OP := hid (OP.out.below bW6.out)
  replace HBz := hid (bw_then HBz.out bW6.out)
  clear hW6 bW6
  have hK := hid (rnew_any o p W6)
  rw [HNW.out, HNE.out] at hK
  unfold cav at hK
  have x4_0 := X0.out.c0
  have x4_1 := X0.out.c1
  have x4_2 := X0.out.c2
  go_wp2_with fail
  refine hK.out.mono ?_
  rintro e w7 ⟨rfl, hb⟩
  have bw7 := hid (hb.out)
  clear hK x4_0 x4_1 x4_2
  replace X0 := hid (X0.out.below bw7.out X0.out.lt)
  replace XO := hid (XO.out.below bw7.out XO.out.lt)
  replace Y9 := hid (Y9.out.below bw7.out Y9.out.lt)
  replace Y11 := hid (Y11.out.below bw7.out Y11.out.lt)
  replace Y13 := hid (Y13.out.below bw7.out Y13.out.lt)
  replace Y19 := hid (Y19.out.below bw7.out Y19.out.lt)
  replace DC := hid (dsb DC.out bw7.out)
  replace DO := hid (dsb DO.out bw7.out)
  replace DL := hid (dsb DL.out bw7.out)
  replace D9 := hid (dsb D9.out bw7.out)
  replace D10 := hid (dsb D10.out bw7.out)
  replace DX := hid (dsb DX.out bw7.out)
  replace DY := hid (dsb DY.out bw7.out)
  replace DP := hid (dsb DP.out bw7.out)
  replace DQ := hid (dsb DQ.out bw7.out)
  replace OX := hid (OX.out.below bw7.out)
  replace OP := hid (OP.out.below bw7.out)
  replace HBz := hid (bw_then HBz.out bw7.out)
  clear bw7
  clear hb
  go_upto_region 10 with fail
  obtain ⟨W7, hW7⟩ : ∃ W, W = w7.alloc (.cells #[.int .i64 no, .int .i64 nq, .slice none 0 0] 24) := ⟨_, rfl⟩
  rw [← hW7]
  have bW7 := hid (show Below w7.heap.size w7 W7 from hW7 ▸ bw_alloc (Below.refl _ w7))
  have Y21 := hid (show Cbox W7 w7.heap.size no nq (.slice none 0 0) from hW7 ▸ heap_alloc_new w7 _)
  replace X0 := hid (X0.out.below bW7.out X0.out.lt)
  replace XO := hid (XO.out.below bW7.out XO.out.lt)
  replace Y9 := hid (Y9.out.below bW7.out Y9.out.lt)
  replace Y11 := hid (Y11.out.below bW7.out Y11.out.lt)
  replace Y13 := hid (Y13.out.below bW7.out Y13.out.lt)
  replace Y19 := hid (Y19.out.below bW7.out Y19.out.lt)
  replace DC := hid (dsb DC.out bW7.out)
  replace DO := hid (dsb DO.out bW7.out)
  replace DL := hid (dsb DL.out bW7.out)
  replace D9 := hid (dsb D9.out bW7.out)
  replace D10 := hid (dsb D10.out bW7.out)
  replace DX := hid (dsb DX.out bW7.out)
  replace DY := hid (dsb DY.out bW7.out)
  replace DP := hid (dsb DP.out bW7.out)
  replace DQ := hid (dsb DQ.out bW7.out)
  replace OX := hid (OX.out.below bW7.out)
  replace OP := hid (OP.out.below bW7.out)
  replace HBz := hid (bw_then HBz.out bW7.out)
  clear hW7 bW7
  have hxb7 := hid (fun g (e : (Value.slice Ax nx cx).ownBlock = some g) => (own_lt OX.out g e).2)
  have hpb7 := hid (fun g (e : (Value.slice Ap np cp).ownBlock = some g) => (own_lt OP.out g e).2)
  have hp1 := hid (fun g (e : (Value.slice Ap np cp).ownBlock = some g) => (own_lt OP.out g e).1)
  have hx1 := hid (fun g (e : (Value.slice Ax nx cx).ownBlock = some g) => (own_lt OX.out g e).1)
  have hz7 := hid HBz.out.size
  have hK := hid (ctwin_any o p D9.out (Nat.le_refl _) (by have := HN.out; have := HKl.out; have := D9.out.len; omega))
  unfold cav at hK
  have x9_0 := Y9.out.c0
  have x9_1 := Y9.out.c1
  have x9_2 := Y9.out.c2
  go_wp2_with fail
  refine hK.out.mono ?_
  rintro e w8 ⟨vt, rfl, ht⟩
  have bw8 := hid (ht.out.2)
  clear hK x9_0 x9_1 x9_2
  replace X0 := hid (X0.out.below bw8.out X0.out.lt)
  replace XO := hid (XO.out.below bw8.out XO.out.lt)
  replace Y9 := hid (Y9.out.below bw8.out Y9.out.lt)
  replace Y11 := hid (Y11.out.below bw8.out Y11.out.lt)
  replace Y13 := hid (Y13.out.below bw8.out Y13.out.lt)
  replace Y19 := hid (Y19.out.below bw8.out Y19.out.lt)
  replace Y21 := hid (Y21.out.below bw8.out Y21.out.lt)
  replace DC := hid (dsb DC.out bw8.out)
  replace DO := hid (dsb DO.out bw8.out)
  replace DL := hid (dsb DL.out bw8.out)
  replace D9 := hid (dsb D9.out bw8.out)
  replace D10 := hid (dsb D10.out bw8.out)
  replace DX := hid (dsb DX.out bw8.out)
  replace DY := hid (dsb DY.out bw8.out)
  replace DP := hid (dsb DP.out bw8.out)
  replace DQ := hid (dsb DQ.out bw8.out)
  replace OX := hid (OX.out.below bw8.out)
  replace OP := hid (OP.out.below bw8.out)
  replace HBz := hid (bw_then HBz.out bw8.out)
  clear bw8
  obtain ⟨At, nt, ct, hvt, ot, dt⟩ := od_letter ht.out.1
  subst hvt
  have OT := hid ot
  have DT := hid dt
  have h78 := hid ht.out.2.size
  clear ht ot dt
  go_upto_region 11 with fail
  obtain ⟨W8, hW8⟩ : ∃ W, W = w8.alloc (.cells #[.int .i64 o, .int .i64 p, .slice At nt ct] 24) := ⟨_, rfl⟩
  rw [← hW8]
  have bW8 := hid (show Below w8.heap.size w8 W8 from hW8 ▸ bw_alloc (Below.refl _ w8))
  have Y23 := hid (show Cbox W8 w8.heap.size o p (.slice At nt ct) from hW8 ▸ heap_alloc_new w8 _)
  replace X0 := hid (X0.out.below bW8.out X0.out.lt)
  replace XO := hid (XO.out.below bW8.out XO.out.lt)
  replace Y9 := hid (Y9.out.below bW8.out Y9.out.lt)
  replace Y11 := hid (Y11.out.below bW8.out Y11.out.lt)
  replace Y13 := hid (Y13.out.below bW8.out Y13.out.lt)
  replace Y19 := hid (Y19.out.below bW8.out Y19.out.lt)
  replace Y21 := hid (Y21.out.below bW8.out Y21.out.lt)
  replace DC := hid (dsb DC.out bW8.out)
  replace DO := hid (dsb DO.out bW8.out)
  replace DL := hid (dsb DL.out bW8.out)
  replace D9 := hid (dsb D9.out bW8.out)
  replace D10 := hid (dsb D10.out bW8.out)
  replace DX := hid (dsb DX.out bW8.out)
  replace DY := hid (dsb DY.out bW8.out)
  replace DP := hid (dsb DP.out bW8.out)
  replace DQ := hid (dsb DQ.out bW8.out)
  replace DT := hid (dsb DT.out bW8.out)
  replace OX := hid (OX.out.below bW8.out)
  replace OP := hid (OP.out.below bW8.out)
  replace OT := hid (OT.out.below bW8.out)
  replace HBz := hid (bw_then HBz.out bW8.out)
  clear hW8 bW8
  have K1 := hid (fun X (hb : Below W8.heap.size W8 X) => ccheck_any o p (D9.out.below hb) hb.size)
  have K2 := hid (fun X (hb : Below W8.heap.size W8 X) => rccheck_any o p (DC.out.below hb) hb.size)
  have hlen9 := hid D9.out.len
  have K3 := hid (fun X (hb : Below W8.heap.size W8 X) => rcsame_any mo mp mo mp (DX.out.below hb) (DY.out.below hb) hb.size hb.size)
  have K4 := hid (fun X (hb : Below W8.heap.size W8 X) => rsame_any (DP.out.below hb) (DQ.out.below hb) hb.size hb.size)
  have K5 := hid (fun X (_ : Below W8.heap.size W8 X) => rcsame_any no nq no nq (Ds.nil' X 0) (Ds.nil' X 0) (Nat.zero_le _) (Nat.zero_le _))
  rw [HCK.out] at K1 K2
  rw [decide_eq_true ⟨rfl, rfl, rfl⟩] at K3 K5
  rw [decide_eq_true rfl] at K4
  unfold cav at K1 K2 K3 K5
  have CG : Hid (∀ X, Below W8.heap.size W8 X → (X.cell? ⟨w10.heap.size, 0, none⟩ = some (.int .i64 o) ∧ X.cell? ⟨w10.heap.size, 1, none⟩ = some (.int .i64 p) ∧ X.cell? ⟨w10.heap.size, 2, none⟩ = some (.slice A9 n9 c9)) ∧ (X.cell? ⟨w.heap.size, 0, none⟩ = some (.int .i64 o) ∧ X.cell? ⟨w.heap.size, 1, none⟩ = some (.int .i64 p) ∧ X.cell? ⟨w.heap.size, 2, none⟩ = some (.slice Ac nc cc)) ∧ (X.cell? ⟨w2.heap.size, 0, none⟩ = some (.int .i64 mo) ∧ X.cell? ⟨w2.heap.size, 1, none⟩ = some (.int .i64 mp) ∧ X.cell? ⟨w2.heap.size, 2, none⟩ = some (.slice Ax nx cx)) ∧ (X.cell? ⟨w3.heap.size, 0, none⟩ = some (.int .i64 mo) ∧ X.cell? ⟨w3.heap.size, 1, none⟩ = some (.int .i64 mp) ∧ X.cell? ⟨w3.heap.size, 2, none⟩ = some (.slice Ay ny cy)) ∧ (X.cell? ⟨w6.heap.size, 0, none⟩ = some (.int .i64 no) ∧ X.cell? ⟨w6.heap.size, 1, none⟩ = some (.int .i64 nq) ∧ X.cell? ⟨w6.heap.size, 2, none⟩ = some (.slice none 0 0)) ∧ (X.cell? ⟨w7.heap.size, 0, none⟩ = some (.int .i64 no) ∧ X.cell? ⟨w7.heap.size, 1, none⟩ = some (.int .i64 nq) ∧ X.cell? ⟨w7.heap.size, 2, none⟩ = some (.slice none 0 0))) := hid fun X hb => ⟨box_three (Y9.out.below hb Y9.out.lt), box_three (X0.out.below hb X0.out.lt), box_three (Y11.out.below hb Y11.out.lt), box_three (Y13.out.below hb Y13.out.lt), box_three (Y19.out.below hb Y19.out.lt), box_three (Y21.out.below hb Y21.out.lt)⟩
  have HBy := hid (Below.refl W8.heap.size W8)
  go_region_held3 (fun X => (X.cell? ⟨w10.heap.size, 0, none⟩ = some (.int .i64 o) ∧ X.cell? ⟨w10.heap.size, 1, none⟩ = some (.int .i64 p) ∧ X.cell? ⟨w10.heap.size, 2, none⟩ = some (.slice A9 n9 c9)) ∧ (X.cell? ⟨w.heap.size, 0, none⟩ = some (.int .i64 o) ∧ X.cell? ⟨w.heap.size, 1, none⟩ = some (.int .i64 p) ∧ X.cell? ⟨w.heap.size, 2, none⟩ = some (.slice Ac nc cc)) ∧ (X.cell? ⟨w2.heap.size, 0, none⟩ = some (.int .i64 mo) ∧ X.cell? ⟨w2.heap.size, 1, none⟩ = some (.int .i64 mp) ∧ X.cell? ⟨w2.heap.size, 2, none⟩ = some (.slice Ax nx cx)) ∧ (X.cell? ⟨w3.heap.size, 0, none⟩ = some (.int .i64 mo) ∧ X.cell? ⟨w3.heap.size, 1, none⟩ = some (.int .i64 mp) ∧ X.cell? ⟨w3.heap.size, 2, none⟩ = some (.slice Ay ny cy)) ∧ (X.cell? ⟨w6.heap.size, 0, none⟩ = some (.int .i64 no) ∧ X.cell? ⟨w6.heap.size, 1, none⟩ = some (.int .i64 nq) ∧ X.cell? ⟨w6.heap.size, 2, none⟩ = some (.slice none 0 0)) ∧ (X.cell? ⟨w7.heap.size, 0, none⟩ = some (.int .i64 no) ∧ X.cell? ⟨w7.heap.size, 1, none⟩ = some (.int .i64 nq) ∧ X.cell? ⟨w7.heap.size, 2, none⟩ = some (.slice none 0 0)))
    (exact CG.out _ (by (repeat (first | with_reducible exact HBy.out | with_reducible apply bw_drew | with_reducible apply bw_alloc))))
    (first
    | (go_at_call 13
       with_reducible refine (K1.out _ (by (repeat (first | with_reducible exact HBy.out | with_reducible apply bw_drew | with_reducible apply bw_alloc)))).mono ?_
       rintro e' z1 ⟨rfl, hb⟩
       have HBy := hid (bw_then (by (repeat (first | with_reducible exact HBy.out | with_reducible apply bw_drew | with_reducible apply bw_alloc))) hb.out))
    | (go_at_call 18
       with_reducible refine (K2.out _ (by (repeat (first | with_reducible exact HBy.out | with_reducible apply bw_drew | with_reducible apply bw_alloc)))).mono ?_
       rintro e' z2 ⟨rfl, hb⟩
       have HBy := hid (bw_then (by (repeat (first | with_reducible exact HBy.out | with_reducible apply bw_drew | with_reducible apply bw_alloc))) hb.out))
    | (go_at_call 19
       with_reducible refine (K3.out _ (by (repeat (first | with_reducible exact HBy.out | with_reducible apply bw_drew | with_reducible apply bw_alloc)))).mono ?_
       rintro e' z3 ⟨rfl, hb⟩
       have HBy := hid (bw_then (by (repeat (first | with_reducible exact HBy.out | with_reducible apply bw_drew | with_reducible apply bw_alloc))) hb.out))
    | (go_at_call 20
       with_reducible refine (K4.out _ (by (repeat (first | with_reducible exact HBy.out | with_reducible apply bw_drew | with_reducible apply bw_alloc)))).mono ?_
       rintro e' z4 ⟨rfl, hb⟩
       have HBy := hid (bw_then (by (repeat (first | with_reducible exact HBy.out | with_reducible apply bw_drew | with_reducible apply bw_alloc))) hb.out))
    | (go_at_call 19
       with_reducible refine (K5.out _ (by (repeat (first | with_reducible exact HBy.out | with_reducible apply bw_drew | with_reducible apply bw_alloc)))).mono ?_
       rintro e' z5 ⟨rfl, hb⟩
       have HBy := hid (bw_then (by (repeat (first | with_reducible exact HBy.out | with_reducible apply bw_drew | with_reducible apply bw_alloc))) hb.out)))
  go_upto_region 12 with fail
  clear K1 K2 K3 K4 K5 CG HCK HNE HNW HF HM hlen9
  have HBn := hid HBy.out
  clear HBy
  replace X0 := hid (X0.out.below HBn.out X0.out.lt)
  replace XO := hid (XO.out.below HBn.out XO.out.lt)
  replace Y9 := hid (Y9.out.below HBn.out Y9.out.lt)
  replace Y11 := hid (Y11.out.below HBn.out Y11.out.lt)
  replace Y13 := hid (Y13.out.below HBn.out Y13.out.lt)
  replace Y19 := hid (Y19.out.below HBn.out Y19.out.lt)
  replace Y21 := hid (Y21.out.below HBn.out Y21.out.lt)
  replace Y23 := hid (Y23.out.below HBn.out Y23.out.lt)
  replace DC := hid (dsb DC.out HBn.out)
  replace DO := hid (dsb DO.out HBn.out)
  replace DL := hid (dsb DL.out HBn.out)
  replace D9 := hid (dsb D9.out HBn.out)
  replace D10 := hid (dsb D10.out HBn.out)
  replace DX := hid (dsb DX.out HBn.out)
  replace DY := hid (dsb DY.out HBn.out)
  replace DP := hid (dsb DP.out HBn.out)
  replace DQ := hid (dsb DQ.out HBn.out)
  replace DT := hid (dsb DT.out HBn.out)
  replace OX := hid (OX.out.below HBn.out)
  replace OP := hid (OP.out.below HBn.out)
  replace OT := hid (OT.out.below HBn.out)
  replace HBz := hid (bw_then HBz.out HBn.out)
  clear HBn
  have J1 := hid (fun X (hb : Below z5.heap.size z5 X) => rcsame_any o p o p (DT.out.below hb) (DC.out.below hb) hb.size hb.size)
  have J2 := hid (fun X (hb : Below z5.heap.size z5 X) => csame_any o p o' p' (D9.out.below hb) (DO.out.below hb) hb.size hb.size)
  have J3 := hid (fun X (hb : Below z5.heap.size z5 X) => rcsame_any o p o' p' (DC.out.below hb) (DO.out.below hb) hb.size hb.size)
  have J4 := hid (fun X (hb : Below z5.heap.size z5 X) => csame_any o p o p (D9.out.below hb) (DC.out.below hb) hb.size hb.size)
  rw [decide_eq_true ⟨rfl, rfl, rfl⟩] at J1 J4
  generalize decide (o = o' ∧ p = p' ∧ k = k') = sm at J2 J3
  unfold cav at J1 J2 J3 J4
  have CG : Hid (∀ X, Below z5.heap.size z5 X → (X.cell? ⟨w8.heap.size, 0, none⟩ = some (.int .i64 o) ∧ X.cell? ⟨w8.heap.size, 1, none⟩ = some (.int .i64 p) ∧ X.cell? ⟨w8.heap.size, 2, none⟩ = some (.slice At nt ct)) ∧ (X.cell? ⟨w.heap.size, 0, none⟩ = some (.int .i64 o) ∧ X.cell? ⟨w.heap.size, 1, none⟩ = some (.int .i64 p) ∧ X.cell? ⟨w.heap.size, 2, none⟩ = some (.slice Ac nc cc)) ∧ (X.cell? ⟨w10.heap.size, 0, none⟩ = some (.int .i64 o) ∧ X.cell? ⟨w10.heap.size, 1, none⟩ = some (.int .i64 p) ∧ X.cell? ⟨w10.heap.size, 2, none⟩ = some (.slice A9 n9 c9)) ∧ (X.cell? ⟨(w.heap.size + 1), 0, none⟩ = some (.int .i64 o') ∧ X.cell? ⟨(w.heap.size + 1), 1, none⟩ = some (.int .i64 p') ∧ X.cell? ⟨(w.heap.size + 1), 2, none⟩ = some (.slice Ad nd cd))) := hid fun X hb => ⟨box_three (Y23.out.below hb Y23.out.lt), box_three (X0.out.below hb X0.out.lt), box_three (Y9.out.below hb Y9.out.lt), box_three (XO.out.below hb XO.out.lt)⟩
  have HBy := hid (Below.refl z5.heap.size z5)
  go_region_held3 (fun X => (X.cell? ⟨w8.heap.size, 0, none⟩ = some (.int .i64 o) ∧ X.cell? ⟨w8.heap.size, 1, none⟩ = some (.int .i64 p) ∧ X.cell? ⟨w8.heap.size, 2, none⟩ = some (.slice At nt ct)) ∧ (X.cell? ⟨w.heap.size, 0, none⟩ = some (.int .i64 o) ∧ X.cell? ⟨w.heap.size, 1, none⟩ = some (.int .i64 p) ∧ X.cell? ⟨w.heap.size, 2, none⟩ = some (.slice Ac nc cc)) ∧ (X.cell? ⟨w10.heap.size, 0, none⟩ = some (.int .i64 o) ∧ X.cell? ⟨w10.heap.size, 1, none⟩ = some (.int .i64 p) ∧ X.cell? ⟨w10.heap.size, 2, none⟩ = some (.slice A9 n9 c9)) ∧ (X.cell? ⟨(w.heap.size + 1), 0, none⟩ = some (.int .i64 o') ∧ X.cell? ⟨(w.heap.size + 1), 1, none⟩ = some (.int .i64 p') ∧ X.cell? ⟨(w.heap.size + 1), 2, none⟩ = some (.slice Ad nd cd)))
    (exact CG.out _ (by (repeat (first | with_reducible exact HBy.out | with_reducible apply bw_drew | with_reducible apply bw_alloc))))
    (first
    | (go_at_call 19
       with_reducible refine (J1.out _ (by (repeat (first | with_reducible exact HBy.out | with_reducible apply bw_drew | with_reducible apply bw_alloc)))).mono ?_
       rintro e' y1 ⟨rfl, hb⟩
       have HBy := hid (bw_then (by (repeat (first | with_reducible exact HBy.out | with_reducible apply bw_drew | with_reducible apply bw_alloc))) hb.out))
    | (go_at_call 21
       with_reducible refine (J2.out _ (by (repeat (first | with_reducible exact HBy.out | with_reducible apply bw_drew | with_reducible apply bw_alloc)))).mono ?_
       rintro e' y2 ⟨rfl, hb⟩
       have HBy := hid (bw_then (by (repeat (first | with_reducible exact HBy.out | with_reducible apply bw_drew | with_reducible apply bw_alloc))) hb.out))
    | (go_at_call 19
       with_reducible refine (J3.out _ (by (repeat (first | with_reducible exact HBy.out | with_reducible apply bw_drew | with_reducible apply bw_alloc)))).mono ?_
       rintro e' y3 ⟨rfl, hb⟩
       have HBy := hid (bw_then (by (repeat (first | with_reducible exact HBy.out | with_reducible apply bw_drew | with_reducible apply bw_alloc))) hb.out))
    | (go_at_call 21
       with_reducible refine (J4.out _ (by (repeat (first | with_reducible exact HBy.out | with_reducible apply bw_drew | with_reducible apply bw_alloc)))).mono ?_
       rintro e' y4 ⟨rfl, hb⟩
       have HBy := hid (bw_then (by (repeat (first | with_reducible exact HBy.out | with_reducible apply bw_drew | with_reducible apply bw_alloc))) hb.out)))
  go_upto_region 13 with fail
  clear J1 J2 J3 J4 CG
  have HBn := hid HBy.out
  clear HBy
  replace Y11 := hid (Y11.out.below HBn.out Y11.out.lt)
  replace Y23 := hid (Y23.out.below HBn.out Y23.out.lt)
  replace OX := hid (OX.out.below HBn.out)
  replace OP := hid (OP.out.below HBn.out)
  replace OT := hid (OT.out.below HBn.out)
  replace HBz := hid (bw_then HBz.out HBn.out)
  clear HBn
  have x2 := Y11.out.c2
  have hS := hid (spoil8_any OX.out)
  go_wp2_with fail
  refine hS.out.mono ?_
  rintro e s1 ⟨rfl, hg⟩
  have b1 := hid (spoil_below hg.out OX.out (Nat.le_refl _) HBz.out.size)
  have OP1 := hid (OP.out.kept hg.out (apart8 OP.out hxb.out (Nat.le_refl _)))
  have OT1 := hid (OT.out.kept hg.out (apart8 OT.out hxb7.out (Nat.le_refl _)))
  have Y23a := hid (Y23.out.spoilt hg.out hxb7.out h78.out)
  have Z1 := hid (HBz.out.trans b1.out)
  clear hg b1 OX OP OT Y23 Y11 HBz hS x2
  have hS := hid (spoil8_any OP1.out)
  go_wp2_with fail
  refine hS.out.mono ?_
  rintro e s2 ⟨rfl, hg⟩
  have b2 := hid (spoil_below hg.out OP1.out hz3.out Z1.out.size)
  have OT2 := hid (OT1.out.kept hg.out (apart8 OT1.out hpb7.out (Nat.le_refl _)))
  have Y23b := hid (Y23a.out.spoilt hg.out hpb7.out h78.out)
  have Z2 := hid (Z1.out.trans b2.out)
  clear hg b2 OP1 OT1 Y23a Z1 hS
  have x2 := Y23b.out.c2
  have hS := hid (spoil8_any OT2.out)
  go_wp2_with fail
  refine hS.out.mono ?_
  rintro e s3 ⟨rfl, hg⟩
  have b3 := hid (spoil_below hg.out OT2.out hz7.out Z2.out.size)
  have Z3 := hid (Z2.out.trans b3.out)
  clear hg b3 OT2 Y23b Z2 hS x2
  obtain ⟨x0, x1, x2⟩ := box_three (F9.out.below Z3.out F9.out.lt)
  obtain ⟨y0, y1, y2⟩ := box_three (F4.out.below Z3.out F4.out.lt)
  have K1 := hid (rcsame_any o p o p (E9.out.below Z3.out) (EC.out.below Z3.out) Z3.out.size Z3.out.size)
  rw [decide_eq_true ⟨rfl, rfl, rfl⟩] at K1
  unfold cav at K1
  go_wp2_with fail
  refine K1.out.mono ?_
  rintro e s4 ⟨rfl, hb⟩
  have Z4 := hid (Z3.out.trans (hb.out.mono Z3.out.size))
  clear hb K1 Z3 x0 x1 x2 y0 y1 y2
  have K2 := hid (rsame_any (E10.out.below Z4.out) (EL.out.below Z4.out) Z4.out.size Z4.out.size)
  rw [decide_eq_true rfl] at K2
  go_wp2_with fail
  refine K2.out.mono ?_
  rintro e s5 ⟨rfl, hb⟩
  have Z5 := hid (Z4.out.trans (hb.out.mono Z4.out.size))
  go_wp2
  go_ret
  exact ⟨rfl, B0.out.trans ((HB0.out.trans (Z5.out.mono HB0.out.size)).mono B0.out.size)⟩
end Go.Proofs.Ythklhhgkklpbkaa
