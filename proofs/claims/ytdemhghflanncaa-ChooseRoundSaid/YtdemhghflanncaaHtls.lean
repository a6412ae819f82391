/- ChooseTells, walked over the program's One, Some and Draws. -/
import Derived.Test.YtdemhghflanncaaHonc
namespace Go.Proofs.Ytdemhghflanncaa
open Go.RowKit Go.Shelf Go.Lib

/-- What the law asks of Some: its list is the call's own. -/
def SomeOwn : Prop := ∀ (w : World) (o p : Int) (B n c C m d : Nat) (A D : Option Addr) (l : List De) (r : List Nat), Ds w B A n c l → Us w C D m d r → B ≤ w.heap.size → C ≤ w.heap.size →
    Calls Try.prog 9 #[cav o p (.slice A n c), .slice D m d] w fun e w' => ∃ v, e = .returned (.tuple #[v, .int .i64 (smE o p l r)]) ∧ Hid (Od w' w.heap.size v (smL o p l r) ∧ Below w.heap.size w w')
theorem SomeOwn.ok (h : SomeOwn) : SomeOk := fun w o p B n c C m d A D l r h1 h2 h3 h4 => (h w o p B n c C m d A D l r h1 h2 h3 h4).mono fun _ _ ⟨v, he, hv⟩ => by
  obtain ⟨A', n', c', rfl, _, hd⟩ := od_lett hv.out.1
  exact ⟨A', n', c', he, hid ⟨hd, hv.out.2⟩⟩
/-- The row of a list of the call's own, whatever stands in it. -/
def RowH (w : World) (A : Option Addr) (m c : Nat) : Prop := 0 < m → ∃ (g : Nat) (cur : Array Value), A = some ⟨g, 0, none⟩ ∧ w.heap[g]? = some (.cells cur 23 (0, 0)) ∧ m * 2 ≤ cur.size ∧ m ≤ c
theorem Od.rowH {w : World} {B m c : Nat} {A : Option Addr} {l : List De} (h : Od w B (.slice A m c) l) : RowH w A m c := fun hm => by
  rcases h.own.2 with ⟨e, _⟩ | ⟨g, cap, cur, e, _, hg, hn, _, hs, _⟩
  · injection e with _ e2 _
    omega
  · injection e with e1 e2 e3
    exact ⟨g, cur, e1, hg, by omega, by omega⟩
theorem RowH.store {w : World} {A : Option Addr} {m c g k : Nat} {cur : Array Value} (hA : A = some ⟨g, 0, none⟩) (hg : w.heap[g]? = some (.cells cur 23 (0, 0))) (h2 : m * 2 ≤ cur.size) (h3 : m ≤ c) (u : Value) :
    RowH (w.setCell ⟨g, k, none⟩ u) A m c ∧ w.grownBy (w.setCell ⟨g, k, none⟩ u) (Value.slice A m c).ownBlock := by
  refine ⟨fun _ => ⟨g, _, hA, heap_setCell_same w g k cur _ u hg, by simpa using h2, h3⟩, ⟨rfl, rfl, rfl, by simp [World.setCell], fun j hj hne => Below.heap_setCell w ⟨g, k, none⟩ u j (fun e => hne ?_)⟩⟩
  rw [hA, e]
  rfl
theorem grown_own (w : World) (o : Option Nat) : w.grownBy w o := ⟨rfl, rfl, rfl, Nat.le_refl _, fun _ _ _ => rfl⟩
theorem grown_two {w wr w' : World} {o : Option Nat} (h : w.grownBy wr o) (k : wr.grownBy w' o) : w.grownBy w' o :=
  ⟨k.os.trans h.os, k.tape.trans h.tape, k.output.trans h.output, Nat.le_trans h.size k.size, fun j hj hne => (k.block j (Nat.lt_of_lt_of_le hj h.size) hne).trans (h.block j hj hne)⟩
theorem spoilt_below {N : Nat} {w w' : World} {u : Value} {B : Nat} (h : w.grownBy w' u.ownBlock) (hO : ∀ k, u.ownBlock = some k → B ≤ k) (hB : N ≤ B) (hN : N ≤ w.heap.size) : Below N w w' :=
  ⟨h.os, h.tape, h.output, h.size, fun k hk => h.block k (by omega) (fun e => by have := hO k e.symm; omega)⟩
theorem us_on {X Y : World} {A : Option Addr} {n c : Nat} {l : List Nat} (h : Us X X.heap.size A n c l) (b : Below X.heap.size X Y) : Us Y Y.heap.size A n c l := (h.below b).mono b.size

set_option maxHeartbeats 12800000 in
set_option maxRecDepth 100000 in
theorem htells_walk (D1 : OneOk) (DS : SomeOwn) (DD : DrawsOk) {w : World} {nc cc nd cd nl cl : Nat} {Ac Ad Al : Option Addr} {k l : List De} {r : List Nat} (o p : Int) (x : Nat) (hx : x < 18446744073709551616) (hc : Ds w w.heap.size Ac nc cc k) (hd : Us w w.heap.size Ad nd cd r) (hl : Ds w w.heap.size Al nl cl l) :
    Calls Try.prog 4 #[cav o p (.slice Ac nc cc), .int .u64 (x : Int), .slice Ad nd cd, .slice Al nl cl] w fun e w' => e = .returned (.bool true) ∧ Below w.heap.size w w' := by
  have mixed : Try.prog.follows .mixedOrders = true := by kernel_rfl
  have HKl := hid hc.len
  have hcap := hc.cap
  have hcap2 := hd.cap
  have hcap3 := hl.cap
  obtain ⟨W0, hW⟩ : ∃ W, W = w.alloc (.cells #[.int .i64 o, .int .i64 p, .slice Ac nc cc] 29) := ⟨_, rfl⟩
  have B0 := hid (show Below w.heap.size w W0 from hW ▸ bh_alloc (Below.refl _ w))
  have X0 := hid (show Cbox W0 w.heap.size o p (.slice Ac nc cc) from hW ▸ heap_alloc_new w _)
  have DC := hid ((hc.below B0.out).mono B0.out.size)
  have UD := hid ((hd.below B0.out).mono B0.out.size)
  have DL := hid ((hl.below B0.out).mono B0.out.size)
  have HW := hid hW
  clear hW hc hd hl
  have x2 := X0.out.c2
  unfold cav
  by_cases h1 : 70 < nc
  · have hz1 : (nc : Int) > 70 := by omega
    go_enter Try.func4, Try.ntmps4
    go_upto_region 1 with fail
    rw [← HW.out]
    go_wp2
    go_ret
    exact ⟨rfl, B0.out⟩
  have hz1 : ¬ (nc : Int) > 70 := by omega
  by_cases h2 : 70 < nd
  · have hz2 : (nd : Int) > 70 := by omega
    go_enter Try.func4, Try.ntmps4
    go_upto_region 1 with fail
    rw [← HW.out]
    go_wp2
    go_ret
    exact ⟨rfl, B0.out⟩
  have hz2 : ¬ (nd : Int) > 70 := by omega
  by_cases h3 : 70 < nl
  · have hz3 : (nl : Int) > 70 := by omega
    go_enter Try.func4, Try.ntmps4
    go_upto_region 1 with fail
    rw [← HW.out]
    go_wp2
    go_ret
    exact ⟨rfl, B0.out⟩
  have hz3 : ¬ (nl : Int) > 70 := by omega
  have HN := hid (show nc ≤ 70 ∧ nl ≤ 70 ∧ nd ≤ 70 by omega)
  clear h1 h2 h3
  have CT := hid (rctwin_any o p DC.out (Nat.le_refl _) (by have := HN.out; omega))
  unfold cav at CT
  obtain ⟨od, hod⟩ : ∃ z, z = onD o p k x := ⟨_, rfl⟩
  obtain ⟨oe, hoe⟩ : ∃ z, z = onE o p k := ⟨_, rfl⟩
  obtain ⟨se, hse⟩ : ∃ z, z = smE o p k r := ⟨_, rfl⟩
  obtain ⟨sl, hsl⟩ : ∃ z, z = smL o p k r := ⟨_, rfl⟩
  obtain ⟨de, hde⟩ : ∃ z, z = dwE o p k l := ⟨_, rfl⟩
  obtain ⟨dl, hdl⟩ : ∃ z, z = dwL o p k l := ⟨_, rfl⟩
  obtain ⟨od1, od2⟩ := od
  have HO := hid (And.intro hod.symm hoe.symm)
  have HS := hid (And.intro hse.symm hsl.symm)
  have HD := hid (And.intro hde.symm hdl.symm)
  clear hod hoe hse hsl hde hdl
  go_enter Try.func4, Try.ntmps4
  go_upto_region 1 with fail
  rw [← HW.out]
  clear HW
  go_upto_region 3 with fail
  clear x2
  have x0 := X0.out.c0
  have x1 := X0.out.c1
  have x2 := X0.out.c2
  go_wp2_with fail
  refine CT.out.mono ?_
  rintro e w1 ⟨v9, rfl, h9⟩
  obtain ⟨A9, n9, c9, hv9, _, d9⟩ := od_lett h9.out.1
  subst hv9
  have D9 := hid d9
  have B1 := hid (bh_then (Below.refl _ W0) h9.out.2)
  clear d9 h9 CT x0 x1 x2
  go_upto_region 4 with fail
  replace X0 := hid (X0.out.below B1.out X0.out.lt)
  replace DC := hid (ds_on DC.out B1.out)
  replace DL := hid (ds_on DL.out B1.out)
  replace UD := hid (us_on UD.out B1.out)
  obtain ⟨W1, hW1⟩ : ∃ W, W = w1.alloc (.cells #[.int .i64 o, .int .i64 p, .slice A9 n9 c9] 29) := ⟨_, rfl⟩
  rw [← hW1]
  have bW1 := hid (show Below w1.heap.size w1 W1 from hW1 ▸ bh_alloc (Below.refl _ w1))
  have Y9 := hid (show Cbox W1 w1.heap.size o p (.slice A9 n9 c9) from hW1 ▸ heap_alloc_new w1 _)
  replace X0 := hid (X0.out.below bW1.out X0.out.lt)
  replace DC := hid (ds_on DC.out bW1.out)
  replace DL := hid (ds_on DL.out bW1.out)
  replace D9 := hid (ds_on D9.out bW1.out)
  replace UD := hid (us_on UD.out bW1.out)
  have HB0 := hid (bh_then B1.out bW1.out)
  have HBz := hid (Below.refl W1.heap.size W1)
  have E9 := D9
  have EC := DC
  have F9 := Y9
  have F4 := X0
  clear hW1 bW1 B1
  have hK := hid (D1 W1 o p _ n9 c9 A9 k x D9.out (Nat.le_refl _) hx)
  rw [HO.out.1, HO.out.2] at hK
  unfold cav at hK
  unfold dv at hK
  have x9_0 := Y9.out.c0
  have x9_1 := Y9.out.c1
  have x9_2 := Y9.out.c2
  go_wp2_with fail
  refine hK.out.mono ?_
  rintro e w2 ⟨rfl, hb⟩
  have bw2 := hid (hb.out)
  clear hK x9_0 x9_1 x9_2
  replace X0 := hid (X0.out.below bw2.out X0.out.lt)
  replace Y9 := hid (Y9.out.below bw2.out Y9.out.lt)
  replace DC := hid (ds_on DC.out bw2.out)
  replace DL := hid (ds_on DL.out bw2.out)
  replace D9 := hid (ds_on D9.out bw2.out)
  replace UD := hid (us_on UD.out bw2.out)
  replace HBz := hid (bh_then HBz.out bw2.out)
  clear bw2
  clear hb
  go_upto_region 5 with fail
  obtain ⟨W2, hW2⟩ : ∃ W, W = w2.alloc (.cells #[.int .i64 od1, .int .i64 od2] 23) := ⟨_, rfl⟩
  rw [← hW2]
  have bW2 := hid (show Below w2.heap.size w2 W2 from hW2 ▸ bh_alloc (Below.refl _ w2))
  have Z10 := hid (show Dbx W2 w2.heap.size (od1, od2) from hW2 ▸ heap_alloc_new w2 _)
  replace X0 := hid (X0.out.below bW2.out X0.out.lt)
  replace Y9 := hid (Y9.out.below bW2.out Y9.out.lt)
  replace DC := hid (ds_on DC.out bW2.out)
  replace DL := hid (ds_on DL.out bW2.out)
  replace D9 := hid (ds_on D9.out bW2.out)
  replace UD := hid (us_on UD.out bW2.out)
  replace HBz := hid (bh_then HBz.out bW2.out)
  clear hW2 bW2
  have hK := hid (rone_any o p x DC.out (Nat.le_refl _))
  rw [HO.out.1, HO.out.2] at hK
  unfold cav at hK
  unfold dv at hK
  have x4_0 := X0.out.c0
  have x4_1 := X0.out.c1
  have x4_2 := X0.out.c2
  go_wp2_with fail
  refine hK.out.mono ?_
  rintro e w3 ⟨rfl, hb⟩
  have bw3 := hid (hb.out)
  clear hK x4_0 x4_1 x4_2
  replace X0 := hid (X0.out.below bw3.out X0.out.lt)
  replace Y9 := hid (Y9.out.below bw3.out Y9.out.lt)
  replace Z10 := hid (Z10.out.below bw3.out Z10.out.lt)
  replace DC := hid (ds_on DC.out bw3.out)
  replace DL := hid (ds_on DL.out bw3.out)
  replace D9 := hid (ds_on D9.out bw3.out)
  replace UD := hid (us_on UD.out bw3.out)
  replace HBz := hid (bh_then HBz.out bw3.out)
  clear bw3
  clear hb
  go_upto_region 6 with fail
  obtain ⟨W3, hW3⟩ : ∃ W, W = w3.alloc (.cells #[.int .i64 od1, .int .i64 od2] 23) := ⟨_, rfl⟩
  rw [← hW3]
  have bW3 := hid (show Below w3.heap.size w3 W3 from hW3 ▸ bh_alloc (Below.refl _ w3))
  have Z12 := hid (show Dbx W3 w3.heap.size (od1, od2) from hW3 ▸ heap_alloc_new w3 _)
  replace X0 := hid (X0.out.below bW3.out X0.out.lt)
  replace Y9 := hid (Y9.out.below bW3.out Y9.out.lt)
  replace Z10 := hid (Z10.out.below bW3.out Z10.out.lt)
  replace DC := hid (ds_on DC.out bW3.out)
  replace DL := hid (ds_on DL.out bW3.out)
  replace D9 := hid (ds_on D9.out bW3.out)
  replace UD := hid (us_on UD.out bW3.out)
  replace HBz := hid (bh_then HBz.out bW3.out)
  clear hW3 bW3
  have hz3 := hid HBz.out.size
  have hK := hid (DS W3 o p _ n9 c9 _ nd cd A9 Ad k r D9.out UD.out (Nat.le_refl _) (Nat.le_refl _))
  rw [HS.out.1, HS.out.2] at hK
  unfold cav at hK
  have x9_0 := Y9.out.c0
  have x9_1 := Y9.out.c1
  have x9_2 := Y9.out.c2
  go_wp2_with fail
  refine hK.out.mono ?_
  rintro e w4 ⟨vx, rfl, hx4⟩
  have bw4 := hid (hx4.out.2)
  clear hK x9_0 x9_1 x9_2
  replace X0 := hid (X0.out.below bw4.out X0.out.lt)
  replace Y9 := hid (Y9.out.below bw4.out Y9.out.lt)
  replace Z10 := hid (Z10.out.below bw4.out Z10.out.lt)
  replace Z12 := hid (Z12.out.below bw4.out Z12.out.lt)
  replace DC := hid (ds_on DC.out bw4.out)
  replace DL := hid (ds_on DL.out bw4.out)
  replace D9 := hid (ds_on D9.out bw4.out)
  replace UD := hid (us_on UD.out bw4.out)
  replace HBz := hid (bh_then HBz.out bw4.out)
  clear bw4
  obtain ⟨Ax, nx, cx, hvx, ox, dx⟩ := od_lett hx4.out.1
  subst hvx
  have OX := hid ox
  have DX := hid dx
  have hcx := dx.cap
  have hmx := dx.max
  clear hx4 ox dx
  go_upto_region 7 with fail
  have hK := hid (rsome_any o p DC.out UD.out (Nat.le_refl _) (Nat.le_refl _))
  rw [HS.out.1, HS.out.2] at hK
  unfold cav at hK
  have x4_0 := X0.out.c0
  have x4_1 := X0.out.c1
  have x4_2 := X0.out.c2
  go_wp2_with fail
  refine hK.out.mono ?_
  rintro e w5 ⟨vy, rfl, hy⟩
  have bw5 := hid (hy.out.2)
  clear hK x4_0 x4_1 x4_2
  replace X0 := hid (X0.out.below bw5.out X0.out.lt)
  replace Y9 := hid (Y9.out.below bw5.out Y9.out.lt)
  replace Z10 := hid (Z10.out.below bw5.out Z10.out.lt)
  replace Z12 := hid (Z12.out.below bw5.out Z12.out.lt)
  replace DC := hid (ds_on DC.out bw5.out)
  replace DL := hid (ds_on DL.out bw5.out)
  replace D9 := hid (ds_on D9.out bw5.out)
  replace DX := hid (ds_on DX.out bw5.out)
  replace UD := hid (us_on UD.out bw5.out)
  replace HBz := hid (bh_then HBz.out bw5.out)
  clear bw5
  replace OX := hid (OX.out.below hy.out.2)
  obtain ⟨Ay, ny, cy, hvy, _, dy⟩ := od_lett hy.out.1
  subst hvy
  have DY := hid dy
  clear hy dy
  go_upto_region 8 with fail
  have hK := hid (DD w5 o p _ n9 c9 _ nl cl A9 Al k l D9.out DL.out (Nat.le_refl _) (Nat.le_refl _))
  rw [HD.out.1, HD.out.2] at hK
  unfold cav at hK
  have x9_0 := Y9.out.c0
  have x9_1 := Y9.out.c1
  have x9_2 := Y9.out.c2
  go_wp2_with fail
  refine hK.out.mono ?_
  rintro e w6 ⟨Ap, np, cp, rfl, hp⟩
  have bw6 := hid (hp.out.2)
  clear hK x9_0 x9_1 x9_2
  replace X0 := hid (X0.out.below bw6.out X0.out.lt)
  replace Y9 := hid (Y9.out.below bw6.out Y9.out.lt)
  replace Z10 := hid (Z10.out.below bw6.out Z10.out.lt)
  replace Z12 := hid (Z12.out.below bw6.out Z12.out.lt)
  replace DC := hid (ds_on DC.out bw6.out)
  replace DL := hid (ds_on DL.out bw6.out)
  replace D9 := hid (ds_on D9.out bw6.out)
  replace DX := hid (ds_on DX.out bw6.out)
  replace DY := hid (ds_on DY.out bw6.out)
  replace UD := hid (us_on UD.out bw6.out)
  replace HBz := hid (bh_then HBz.out bw6.out)
  clear bw6
  replace OX := hid (OX.out.below hp.out.2)
  have UP := hid hp.out.1
  clear hp
  go_upto_region 9 with fail
  have hK := hid (rdraws_any o p DC.out DL.out (Nat.le_refl _) (Nat.le_refl _) (by have := HN.out; omega))
  rw [HD.out.1, HD.out.2] at hK
  unfold cav at hK
  have x4_0 := X0.out.c0
  have x4_1 := X0.out.c1
  have x4_2 := X0.out.c2
  go_wp2_with fail
  refine hK.out.mono ?_
  rintro e w7 ⟨vq, rfl, hq⟩
  have bw7 := hid (hq.out.2)
  clear hK x4_0 x4_1 x4_2
  replace X0 := hid (X0.out.below bw7.out X0.out.lt)
  replace Y9 := hid (Y9.out.below bw7.out Y9.out.lt)
  replace Z10 := hid (Z10.out.below bw7.out Z10.out.lt)
  replace Z12 := hid (Z12.out.below bw7.out Z12.out.lt)
  replace DC := hid (ds_on DC.out bw7.out)
  replace DL := hid (ds_on DL.out bw7.out)
  replace D9 := hid (ds_on D9.out bw7.out)
  replace DX := hid (ds_on DX.out bw7.out)
  replace DY := hid (ds_on DY.out bw7.out)
  replace UD := hid (us_on UD.out bw7.out)
  replace UP := hid (us_on UP.out bw7.out)
  replace HBz := hid (bh_then HBz.out bw7.out)
  clear bw7
  replace OX := hid (OX.out.below hq.out.2)
  obtain ⟨Aq, nq, cq, hvq, _, uq, _, _⟩ := hq.out.1.form
  subst hvq
  have UQ := hid uq
  clear hq uq
  go_upto_region 10 with fail
  have hq2 : ∀ W, Sem.run Try.prog (binOp .eql 23 (.agg #[.int .i64 od1, .int .i64 od2]) (.agg #[.int .i64 od1, .int .i64 od2])) W = .ok (.bool true) W := fun W => by rw [eqlD, decide_eq_true rfl]
  have hgd := grdD
  have a0 := Z10.out.c0
  have a1 := Z10.out.c1
  have b0 := Z12.out.c0
  have b1 := Z12.out.c1
  have CS := hid (rsame_any DX.out DY.out (Nat.le_refl _) (Nat.le_refl _))
  rw [decide_eq_true rfl] at CS
  go_wp2_with fail
  refine CS.out.mono ?_
  rintro e w8 ⟨rfl, h8⟩
  have U8 := hid (us_on UP.out h8.out)
  have V8 := hid (us_on UQ.out h8.out)
  have CU := hid (samed_any U8.out V8.out (Nat.le_refl _) (Nat.le_refl _))
  rw [decide_eq_true rfl] at CU
  replace OX := hid (OX.out.below h8.out)
  replace HBz := hid (bh_then HBz.out h8.out)
  clear a0 a1 b0 b1 CS Z10 Z12 DX DY UP UQ U8 V8 h8 D9 DC DL UD X0 Y9
  go_wp2_with fail
  refine CU.out.mono ?_
  rintro e w9 ⟨rfl, h9⟩
  replace OX := hid (OX.out.below h9.out)
  replace HBz := hid (bh_then HBz.out h9.out)
  have RX := hid OX.out.rowH
  have HX1 := hid (fun g (e : (Value.slice Ax nx cx).ownBlock = some g) => (own_lt OX.out g e).1)
  clear CU h9
  go_wp2
  go_loopg [23] nx (fun gg s23 wr => ∃ kk : Nat, kk ≤ nx ∧ nx - kk ≤ gg ∧ s23 = .int .i64 kk ∧ Hid (RowH wr Ax nx cx) ∧ Hid (w9.grownBy wr (Value.slice Ax nx cx).ownBlock))
  case atStart => exact ⟨0, Nat.zero_le _, by omega, rfl, RX, hid (grown_own w9 _)⟩
  case round =>
    obtain ⟨kk, hkk, hg, rfl, RK, GK⟩ := hrel
    by_cases hlt : kk < nx
    case pos =>
      have hltz : (kk : Int) < (nx : Int) := by omega
      obtain ⟨g, cur, rfl, hgc, hs, hc⟩ := RK.out (by omega)
      obtain ⟨u, hu⟩ : ∃ u, cur[kk * 2]? = some u := ⟨_, Array.getElem?_eq_getElem (by omega)⟩
      have hcell : wr.cell? ⟨g, kk * 2, none⟩ = some u := (cell_of_row wr g _ cur _ (0, 0) hgc).trans hu
      have hfz : wr.frozen? ⟨g, kk * 2, none⟩ = false := frozen_of_row wr g _ cur _ hgc
      have HST := hid (RowH.store (k := kk * 2) (m := nx) (c := cx) rfl hgc hs hc (.int .i64 (-7)))
      clear hgc hs hc hu
      go_wp2
      go_roundg (nx - (kk + 1))
      case measure => omega
      case rel => exact ⟨kk + 1, by omega, by omega, by go_num, hid HST.out.1, hid (grown_two GK.out HST.out.2)⟩
    have hltz : ¬ (kk : Int) < (nx : Int) := by omega
    obtain rfl : kk = nx := by omega
    have Z3 := hid (HBz.out.trans (spoilt_below GK.out HX1.out hz3.out HBz.out.size))
    obtain ⟨x0, x1, x2⟩ := box3 (F9.out.below Z3.out F9.out.lt)
    obtain ⟨y0, y1, y2⟩ := box3 (F4.out.below Z3.out F4.out.lt)
    have K1 := hid (rcsame_any o p o p (E9.out.below Z3.out) (EC.out.below Z3.out) Z3.out.size Z3.out.size)
    rw [decide_eq_true ⟨rfl, rfl, rfl⟩] at K1
    unfold cav at K1
    go_wp2_with fail
    refine K1.out.mono ?_
    rintro e s4 ⟨rfl, hb⟩
    have Z4 := hid (Z3.out.trans (hb.out.mono Z3.out.size))
    go_wp2
    go_ret
    exact ⟨rfl, B0.out.trans ((HB0.out.trans (Z4.out.mono HB0.out.size)).mono B0.out.size)⟩
end Go.Proofs.Ytdemhghflanncaa
