/- EtherTells, walked over the program's calls. (Printed by gen_ytl.py.) -/
import Derived.Test.YtbpijlghdpflgaaYlp
namespace Go.Proofs.Ytbpijlghdpflgaa.Eth
open Go.RowKit Go.Shelf Go.Lib

/-- Between two blocks. -/
def iv (a b : Nat) (q : Nat) : Prop := a ≤ q ∧ q < b
theorem Cow.bound {w : World} {S : Nat → Prop} {A : Option Addr} {n c : Nat} {rs : List Cr} {l : List Cp} (h : Cow w S A n c rs l) : Cow w (fun q => S q ∧ q < w.heap.size) A n c rs l :=
  ⟨h.rd, h.pair, fun r hr h0 => by
    obtain ⟨tb, off, cur, e, hs, hh, hc⟩ := h.txt r hr h0
    exact ⟨tb, off, cur, e, ⟨hs, lt_of_heap hh⟩, hh, hc⟩, fun h0 => by
    obtain ⟨g, off, cur, e, hs, hh, hc⟩ := h.row h0
    exact ⟨g, off, cur, e, ⟨hs, lt_of_heap hh⟩, hh, hc⟩⟩
theorem Cow.apart {w w' : World} {S T : Nat → Prop} {A : Option Addr} {n c : Nat} {rs : List Cr} {l : List Cp} (h : Cow w T A n c rs l) (k : KeepS S w w') (hd : ∀ q, T q → ¬ S q) : Cow w' T A n c rs l := h.keep k.size (fun q hq hlt => k.block q hlt (hd q hq))
theorem Tow.bound {w : World} {S : Nat → Prop} {r : Cr} (h : Tow w S r) : Tow w (fun q => S q ∧ q < w.heap.size) r := fun h0 => by
  obtain ⟨tb, off, cur, e, hs, hh, hc⟩ := h h0
  exact ⟨tb, off, cur, e, ⟨hs, lt_of_heap hh⟩, hh, hc⟩
theorem Tow.apart {w w' : World} {S T : Nat → Prop} {r : Cr} {p : Cp} {B : Nat} (h : Tow w T r) (c : Crd w B r p) (k : KeepS S w w') (hd : ∀ q, T q → ¬ S q) : Tow w' T r ∧ Crd w' w'.heap.size r p := by
  have k8 : Keep8 T w w' := ⟨k.size, fun q cur hq hh => k.block q (lt_of_heap hh) (hd q hq)⟩
  exact ⟨h.kept k8, h.crd c k8⟩
theorem Cbx.apart {w w' : World} {S : Nat → Prop} {g n c : Nat} {x y : Int} {A : Option Addr} {s : Bool} (h : Cbx w g x y A n c s) (k : KeepS S w w') (hd : ¬ S g) : Cbx w' g x y A n c s := (k.block g h.lt hd).trans h
theorem snL_len (l : List Cp) (c : Cp) : (snL l c).length ≤ l.length + 1 := by
  unfold snL
  split
  · simp
  · simp
theorem dbL_len (l : List Cp) (i : Int) : (dbL l i).length ≤ l.length + 1 := by
  unfold dbL
  split
  · simp
  · simp
theorem tkL_len (l : List Cp) (i : Int) : (tkL l i).length ≤ l.length + 1 := by
  unfold tkL
  split
  · rw [List.length_append, List.length_take, List.length_drop]; omega
  · simp

set_option maxHeartbeats 25600000 in
set_option maxRecDepth 100000 in
theorem tells_walk (PC : CheckOk) (PE : SameOk) (PW : TwinOk) (PS : SendOk) (PT : TakeOk) (PD : DoubleOk) (PM : ManyOk) {w : World} {n c no co m d : Nat} {A Ao D : Option Addr} {l r : List Cp} {x y i z : Int} {t : List Nat} {s : Bool}
    (h : Cls w w.heap.size A n c l) (hr : Cls w w.heap.size Ao no co r) (ht : Gs w w.heap.size D m d 1 (cellsB t)) (hf : ∀ b ∈ t, b < 256) :
    Calls Try.prog 3 #[.slice A n c, .slice Ao no co, .agg #[.int .i64 x, .int .i64 y, .slice D m d, .bool s], .int .i64 i, .int .i64 z] w fun e w' => e = .returned (.bool true) ∧ Below w.heap.size w w' := by
  obtain ⟨W, hW⟩ : ∃ W, W = w.alloc (.cells #[.int .i64 x, .int .i64 y, .slice D m d, .bool s] 25) := ⟨_, rfl⟩
  have B0 := hid (show Below w.heap.size w W from hW ▸ (Below.refl _ w).alloc (Nat.le_refl _) _)
  have X0 := hid (show Cbx W w.heap.size x y D m d s from hW ▸ Cbx.new w x y D m d s)
  have HW := hid hW
  have L0 := hid (h.on (Nat.le_refl _) B0.out)
  have U0 := hid (hr.on (Nat.le_refl _) B0.out)
  have T0 := hid (ht.on (Nat.le_refl _) B0.out)
  have hl := hid h.len
  have hcap := h.cap
  have HF := hid hf
  have htl := hid ht.blen
  clear hW h hr ht hf
  go_enter Try.func3, Try.ntmps3
  go_upto_region 1 with fail
  rw [← HW.out]
  clear HW
  have x2 := X0.out.c2
  go_wp2_with fail
  by_cases hgr : grC l
  · refine (great_yes L0.out hgr).mono ?_
    rintro e w1 ⟨rfl, rfl⟩
    clear hgr
    go_wp2
    go_ret
    exact ⟨rfl, B0.out⟩
  refine (great_no L0.out hgr).mono ?_
  rintro e w1 ⟨rfl, rfl⟩
  go_wp2_with fail
  by_cases hgo : grC r
  · refine (great_yes U0.out hgo).mono ?_
    rintro e w2 ⟨rfl, rfl⟩
    clear hgo hgr
    go_wp2
    go_ret
    exact ⟨rfl, B0.out⟩
  refine (great_no U0.out hgo).mono ?_
  rintro e w1 ⟨rfl, rfl⟩
  by_cases hm5 : 5000 < m
  · have hz5 : (m : Int) > 5000 := by omega
    clear hgo hgr
    go_wp2
    go_ret
    exact ⟨rfl, B0.out⟩
  have hz5 : ¬ (m : Int) > 5000 := by omega
  have hn : n ≤ 20 := by rw [← hl.out]; exact grC_len hgr
  have HGT := hid (grC_txt hgr)
  have CT := hid (fun (X : World) (hX : Below w1.heap.size w1 X) => twin_any (L0.out.on (Nat.le_refl _) hX) (Nat.le_refl _) (by omega) (grC_txt hgr))
  have CO := hid (fun (X : World) (g : Nat) (hX : Below w1.heap.size w1 X) (hg : X.heap[g]? = some (.cells (cellsC [(x, y, (D, m, d), s)]).toArray 25 (0, 0))) => show Calls Try.prog 5 #[.slice (some ⟨g, 0, none⟩) 1 1] X (TwinR X 1 [(x, y, t, s)]) from
    twin_any (B := X.heap.size) ⟨[(x, y, (D, m, d), s)], Gs.new (cs := cellsC [(x, y, (D, m, d), s)]) (k := 4) hg (lt_of_heap hg) rfl (Nat.le_refl _) (by omega), (Pair.nil _ _).snoc (Crd.in_ (T0.out.on (Nat.le_refl _) hX) HF.out)⟩ (Nat.le_refl _) (by omega) (by intro p hp; simp at hp; subst hp; show t.length ≤ 50000; rw [htl.out]; omega))
  clear hgo hgr
  go_upto_region 3 with fail
  have HCl := hid (fun (X : World) (hX : Below w1.heap.size w1 X) => show X.cell? ⟨w.heap.size, 0, none⟩ = some (.int .i64 x) ∧ X.cell? ⟨w.heap.size, 1, none⟩ = some (.int .i64 y) ∧ X.cell? ⟨w.heap.size, 2, none⟩ = some (.slice D m d) ∧ X.cell? ⟨w.heap.size, 3, none⟩ = some (.bool s) from by
    have := X0.out.below hX X0.out.lt
    exact ⟨this.c0, this.c1, this.c2, this.c3⟩)
  have x0 := X0.out.c0
  have x1 := X0.out.c1
  have x3 := X0.out.c3
  have HB0 := hid ((Below.refl w1.heap.size w1).drew)
  have HB1 := hid (show Below w1.heap.size w1 (w1.alloc (.cells #[.int .i64 x, .int .i64 y, .slice D m d, .bool s] 25)).drew from ((Below.refl _ w1).alloc (Nat.le_refl _) _).drew)
  have HN1 := hid (show (w1.alloc (.cells #[.int .i64 x, .int .i64 y, .slice D m d, .bool s] 25)).drew.heap[w1.heap.size]? = some (.cells (cellsC [(x, y, (D, m, d), s)]).toArray 25 (0, 0)) from heap_alloc_new w1 _)
  have HN2 := hid (fun X : World => show (X.alloc (.cells #[.int .i64 x, .int .i64 y, .slice D m d, .bool s] 25)).heap[X.heap.size]? = some (.cells (cellsC [(x, y, (D, m, d), s)]).toArray 25 (0, 0)) from heap_alloc_new X _)
  go_region_held3 (fun X => X.cell? ⟨w.heap.size, 0, none⟩ = some (.int .i64 x) ∧ X.cell? ⟨w.heap.size, 1, none⟩ = some (.int .i64 y) ∧ X.cell? ⟨w.heap.size, 2, none⟩ = some (.slice D m d) ∧ X.cell? ⟨w.heap.size, 3, none⟩ = some (.bool s))
    (first
    | with_reducible exact HCl.out _ HBf.out
    | with_reducible exact HCl.out _ (HBl.out.alloc HBl.out.size _)
    | with_reducible exact HCl.out _ HBl.out
    | with_reducible exact HCl.out _ HBo.out
    | with_reducible exact HCl.out _ HB1.out
    | with_reducible exact HCl.out _ HB0.out
    | fail)
    (first
    | (go_at_call 5
       first
       | (with_reducible refine (CT.out _ HB0.out).mono ?_
          rintro e wl ⟨A1, c1, rs1, rfl, h1⟩
          have HBl := hid (gbelow_on HB0.out (Nat.le_refl _) h1.out.2)
          have OWl := hid h1.out.1)
       | (with_reducible refine (CO.out _ wl.heap.size (HBl.out.alloc HBl.out.size _) (HN2.out wl)).mono ?_
          rintro e wf ⟨A2, c2, rs2, rfl, h2⟩
          have bq := hid ((Below.refl wl.heap.size wl).alloc (Nat.le_refl _) (.cells #[.int .i64 x, .int .i64 y, .slice D m d, .bool s] 25))
          have HBf := hid (gbelow_on (gbelow_on HBl.out (Nat.le_refl _) bq.out) (Nat.le_refl _) h2.out.2)
          have OWf := hid (OWl.out.below (gbelow_on bq.out (Nat.le_refl _) h2.out.2))
          have ONf := hid h2.out.1)
       | (with_reducible refine (CO.out wl w1.heap.size HBl.out HNl.out).mono ?_
          rintro e wf ⟨A2, c2, rs2, rfl, h2⟩
          have HBf := hid (gbelow_on HBl.out (Nat.le_refl _) h2.out.2)
          have OWf := hid (OWl.out.below h2.out.2)
          have ONf := hid h2.out.1)
       | (with_reducible refine (CO.out _ w1.heap.size HB1.out HN1.out).mono ?_
          rintro e wo ⟨A2, c2, rs2, rfl, h2⟩
          have HBo := hid (gbelow_on HB1.out (Nat.le_refl _) h2.out.2)
          have ONo := hid h2.out.1)
       | (with_reducible refine (CT.out _ HB1.out).mono ?_
          rintro e wl ⟨A1, c1, rs1, rfl, h1⟩
          have HBl := hid (gbelow_on HB1.out (Nat.le_refl _) h1.out.2)
          have HNl := hid ((h1.out.2.block w1.heap.size (lt_of_heap HN1.out)).trans HN1.out)
          have OWl := hid h1.out.1)
       | (with_reducible refine (CT.out _ HBo.out).mono ?_
          rintro e wf ⟨A1, c1, rs1, rfl, h1⟩
          have HBf := hid (gbelow_on HBo.out (Nat.le_refl _) h1.out.2)
          have ONf := hid (ONo.out.below h1.out.2)
          have OWf := hid h1.out.1)
       | fail)
    | fail)

  all_goals
    have BA := hid (Below.refl wf.heap.size wf)
    have BZ := hid (gbelow_on B0.out (Nat.le_refl _) HBf.out)
    have L := hid (L0.out.on (Nat.le_refl _) HBf.out)
    have U := hid (U0.out.on (Nat.le_refl _) HBf.out)
    have T := hid (T0.out.on (Nat.le_refl _) HBf.out)
    have X := hid (X0.out.below HBf.out X0.out.lt)
    have O := hid OWf.out.cls
    obtain ⟨g1, o1, x1', y1', D1, m1, d1, s1, rfl, _, hg1, e0, e1, e2, e3, _, htc⟩ := ONf.out.one
    obtain rfl : x1' = x := htc.num
    obtain rfl : y1' = y := htc.to_
    obtain rfl : s1 = s := htc.sp
    have HN := hid (fun (X : World) (hX : Below wf.heap.size wf X) => show X.cell? ⟨g1, o1, none⟩ = some (.int .i64 x1') ∧ X.cell? ⟨g1, o1 + 1, none⟩ = some (.int .i64 y1') ∧ X.cell? ⟨g1, o1 + 2, none⟩ = some (.slice D1 m1 d1) ∧ X.cell? ⟨g1, o1 + 3, none⟩ = some (.bool s1) from
      ⟨(hX.cell (p := ⟨g1, o1, none⟩) hg1).trans e0, (hX.cell (p := ⟨g1, o1 + 1, none⟩) hg1).trans e1, (hX.cell (p := ⟨g1, o1 + 2, none⟩) hg1).trans e2, (hX.cell (p := ⟨g1, o1 + 3, none⟩) hg1).trans e3⟩)
    have T1 := hid (show Gs wf wf.heap.size D1 m1 d1 1 (cellsB t) from htc.txt)
    have P1 := hid (fun (X : World) (hX : Below wf.heap.size wf X) => PS X _ _ _ _ _ _ _ _ _ x1' y1' t s1 (O.out.on (Nat.le_refl _) hX) (Nat.le_refl _) (T1.out.on (Nat.le_refl _) hX) HF.out (Nat.le_refl _))
    have R1 := hid (fun (X : World) (hX : Below wf.heap.size wf X) => rsend_any (x := x1') (y := y1') (t := t) (s := s1) (L.out.on (Nat.le_refl _) hX) (Nat.le_refl _) (T.out.on (Nat.le_refl _) hX) HF.out (Nat.le_refl _))
    have P2 := hid (fun (X : World) (hX : Below wf.heap.size wf X) => PT X _ _ _ _ _ i (O.out.on (Nat.le_refl _) hX) (Nat.le_refl _))
    have R2 := hid (fun (X : World) (hX : Below wf.heap.size wf X) => rtake_any (L.out.on (Nat.le_refl _) hX) (Nat.le_refl _) i)
    have P3 := hid (fun (X : World) (hX : Below wf.heap.size wf X) => PD X _ _ _ _ _ i (O.out.on (Nat.le_refl _) hX) (Nat.le_refl _))
    have R3 := hid (fun (X : World) (hX : Below wf.heap.size wf X) => rdouble_any (L.out.on (Nat.le_refl _) hX) (Nat.le_refl _) i)
    have P4 := hid (fun (X : World) (hX : Below wf.heap.size wf X) => PM X _ _ _ _ _ z (O.out.on (Nat.le_refl _) hX) (Nat.le_refl _))
    have R4 := hid (fun (X : World) (hX : Below wf.heap.size wf X) => rmany_any (L.out.on (Nat.le_refl _) hX) (Nat.le_refl _) z)
    have P5 := hid (fun (X : World) (hX : Below wf.heap.size wf X) => PC X _ _ _ _ _ (O.out.on (Nat.le_refl _) hX) (Nat.le_refl _))
    have R5 := hid (fun (X : World) (hX : Below wf.heap.size wf X) => rcheck_any (L.out.on (Nat.le_refl _) hX) (Nat.le_refl _))
    have P6 := hid (fun (X : World) (hX : Below wf.heap.size wf X) => PW X _ _ _ _ _ (O.out.on (Nat.le_refl _) hX) (Nat.le_refl _) (by omega) HGT.out)
    have P7 := hid (fun (X : World) (hX : Below wf.heap.size wf X) => PE X _ _ _ _ _ _ _ _ _ _ (O.out.on (Nat.le_refl _) hX) (U.out.on (Nat.le_refl _) hX) (Nat.le_refl _) (Nat.le_refl _))
    have R7 := hid (fun (X : World) (hX : Below wf.heap.size wf X) => same_any (L.out.on (Nat.le_refl _) hX) (U.out.on (Nat.le_refl _) hX) (Nat.le_refl _) (Nat.le_refl _))
    have P8 := hid (fun (X : World) (hX : Below wf.heap.size wf X) => PE X _ _ _ _ _ _ _ _ _ _ (O.out.on (Nat.le_refl _) hX) (L.out.on (Nat.le_refl _) hX) (Nat.le_refl _) (Nat.le_refl _))
    have R8 := hid (fun (X : World) (hX : Below wf.heap.size wf X) => same_any (O.out.on (Nat.le_refl _) hX) (L.out.on (Nat.le_refl _) hX) (Nat.le_refl _) (Nat.le_refl _))
    have R9 := hid (fun (X : World) (hX : Below wf.heap.size wf X) => sameOne_any (x := x1') (y := y1') (s := s1) (x' := x1') (y' := y1') (s' := s1) (T1.out.on (Nat.le_refl _) hX) HF.out (T.out.on (Nat.le_refl _) hX) HF.out (Nat.le_refl _) (Nat.le_refl _))
    rw [decide_eq_true rfl] at P8 R8 R9
    have K1 := hid (snL_len l (x1', y1', t, s1))
    have K2 := hid (tkL_len l i)
    have K3 := hid (dbL_len l i)
    generalize snE l (x1', y1', t, s1) = q1 at P1 R1
    generalize snL l (x1', y1', t, s1) = r1 at P1 R1 K1
    generalize tkE l i = q2 at P2 R2
    generalize tkL l i = r2 at P2 R2 K2
    generalize tkC l i = p2 at P2 R2
    generalize dbE l i = q3 at P3 R3
    generalize dbL l i = r3 at P3 R3 K3
    generalize mnA l z = q4 at P4 R4
    generalize echk l = q5 at P4 R4 P5 R5
    generalize decide (l = r) = q7 at P7 R7
    clear h1 h2 CT CO HCl x0 x1 x2 x3 HB0 HB1 HN1 HN2 L0 U0 T0 X0 B0 HBf OWf ONf htc hg1 HGT
    go_wp2_with fail
    refine (P1.out wf BA.out).mono ?_
    rintro e w5 ⟨Aa, na, ca, rsa, rfl, ha⟩
    have hb := hid ha.out.2.1
    replace BA := hid (gbelow_on BA.out (Nat.le_refl _) hb.out)
    have FA := hid ha.out.1.bound
    have hna : na ≤ 21 := by have h1 := ha.out.2.2; have h2 := K1.out; have h3 := hl.out; omega
    have Za := hid ha.out.2.1.size
    clear ha hb e0 e1 e2 e3
    have XX := X.out.below BA.out X.out.lt
    have e0 := XX.c0
    have e1 := XX.c1
    have e2 := XX.c2
    have e3 := XX.c3
    clear XX
    go_wp2_with fail
    refine (R1.out w5 BA.out).mono ?_
    rintro e w6 ⟨Ab, nb, cb, rsb, rfl, hc⟩
    have hb := hid hc.out.2.1
    replace BA := hid (gbelow_on BA.out (Nat.le_refl _) hb.out)
    replace FA := hid (FA.out.below hb.out)
    have FB := hid hc.out.1.cls
    have Zb := hid hc.out.2.1.size
    clear hc hb e0 e1 e2 e3
    go_wp2_with fail
    refine (P2.out w6 BA.out).mono ?_
    rintro e w7 ⟨Ap, np, cp, rsp, xp, yp, Dp, mp, dp, sp, Sp, rfl, hc⟩
    have hb := hid hc.out.2.2.2.2.1
    replace BA := hid (gbelow_on BA.out (Nat.le_refl _) hb.out)
    replace FA := hid (FA.out.below hb.out)
    replace FB := hid (FB.out.on (Nat.le_refl _) hb.out)
    have FP := hid hc.out.1.bound
    have FX := hid hc.out.2.2.1.bound
    have FY := hid hc.out.2.2.2.1
    have HSp := hid hc.out.2.1
    have hnp : np ≤ 21 := by have h1 := hc.out.2.2.2.2.2; have h2 := K2.out; have h3 := hl.out; omega
    have Zc := hid hb.out.size
    clear hc hb
    have bx := hid ((Below.refl w7.heap.size w7).alloc (Nat.le_refl _) (.cells #[.int .i64 xp, .int .i64 yp, .slice Dp mp dp, .bool sp] 25))
    have XP := hid (Cbx.new w7 xp yp Dp mp dp sp)
    replace BA := hid (gbelow_on BA.out (Nat.le_refl _) bx.out)
    replace FA := hid (FA.out.below bx.out)
    replace FB := hid (FB.out.on (Nat.le_refl _) bx.out)
    replace FP := hid (FP.out.below bx.out)
    replace FX := hid (FX.out.kept (Keep8.of_below bx.out))
    replace FY := hid (FY.out.on (Nat.le_refl _) bx.out)
    clear bx
    go_wp2_with fail
    refine (R2.out _ BA.out).mono ?_
    rintro e w8 ⟨Aq, nq, cq, xq, yq, Dq, mq, dq, sq, rfl, hc⟩
    have hb := hid hc.out.2.2.1
    replace BA := hid (gbelow_on BA.out (Nat.le_refl _) hb.out)
    replace FA := hid (FA.out.below hb.out)
    replace FB := hid (FB.out.on (Nat.le_refl _) hb.out)
    replace FP := hid (FP.out.below hb.out)
    replace FX := hid (FX.out.kept (Keep8.of_below hb.out))
    replace FY := hid (FY.out.on (Nat.le_refl _) hb.out)
    replace XP := hid (XP.out.below hb.out XP.out.lt)
    have FQ := hid hc.out.1
    have FZ := hid hc.out.2.1
    have FW := hid hc.out.2.2.2.bound
    have Zd := hid (show w7.heap.size + 1 ≤ w8.heap.size from by have := hb.out.size; simpa using this)
    clear hc hb
    have bx := hid ((Below.refl w8.heap.size w8).alloc (Nat.le_refl _) (.cells #[.int .i64 xq, .int .i64 yq, .slice Dq mq dq, .bool sq] 25))
    have XQ := hid (Cbx.new w8 xq yq Dq mq dq sq)
    replace BA := hid (gbelow_on BA.out (Nat.le_refl _) bx.out)
    replace FA := hid (FA.out.below bx.out)
    replace FB := hid (FB.out.on (Nat.le_refl _) bx.out)
    replace FP := hid (FP.out.below bx.out)
    replace FX := hid (FX.out.kept (Keep8.of_below bx.out))
    replace FY := hid (FY.out.on (Nat.le_refl _) bx.out)
    replace XP := hid (XP.out.below bx.out XP.out.lt)
    replace FQ := hid (FQ.out.on (Nat.le_refl _) bx.out)
    replace FZ := hid (FZ.out.on (Nat.le_refl _) bx.out)
    replace FW := hid (FW.out.kept (Keep8.of_below bx.out))
    clear bx
    go_wp2_with fail
    refine (P3.out _ BA.out).mono ?_
    rintro e w9 ⟨Ad, nd, cd, rsd, rfl, hc⟩
    have hb := hid hc.out.2.1
    replace BA := hid (gbelow_on BA.out (Nat.le_refl _) hb.out)
    replace FA := hid (FA.out.below hb.out)
    replace FB := hid (FB.out.on (Nat.le_refl _) hb.out)
    replace FP := hid (FP.out.below hb.out)
    replace FX := hid (FX.out.kept (Keep8.of_below hb.out))
    replace FY := hid (FY.out.on (Nat.le_refl _) hb.out)
    replace XP := hid (XP.out.below hb.out XP.out.lt)
    replace FQ := hid (FQ.out.on (Nat.le_refl _) hb.out)
    replace FZ := hid (FZ.out.on (Nat.le_refl _) hb.out)
    replace FW := hid (FW.out.kept (Keep8.of_below hb.out))
    replace XQ := hid (XQ.out.below hb.out XQ.out.lt)
    have FD := hid hc.out.1.bound
    have hnd : nd ≤ 21 := by have h1 := hc.out.2.2; have h2 := K3.out; have h3 := hl.out; omega
    have Ze := hid (show w8.heap.size + 1 ≤ w9.heap.size from by have := hb.out.size; simpa using this)
    have Z8 := hid (show (w8.alloc (.cells #[.int .i64 xq, .int .i64 yq, .slice Dq mq dq, .bool sq] 25)).heap.size = w8.heap.size + 1 from by simp)
    clear hc hb
    go_wp2_with fail
    refine (R3.out _ BA.out).mono ?_
    rintro e w10 ⟨Ak, nk, ck, rsk, rfl, hc⟩
    have hb := hid hc.out.2.1
    replace BA := hid (gbelow_on BA.out (Nat.le_refl _) hb.out)
    replace FA := hid (FA.out.below hb.out)
    replace FB := hid (FB.out.on (Nat.le_refl _) hb.out)
    replace FP := hid (FP.out.below hb.out)
    replace FX := hid (FX.out.kept (Keep8.of_below hb.out))
    replace FY := hid (FY.out.on (Nat.le_refl _) hb.out)
    replace XP := hid (XP.out.below hb.out XP.out.lt)
    replace FQ := hid (FQ.out.on (Nat.le_refl _) hb.out)
    replace FZ := hid (FZ.out.on (Nat.le_refl _) hb.out)
    replace FW := hid (FW.out.kept (Keep8.of_below hb.out))
    replace XQ := hid (XQ.out.below hb.out XQ.out.lt)
    replace FD := hid (FD.out.below hb.out)
    have FK := hid hc.out.1.cls
    have Zf := hid hb.out.size
    clear hc hb
    go_wp2_with fail
    refine (P4.out _ BA.out).mono ?_
    rintro e w11 ⟨rfl, hb⟩
    replace BA := hid (gbelow_on BA.out (Nat.le_refl _) hb.out)
    replace FA := hid (FA.out.below hb.out)
    replace FB := hid (FB.out.on (Nat.le_refl _) hb.out)
    replace FP := hid (FP.out.below hb.out)
    replace FX := hid (FX.out.kept (Keep8.of_below hb.out))
    replace FY := hid (FY.out.on (Nat.le_refl _) hb.out)
    replace XP := hid (XP.out.below hb.out XP.out.lt)
    replace FQ := hid (FQ.out.on (Nat.le_refl _) hb.out)
    replace FZ := hid (FZ.out.on (Nat.le_refl _) hb.out)
    replace FW := hid (FW.out.kept (Keep8.of_below hb.out))
    replace XQ := hid (XQ.out.below hb.out XQ.out.lt)
    replace FD := hid (FD.out.below hb.out)
    replace FK := hid (FK.out.on (Nat.le_refl _) hb.out)
    have Zg := hid hb.out.size
    clear hb
    go_wp2_with fail
    refine (R4.out _ BA.out).mono ?_
    rintro e w12 ⟨rfl, hb⟩
    replace BA := hid (gbelow_on BA.out (Nat.le_refl _) hb.out)
    replace FA := hid (FA.out.below hb.out)
    replace FB := hid (FB.out.on (Nat.le_refl _) hb.out)
    replace FP := hid (FP.out.below hb.out)
    replace FX := hid (FX.out.kept (Keep8.of_below hb.out))
    replace FY := hid (FY.out.on (Nat.le_refl _) hb.out)
    replace XP := hid (XP.out.below hb.out XP.out.lt)
    replace FQ := hid (FQ.out.on (Nat.le_refl _) hb.out)
    replace FZ := hid (FZ.out.on (Nat.le_refl _) hb.out)
    replace FW := hid (FW.out.kept (Keep8.of_below hb.out))
    replace XQ := hid (XQ.out.below hb.out XQ.out.lt)
    replace FD := hid (FD.out.below hb.out)
    replace FK := hid (FK.out.on (Nat.le_refl _) hb.out)
    have Zh := hid hb.out.size
    clear hb
    go_wp2_with fail
    refine (P6.out _ BA.out).mono ?_
    rintro e w13 ⟨At, ct, rst, rfl, hc⟩
    have hb := hid hc.out.2
    replace BA := hid (gbelow_on BA.out (Nat.le_refl _) hb.out)
    replace FA := hid (FA.out.below hb.out)
    replace FB := hid (FB.out.on (Nat.le_refl _) hb.out)
    replace FP := hid (FP.out.below hb.out)
    replace FX := hid (FX.out.kept (Keep8.of_below hb.out))
    replace FY := hid (FY.out.on (Nat.le_refl _) hb.out)
    replace XP := hid (XP.out.below hb.out XP.out.lt)
    replace FQ := hid (FQ.out.on (Nat.le_refl _) hb.out)
    replace FZ := hid (FZ.out.on (Nat.le_refl _) hb.out)
    replace FW := hid (FW.out.kept (Keep8.of_below hb.out))
    replace XQ := hid (XQ.out.below hb.out XQ.out.lt)
    replace FD := hid (FD.out.below hb.out)
    replace FK := hid (FK.out.on (Nat.le_refl _) hb.out)
    have FT := hid hc.out.1.bound
    have Zi := hid hb.out.size
    clear hc hb
    have CS := hid (same_any FA.out.cls FB.out (Nat.le_refl _) (Nat.le_refl _))
    rw [decide_eq_true rfl] at CS
    go_wp2_with fail
    refine (CS.out).mono ?_
    rintro e w14 ⟨rfl, hb⟩
    replace BA := hid (gbelow_on BA.out (Nat.le_refl _) hb.out)
    replace FA := hid (FA.out.below hb.out)
    replace FB := hid (FB.out.on (Nat.le_refl _) hb.out)
    replace FP := hid (FP.out.below hb.out)
    replace FX := hid (FX.out.kept (Keep8.of_below hb.out))
    replace FY := hid (FY.out.on (Nat.le_refl _) hb.out)
    replace XP := hid (XP.out.below hb.out XP.out.lt)
    replace FQ := hid (FQ.out.on (Nat.le_refl _) hb.out)
    replace FZ := hid (FZ.out.on (Nat.le_refl _) hb.out)
    replace FW := hid (FW.out.kept (Keep8.of_below hb.out))
    replace XQ := hid (XQ.out.below hb.out XQ.out.lt)
    replace FD := hid (FD.out.below hb.out)
    replace FK := hid (FK.out.on (Nat.le_refl _) hb.out)
    replace FT := hid (FT.out.below hb.out)
    have Zj := hid hb.out.size
    clear hb
    clear CS
    have CS := hid (same_any FP.out.cls FQ.out (Nat.le_refl _) (Nat.le_refl _))
    rw [decide_eq_true rfl] at CS
    go_wp2_with fail
    refine (CS.out).mono ?_
    rintro e w15 ⟨rfl, hb⟩
    replace BA := hid (gbelow_on BA.out (Nat.le_refl _) hb.out)
    replace FA := hid (FA.out.below hb.out)
    replace FB := hid (FB.out.on (Nat.le_refl _) hb.out)
    replace FP := hid (FP.out.below hb.out)
    replace FX := hid (FX.out.kept (Keep8.of_below hb.out))
    replace FY := hid (FY.out.on (Nat.le_refl _) hb.out)
    replace XP := hid (XP.out.below hb.out XP.out.lt)
    replace FQ := hid (FQ.out.on (Nat.le_refl _) hb.out)
    replace FZ := hid (FZ.out.on (Nat.le_refl _) hb.out)
    replace FW := hid (FW.out.kept (Keep8.of_below hb.out))
    replace XQ := hid (XQ.out.below hb.out XQ.out.lt)
    replace FD := hid (FD.out.below hb.out)
    replace FK := hid (FK.out.on (Nat.le_refl _) hb.out)
    replace FT := hid (FT.out.below hb.out)
    have Zk := hid hb.out.size
    clear hb
    clear CS
    obtain ⟨e0, e1, e2, e3⟩ := And.intro XP.out.c0 (And.intro XP.out.c1 (And.intro XP.out.c2 XP.out.c3))
    obtain ⟨k0, k1, k2, k3⟩ := And.intro XQ.out.c0 (And.intro XQ.out.c1 (And.intro XQ.out.c2 XQ.out.c3))
    have CS := hid (sameOne_any (x := xp) (y := yp) (s := sp) (x' := xq) (y' := yq) (s' := sq) FY.out.txt FY.out.fit FZ.out.txt FZ.out.fit (Nat.le_refl _) (Nat.le_refl _))
    rw [decide_eq_true (show ((xp, yp, p2.2.2.1, sp) : Cp) = (xq, yq, p2.2.2.1, sq) from by rw [show xp = xq from FY.out.num.trans FZ.out.num.symm, show yp = yq from FY.out.to_.trans FZ.out.to_.symm, show sp = sq from FY.out.sp.trans FZ.out.sp.symm])] at CS
    go_wp2_with fail
    refine (CS.out).mono ?_
    rintro e w16 ⟨rfl, hb⟩
    replace BA := hid (gbelow_on BA.out (Nat.le_refl _) hb.out)
    replace FA := hid (FA.out.below hb.out)
    replace FB := hid (FB.out.on (Nat.le_refl _) hb.out)
    replace FP := hid (FP.out.below hb.out)
    replace FX := hid (FX.out.kept (Keep8.of_below hb.out))
    replace FY := hid (FY.out.on (Nat.le_refl _) hb.out)
    replace XP := hid (XP.out.below hb.out XP.out.lt)
    replace FQ := hid (FQ.out.on (Nat.le_refl _) hb.out)
    replace FZ := hid (FZ.out.on (Nat.le_refl _) hb.out)
    replace FW := hid (FW.out.kept (Keep8.of_below hb.out))
    replace XQ := hid (XQ.out.below hb.out XQ.out.lt)
    replace FD := hid (FD.out.below hb.out)
    replace FK := hid (FK.out.on (Nat.le_refl _) hb.out)
    replace FT := hid (FT.out.below hb.out)
    have Zl := hid hb.out.size
    clear hb
    clear CS e0 e1 e2 e3 k0 k1 k2 k3
    have CS := hid (same_any FD.out.cls FK.out (Nat.le_refl _) (Nat.le_refl _))
    rw [decide_eq_true rfl] at CS
    go_wp2_with fail
    refine (CS.out).mono ?_
    rintro e w17 ⟨rfl, hb⟩
    replace BA := hid (gbelow_on BA.out (Nat.le_refl _) hb.out)
    replace FA := hid (FA.out.below hb.out)
    replace FB := hid (FB.out.on (Nat.le_refl _) hb.out)
    replace FP := hid (FP.out.below hb.out)
    replace FX := hid (FX.out.kept (Keep8.of_below hb.out))
    replace FY := hid (FY.out.on (Nat.le_refl _) hb.out)
    replace XP := hid (XP.out.below hb.out XP.out.lt)
    replace FQ := hid (FQ.out.on (Nat.le_refl _) hb.out)
    replace FZ := hid (FZ.out.on (Nat.le_refl _) hb.out)
    replace FW := hid (FW.out.kept (Keep8.of_below hb.out))
    replace XQ := hid (XQ.out.below hb.out XQ.out.lt)
    replace FD := hid (FD.out.below hb.out)
    replace FK := hid (FK.out.on (Nat.le_refl _) hb.out)
    replace FT := hid (FT.out.below hb.out)
    have Zm := hid hb.out.size
    clear hb
    clear CS
    go_wp2_with fail
    refine (P5.out _ BA.out).mono ?_
    rintro e w18 ⟨rfl, hb⟩
    replace BA := hid (gbelow_on BA.out (Nat.le_refl _) hb.out)
    replace FA := hid (FA.out.below hb.out)
    replace FB := hid (FB.out.on (Nat.le_refl _) hb.out)
    replace FP := hid (FP.out.below hb.out)
    replace FX := hid (FX.out.kept (Keep8.of_below hb.out))
    replace FY := hid (FY.out.on (Nat.le_refl _) hb.out)
    replace XP := hid (XP.out.below hb.out XP.out.lt)
    replace FQ := hid (FQ.out.on (Nat.le_refl _) hb.out)
    replace FZ := hid (FZ.out.on (Nat.le_refl _) hb.out)
    replace FW := hid (FW.out.kept (Keep8.of_below hb.out))
    replace XQ := hid (XQ.out.below hb.out XQ.out.lt)
    replace FD := hid (FD.out.below hb.out)
    replace FK := hid (FK.out.on (Nat.le_refl _) hb.out)
    replace FT := hid (FT.out.below hb.out)
    have Zn := hid hb.out.size
    clear hb
    go_wp2_with fail
    refine (R5.out _ BA.out).mono ?_
    rintro e w19 ⟨rfl, hb⟩
    replace BA := hid (gbelow_on BA.out (Nat.le_refl _) hb.out)
    replace FA := hid (FA.out.below hb.out)
    replace FB := hid (FB.out.on (Nat.le_refl _) hb.out)
    replace FP := hid (FP.out.below hb.out)
    replace FX := hid (FX.out.kept (Keep8.of_below hb.out))
    replace FY := hid (FY.out.on (Nat.le_refl _) hb.out)
    replace XP := hid (XP.out.below hb.out XP.out.lt)
    replace FQ := hid (FQ.out.on (Nat.le_refl _) hb.out)
    replace FZ := hid (FZ.out.on (Nat.le_refl _) hb.out)
    replace FW := hid (FW.out.kept (Keep8.of_below hb.out))
    replace XQ := hid (XQ.out.below hb.out XQ.out.lt)
    replace FD := hid (FD.out.below hb.out)
    replace FK := hid (FK.out.on (Nat.le_refl _) hb.out)
    replace FT := hid (FT.out.below hb.out)
    have Zo := hid hb.out.size
    clear hb
    have LL := hid (L.out.on (Nat.le_refl _) BA.out)
    have CS := hid (same_any FT.out.cls LL.out (Nat.le_refl _) (Nat.le_refl _))
    rw [decide_eq_true rfl] at CS
    go_wp2_with fail
    refine (CS.out).mono ?_
    rintro e w20 ⟨rfl, hb⟩
    replace BA := hid (gbelow_on BA.out (Nat.le_refl _) hb.out)
    replace FA := hid (FA.out.below hb.out)
    replace FB := hid (FB.out.on (Nat.le_refl _) hb.out)
    replace FP := hid (FP.out.below hb.out)
    replace FX := hid (FX.out.kept (Keep8.of_below hb.out))
    replace FY := hid (FY.out.on (Nat.le_refl _) hb.out)
    replace XP := hid (XP.out.below hb.out XP.out.lt)
    replace FQ := hid (FQ.out.on (Nat.le_refl _) hb.out)
    replace FZ := hid (FZ.out.on (Nat.le_refl _) hb.out)
    replace FW := hid (FW.out.kept (Keep8.of_below hb.out))
    replace XQ := hid (XQ.out.below hb.out XQ.out.lt)
    replace FD := hid (FD.out.below hb.out)
    replace FK := hid (FK.out.on (Nat.le_refl _) hb.out)
    replace FT := hid (FT.out.below hb.out)
    have Zp := hid hb.out.size
    clear hb
    clear CS
    clear LL
    go_wp2_with fail
    refine (P7.out _ BA.out).mono ?_
    rintro e w21 ⟨rfl, hb⟩
    replace BA := hid (gbelow_on BA.out (Nat.le_refl _) hb.out)
    replace FA := hid (FA.out.below hb.out)
    replace FB := hid (FB.out.on (Nat.le_refl _) hb.out)
    replace FP := hid (FP.out.below hb.out)
    replace FX := hid (FX.out.kept (Keep8.of_below hb.out))
    replace FY := hid (FY.out.on (Nat.le_refl _) hb.out)
    replace XP := hid (XP.out.below hb.out XP.out.lt)
    replace FQ := hid (FQ.out.on (Nat.le_refl _) hb.out)
    replace FZ := hid (FZ.out.on (Nat.le_refl _) hb.out)
    replace FW := hid (FW.out.kept (Keep8.of_below hb.out))
    replace XQ := hid (XQ.out.below hb.out XQ.out.lt)
    replace FD := hid (FD.out.below hb.out)
    replace FK := hid (FK.out.on (Nat.le_refl _) hb.out)
    replace FT := hid (FT.out.below hb.out)
    have Zq := hid hb.out.size
    clear hb
    go_wp2_with fail
    refine (R7.out _ BA.out).mono ?_
    rintro e w22 ⟨rfl, hb⟩
    replace BA := hid (gbelow_on BA.out (Nat.le_refl _) hb.out)
    replace FA := hid (FA.out.below hb.out)
    replace FB := hid (FB.out.on (Nat.le_refl _) hb.out)
    replace FP := hid (FP.out.below hb.out)
    replace FX := hid (FX.out.kept (Keep8.of_below hb.out))
    replace FY := hid (FY.out.on (Nat.le_refl _) hb.out)
    replace XP := hid (XP.out.below hb.out XP.out.lt)
    replace FQ := hid (FQ.out.on (Nat.le_refl _) hb.out)
    replace FZ := hid (FZ.out.on (Nat.le_refl _) hb.out)
    replace FW := hid (FW.out.kept (Keep8.of_below hb.out))
    replace XQ := hid (XQ.out.below hb.out XQ.out.lt)
    replace FD := hid (FD.out.below hb.out)
    replace FK := hid (FK.out.on (Nat.le_refl _) hb.out)
    replace FT := hid (FT.out.below hb.out)
    have Zr := hid hb.out.size
    clear hb
    go_wp2_with fail
    refine (P8.out _ BA.out).mono ?_
    rintro e w23 ⟨rfl, hb⟩
    replace BA := hid (gbelow_on BA.out (Nat.le_refl _) hb.out)
    replace FA := hid (FA.out.below hb.out)
    replace FB := hid (FB.out.on (Nat.le_refl _) hb.out)
    replace FP := hid (FP.out.below hb.out)
    replace FX := hid (FX.out.kept (Keep8.of_below hb.out))
    replace FY := hid (FY.out.on (Nat.le_refl _) hb.out)
    replace XP := hid (XP.out.below hb.out XP.out.lt)
    replace FQ := hid (FQ.out.on (Nat.le_refl _) hb.out)
    replace FZ := hid (FZ.out.on (Nat.le_refl _) hb.out)
    replace FW := hid (FW.out.kept (Keep8.of_below hb.out))
    replace XQ := hid (XQ.out.below hb.out XQ.out.lt)
    replace FD := hid (FD.out.below hb.out)
    replace FK := hid (FK.out.on (Nat.le_refl _) hb.out)
    replace FT := hid (FT.out.below hb.out)
    have Zs := hid hb.out.size
    clear hb
    clear FB FQ FK P1 R1 P2 R2 P3 R3 P4 R4 P5 R5 P6 P7 R7 P8 O U
    have ZZ := hid (show wf.heap.size ≤ w5.heap.size ∧ w5.heap.size ≤ w6.heap.size ∧ w6.heap.size ≤ w7.heap.size ∧ w7.heap.size + 1 ≤ w8.heap.size ∧ w8.heap.size + 1 ≤ w9.heap.size ∧ w9.heap.size ≤ w12.heap.size ∧ w12.heap.size ≤ w13.heap.size ∧ w13.heap.size ≤ w23.heap.size from by
      have z1 := Za.out; have z2 := Zb.out; have z3 := Zc.out; have z4 := Zd.out; have z5 := Ze.out; have z6 := Zf.out; have z7 := Zg.out; have z8 := Zh.out; have z9 := Zi.out
      have y1 := Zj.out; have y2 := Zk.out; have y3 := Zl.out; have y4 := Zm.out; have y5 := Zn.out; have y6 := Zo.out; have y7 := Zp.out; have y8 := Zq.out; have y9 := Zr.out; have y0 := Zs.out
      have z0 := Z8.out
      exact ⟨z1, z2, z3, z4, by omega, by omega, z9, by omega⟩)
    have FD := hid (FD.out.mono (T := iv (w8.heap.size + 1) w9.heap.size) (fun q hq => ⟨by have := Z8.out; have := hq.1; omega, hq.2⟩))
    have FW := hid (FW.out.mono (T := iv (w7.heap.size + 1) w8.heap.size) (fun q hq => ⟨by have h1 := hq.1; simpa using h1, hq.2⟩))
    have FT := hid (FT.out.mono (T := iv w12.heap.size w13.heap.size) (fun q hq => hq))
    have FA := hid (FA.out.mono (T := iv wf.heap.size w5.heap.size) (fun q hq => hq))
    clear Za Zb Zc Zd Ze Zf Zg Zh Zi Zj Zk Zl Zm Zn Zo Zp Zq Zr Zs Z8
    go_wp2_with fail
    refine (spoil_any FA.out (by omega)).mono ?_
    rintro e w24 ⟨rfl, hk⟩
    have BA := hid (BA.out.trans ((hk.out.mono (T := fun q => wf.heap.size ≤ q) (fun q hs => by have zz := ZZ.out; have bz := BA.out.size; have := hs.1; exact this)).below (by have := BA.out.size; omega)))
    have FP := hid (FP.out.apart hk.out (fun q hq hs => by have zz := ZZ.out; have h1 := HSp.out q hq.1; unfold iv at *; omega))
    have fx := FX.out.apart FY.out hk.out (fun q hq hs => by have zz := ZZ.out; have h1 := hq.1.1; have h2 := hq.2; unfold iv at *; omega)
    have FX := hid fx.1
    have FY := hid fx.2
    clear fx
    have fx := FW.out.apart FZ.out hk.out (fun q hq hs => by have zz := ZZ.out; unfold iv at *; omega)
    have FW := hid fx.1
    have FZ := hid fx.2
    clear fx
    have XP := hid (XP.out.apart hk.out (fun hs => by have zz := ZZ.out; unfold iv at *; omega))
    have XQ := hid (XQ.out.apart hk.out (fun hs => by have zz := ZZ.out; unfold iv at *; omega))
    have FD := hid (FD.out.apart hk.out (fun q hq hs => by have zz := ZZ.out; unfold iv at *; omega))
    have FT := hid (FT.out.apart hk.out (fun q hq hs => by have zz := ZZ.out; unfold iv at *; omega))
    have Zk_w24 := hid hk.out.size
    clear hk
    clear FA
    go_wp2_with fail
    refine (spoil_any FP.out (by omega)).mono ?_
    rintro e w25 ⟨rfl, hk⟩
    have BA := hid (BA.out.trans ((hk.out.mono (T := fun q => wf.heap.size ≤ q) (fun q hs => by have zz := ZZ.out; have bz := BA.out.size; have h9 := HSp.out q hs.1; omega)).below (by have := BA.out.size; omega)))
    have fx := FX.out.apart FY.out hk.out (fun q hq hs => hq.1.2 hs.1)
    have FX := hid fx.1
    have FY := hid fx.2
    clear fx
    have fx := FW.out.apart FZ.out hk.out (fun q hq hs => by have zz := ZZ.out; have h9 := HSp.out _ hs.1; have h8 := hs.2; clear hs; unfold iv at *; omega)
    have FW := hid fx.1
    have FZ := hid fx.2
    clear fx
    have XP := hid (XP.out.apart hk.out (fun hs => by have zz := ZZ.out; have h9 := HSp.out _ hs.1; have h8 := hs.2; clear hs; unfold iv at *; omega))
    have XQ := hid (XQ.out.apart hk.out (fun hs => by have zz := ZZ.out; have h9 := HSp.out _ hs.1; have h8 := hs.2; clear hs; unfold iv at *; omega))
    have FD := hid (FD.out.apart hk.out (fun q hq hs => by have zz := ZZ.out; have h9 := HSp.out _ hs.1; have h8 := hs.2; clear hs; unfold iv at *; omega))
    have FT := hid (FT.out.apart hk.out (fun q hq hs => by have zz := ZZ.out; have h9 := HSp.out _ hs.1; have h8 := hs.2; clear hs; unfold iv at *; omega))
    have Zk_w25 := hid hk.out.size
    clear hk
    clear FP
    obtain ⟨e0, e1, e2, e3⟩ := And.intro XP.out.c0 (And.intro XP.out.c1 (And.intro XP.out.c2 XP.out.c3))
    obtain ⟨k0, k1, k2, k3⟩ := And.intro XQ.out.c0 (And.intro XQ.out.c1 (And.intro XQ.out.c2 XQ.out.c3))
    have CS := hid (sameOne_any (x := xp) (y := yp) (s := sp) (x' := xq) (y' := yq) (s' := sq) FY.out.txt FY.out.fit FZ.out.txt FZ.out.fit (Nat.le_refl _) (Nat.le_refl _))
    rw [decide_eq_true (show ((xp, yp, p2.2.2.1, sp) : Cp) = (xq, yq, p2.2.2.1, sq) from by rw [show xp = xq from FY.out.num.trans FZ.out.num.symm, show yp = yq from FY.out.to_.trans FZ.out.to_.symm, show sp = sq from FY.out.sp.trans FZ.out.sp.symm])] at CS
    go_wp2_with fail
    refine (CS.out).mono ?_
    rintro e w26 ⟨rfl, hb⟩
    replace BA := hid (gbelow_on BA.out (Nat.le_refl _) hb.out)
    replace FD := hid (FD.out.below hb.out)
    replace FT := hid (FT.out.below hb.out)
    replace FX := hid (FX.out.kept (Keep8.of_below hb.out))
    replace FY := hid (FY.out.on (Nat.le_refl _) hb.out)
    replace FZ := hid (FZ.out.on (Nat.le_refl _) hb.out)
    replace XP := hid (XP.out.below hb.out XP.out.lt)
    have Z26s := hid hb.out.size
    clear hb CS k0 k1 k2 k3 e0 e1 e2 e3 XQ FZ FW
    have e0 := XP.out.c0
    have e1 := XP.out.c1
    have e2 := XP.out.c2
    have e3 := XP.out.c3
    have bx := hid ((Below.refl w26.heap.size w26).alloc (Nat.le_refl _) (.cells #[.int .i64 xp, .int .i64 yp, .slice Dp mp dp, .bool sp] 25))
    have hrx := hid (heap_alloc_new w26 (.cells #[.int .i64 xp, .int .i64 yp, .slice Dp mp dp, .bool sp] 25))
    have Z26 := hid (show w13.heap.size ≤ w26.heap.size from by have zz := ZZ.out; have a1 := Zk_w24.out; have a2 := Zk_w25.out; have a3 := Z26s.out; omega)
    replace BA := hid (gbelow_on BA.out (Nat.le_refl _) bx.out)
    replace FD := hid (FD.out.below bx.out)
    replace FT := hid (FT.out.below bx.out)
    replace FX := hid (FX.out.kept (Keep8.of_below bx.out))
    replace FY := hid (FY.out.on (Nat.le_refl _) bx.out)
    replace XP := hid (XP.out.below bx.out XP.out.lt)
    have CX := hid (show Cow (w26.alloc (.cells #[.int .i64 xp, .int .i64 yp, .slice Dp mp dp, .bool sp] 25)) (fun q => iv w6.heap.size w7.heap.size q ∨ q = w26.heap.size) (some ⟨w26.heap.size, 0, none⟩) 1 1 [(xp, yp, (Dp, mp, dp), sp)] [p2] from
      ⟨Gs.new (cs := cellsC [(xp, yp, (Dp, mp, dp), sp)]) (k := 4) hrx.out (lt_of_heap hrx.out) rfl (Nat.le_refl _) (by omega), (Pair.nil _ _).snoc FY.out, fun r hr => by
        obtain rfl : r = (xp, yp, (Dp, mp, dp), sp) := by simpa using hr
        exact FX.out.mono (fun q hq => .inl ⟨hq.1.1, hq.2⟩), fun _ => ⟨w26.heap.size, 0, _, rfl, .inr rfl, hrx.out, Nat.le_refl _⟩⟩)
    go_wp2_with fail
    refine (spoil_any CX.out (by omega)).mono ?_
    rintro e w27 ⟨rfl, hk⟩
    have BA := hid (BA.out.trans ((hk.out.mono (T := fun q => wf.heap.size ≤ q) (fun q hs => by have zz := ZZ.out; have bz := BA.out.size; have z26 := Z26.out; unfold iv at hs; omega)).below (by have := BA.out.size; omega)))
    have FD := hid (FD.out.apart hk.out (fun q hq hs => by have zz := ZZ.out; have z26 := Z26.out; unfold iv at *; omega))
    have FT := hid (FT.out.apart hk.out (fun q hq hs => by have zz := ZZ.out; have z26 := Z26.out; unfold iv at *; omega))
    have Zk_w27 := hid hk.out.size
    clear hk
    clear CX FX FY XP e0 e1 e2 e3 bx hrx
    go_wp2_with fail
    refine (spoil_any FD.out (by omega)).mono ?_
    rintro e w28 ⟨rfl, hk⟩
    have BA := hid (BA.out.trans ((hk.out.mono (T := fun q => wf.heap.size ≤ q) (fun q hs => by have zz := ZZ.out; have bz := BA.out.size; unfold iv at hs; omega)).below (by have := BA.out.size; omega)))
    have FT := hid (FT.out.apart hk.out (fun q hq hs => by have zz := ZZ.out; unfold iv at *; omega))
    have Zk_w28 := hid hk.out.size
    clear hk
    clear FD
    go_wp2_with fail
    refine (spoil_any FT.out (by omega)).mono ?_
    rintro e w29 ⟨rfl, hk⟩
    have BA := hid (BA.out.trans ((hk.out.mono (T := fun q => wf.heap.size ≤ q) (fun q hs => by have zz := ZZ.out; have bz := BA.out.size; unfold iv at hs; omega)).below (by have := BA.out.size; omega)))
    have Zk_w29 := hid hk.out.size
    clear hk
    clear FT
    have HCl := hid (fun (X' : World) (hX : Below wf.heap.size wf X') => show (X'.cell? ⟨w.heap.size, 0, none⟩ = some (.int .i64 x1') ∧ X'.cell? ⟨w.heap.size, 1, none⟩ = some (.int .i64 y1') ∧ X'.cell? ⟨w.heap.size, 2, none⟩ = some (.slice D m d) ∧ X'.cell? ⟨w.heap.size, 3, none⟩ = some (.bool s1)) ∧ X'.cell? ⟨g1, o1, none⟩ = some (.int .i64 x1') ∧ X'.cell? ⟨g1, o1 + 1, none⟩ = some (.int .i64 y1') ∧ X'.cell? ⟨g1, o1 + 2, none⟩ = some (.slice D1 m1 d1) ∧ X'.cell? ⟨g1, o1 + 3, none⟩ = some (.bool s1) from by
      have := X.out.below hX X.out.lt
      exact ⟨⟨this.c0, this.c1, this.c2, this.c3⟩, HN.out X' hX⟩)
    have HB0 := hid (BA.out.drew)
    go_wp2_with fail
    go_region_held3 (fun X' => (X'.cell? ⟨w.heap.size, 0, none⟩ = some (.int .i64 x1') ∧ X'.cell? ⟨w.heap.size, 1, none⟩ = some (.int .i64 y1') ∧ X'.cell? ⟨w.heap.size, 2, none⟩ = some (.slice D m d) ∧ X'.cell? ⟨w.heap.size, 3, none⟩ = some (.bool s1)) ∧ X'.cell? ⟨g1, o1, none⟩ = some (.int .i64 x1') ∧ X'.cell? ⟨g1, o1 + 1, none⟩ = some (.int .i64 y1') ∧ X'.cell? ⟨g1, o1 + 2, none⟩ = some (.slice D1 m1 d1) ∧ X'.cell? ⟨g1, o1 + 3, none⟩ = some (.bool s1))
      (first
      | with_reducible exact HCl.out _ HB2.out
      | with_reducible exact HCl.out _ HB1.out
      | with_reducible exact HCl.out _ HB0.out
      | fail)
      (first
      | (go_at_call 15
         with_reducible refine (R8.out _ HB0.out).mono ?_
         rintro e w30 ⟨rfl, hb⟩
         have HB1 := hid (gbelow_on HB0.out (Nat.le_refl _) hb.out))
      | (go_at_call 16
         with_reducible refine (R9.out _ HB1.out).mono ?_
         rintro e w31 ⟨rfl, hb⟩
         have HB2 := hid (gbelow_on HB1.out (Nat.le_refl _) hb.out))
      | fail)
    all_goals
      go_wp2
      go_ret
      exact ⟨rfl, gbelow_on BZ.out (Nat.le_refl _) HB2.out⟩
end Go.Proofs.Ytbpijlghdpflgaa.Eth
