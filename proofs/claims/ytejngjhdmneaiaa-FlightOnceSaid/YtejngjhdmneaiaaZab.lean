/- Flight, the laws: alive. -/
import Derived.Test.YtejngjhdmneaiaaZaa
namespace Go.Proofs.Ytejngjhdmneaiaa.Fli
set_option maxRecDepth 100000
open Go.RowKit Go.Shelf Go.Lib

theorem may6 : MayM p6 := by
  have h : ∀ V : Nat, 0 < V → MayD (false, 1, f1 V, 0) := fun V hV => ⟨⟨by show (1 : Nat) ≤ 40; omega, fun _ => by show f1 V 0 ≠ 0; unfold f1; rw [if_pos rfl]; omega⟩, by simp, by simp, by simp, by simp⟩
  have h0 : MayD (false, 0, fun _ => 0, 0) := ⟨⟨by decide, fun h => absurd h (by decide)⟩, by simp, by simp, by simp, by simp⟩
  exact ⟨h 6 (by omega), h 1 (by omega), h0, h0⟩
theorem chk6 (c : Int) (hc : 1 ≤ c ∧ c ≤ 16) : lchk MayM [((5, 2, c, p6) : Ld Pm)] := ⟨by simp, fun p hp => by
  obtain rfl : p = (5, 2, c, p6) := by simpa using hp
  exact ⟨by simp, by simp, hc, may6⟩, List.pairwise_singleton _ _⟩
theorem ask6 (c : Int) (hc : 1 ≤ c ∧ c ≤ 16) : askE [((5, 2, c, p6) : Ld Pm)] 5 = 0 := askE_zero.2 ⟨chk6 c hc, by omega, by omega⟩
theorem ask0 (n : Int) (hn : 0 ≤ n ∧ n ≤ 1048575) : askE ([] : List (Ld Pm)) n = 0 := askE_zero.2 ⟨⟨by simp, by simp, List.Pairwise.nil⟩, hn⟩
theorem sz6 : SzM p6 := ⟨by decide, by decide, by decide, by decide⟩
theorem szl6 (c : Int) : SzL [((5, 2, c, p6) : Ld Pm)] := ⟨by simp, fun p hp => by
  obtain rfl : p = (5, 2, c, p6) := by simpa using hp
  exact sz6⟩
theorem szl0 : SzL [] := ⟨by simp, by simp⟩
theorem al1 : lnE [] 5 2 p6 = 0 ∧ lnL [] 5 2 p6 = [(5, 2, 1, p6)] := by
  have e : lnE [] 5 2 p6 = 0 := lnE_ok (ask0 5 (by omega)) (by omega) may6 rfl (by simp)
  exact ⟨e, by unfold lnL; rw [e]; rfl⟩
theorem al2 : tE [((5, 2, 1, p6) : Ld Pm)] 5 0 = 0 ∧ tL [((5, 2, 1, p6) : Ld Pm)] 5 0 = [(5, 2, 2, p6)] := by
  have e : tE [((5, 2, 1, p6) : Ld Pm)] 5 0 = 0 := by unfold tE; rw [if_pos (ask6 1 (by omega))]; rfl
  exact ⟨e, by unfold tL; rw [if_pos e]; rfl⟩
theorem al3 : tE [((5, 2, 2, p6) : Ld Pm)] 5 1 = 0 ∧ tL [((5, 2, 2, p6) : Ld Pm)] 5 1 = [(5, 2, 1, p6)] ∧ tX [((5, 2, 2, p6) : Ld Pm)] 5 1 = p0 := by
  have e : tE [((5, 2, 2, p6) : Ld Pm)] 5 1 = 0 := by unfold tE; rw [if_pos (ask6 2 (by omega))]; rfl
  exact ⟨e, by unfold tL; rw [if_pos e]; rfl, by unfold tX; rw [if_pos e]; rfl⟩
theorem al4 : tE [((5, 2, 1, p6) : Ld Pm)] 5 2 = 0 ∧ tL [((5, 2, 1, p6) : Ld Pm)] 5 2 = [] ∧ tX [((5, 2, 1, p6) : Ld Pm)] 5 2 = (5, 2, 1, p6) := by
  have e : tE [((5, 2, 1, p6) : Ld Pm)] 5 2 = 0 := by unfold tE; rw [if_pos (ask6 1 (by omega))]; rfl
  exact ⟨e, by unfold tL; rw [if_pos e]; rfl, by unfold tX; rw [if_pos e]; rfl⟩
theorem al5 : tE ([] : List (Ld Pm)) 5 2 = 0 ∧ tL ([] : List (Ld Pm)) 5 2 = [] ∧ tX ([] : List (Ld Pm)) 5 2 = p0 := by
  have e : tE ([] : List (Ld Pm)) 5 2 = 0 := by unfold tE; rw [if_pos (ask0 5 (by omega))]; rfl
  exact ⟨e, by unfold tL; rw [if_pos e]; rfl, by unfold tX; rw [if_pos e]; rfl⟩
theorem yields_ml {ops : Array Oper} {S : World → Prop} {o : Oper} {a : Act} (hw : Region.wanted o (yielded ops a.tmps) = true) (p : Operand) (ho : o.op = .load 27 p)
    (b off : Nat) (D : Nat → Dy) (hx : a.eval p = .pointer (some ⟨b, off, none⟩)) (hS : ∀ w, S w → w.rangeAt b off (mcells D).toList) : YieldsIf Try.prog ops S o (.agg (mcells D)) a :=
  yieldsIf_load_mid hw _ p ho b off hx _ _ (fun w hw => hS w hw) Try.underlying27 rfl (mass_size_ D)
theorem Lof.form1 {B : Nat} {w : World} {v : Value} {rs : List Lr} {n e c : Int} {g : Pm} (h : Lof B w v rs [(n, e, c, g)]) : ∃ A k, v = .slice A 1 k ∧ 1 ≤ k ∧ Lls w w.heap.size A 1 k [(n, e, c, g)] := by
  obtain ⟨A, k, e, hl⟩ := h.form
  exact ⟨A, k, e, hl.cap, hl⟩
theorem Lof.form0 {B : Nat} {w : World} {v : Value} {rs : List Lr} (h : Lof B w v rs []) : ∃ A k, v = .slice A 0 k ∧ Lls w w.heap.size A 0 k [] := by
  obtain ⟨A, k, e, hl⟩ := h.form
  exact ⟨A, k, e, hl⟩
/-- Where the first load's Copies stand. -/
theorem Lls.cnt0 {w : World} {B k : Nat} {A : Option Addr} {n e c : Int} {g : Pm} (h : Lls w B A 1 k [(n, e, c, g)]) : ∃ b off, A = some ⟨b, off, none⟩ ∧ b < B ∧ w.cell? ⟨b, off + 2, none⟩ = some (.int .i64 c) := by
  obtain ⟨b, off, r, p, hA, hb, hp, hr, hc⟩ := h.get (k := 0) (by omega)
  refine ⟨b, off, hA, hb, ?_⟩
  have := hc 2 _ rfl
  rw [Nat.zero_mul, Nat.zero_add] at this
  rw [this, hr.cp]
  obtain rfl : (n, e, c, g) = p := by simpa using hp
  rfl
set_option maxHeartbeats 6400000 in
theorem alive_any (w : World) : Calls Try.prog 24 #[] w fun e w' => e = .returned (.bool true) ∧ Hid (Below w.heap.size w w') := by
  go_enter Try.func24, Try.ntmps24
  go_wp2_with fail
  refine (six_any w).mono ?_
  rintro e w1 ⟨M1, rfl, hp1, H1⟩
  have C2 := hid (launch_any (w := w1) (B := w1.heap.size) (n := 5) (ep := 2) (M := M1) (Lls.nil' w1 _) (fun k hk => (H1.out.1 k hk).rd) (fun k hk => (H1.out.1 k hk).nil_of) (Nat.le_refl _) szl0 (by rw [hp1]; exact sz6))
  rw [hp1, al1.1, al1.2] at C2
  go_wp2_with fail
  refine C2.out.mono ?_
  rintro e w2 ⟨v1, rs1, rfl, H2⟩
  obtain ⟨Aa, ca, rfl, hca, ha⟩ := H2.out.1.form1
  have Ka := hid ha
  have D2 := hid (gbelow_on H1.out.2 (Nat.le_refl _) H2.out.2)
  clear ha H2 C2
  have C3 := hid (double_any (w := w2) 5 Ka.out (Nat.le_refl _) (szl6 1))
  rw [al2.1, al2.2] at C3
  go_wp2_with fail
  refine C3.out.mono ?_
  rintro e w3 ⟨v2, rs2, rfl, H3⟩
  obtain ⟨Ab, cb, rfl, hcb, hb⟩ := H3.out.1.form1
  have Kb := hid hb
  have D3 := hid (gbelow_on D2.out (Nat.le_refl _) H3.out.2)
  obtain ⟨gb, ob, rfl, hgb, hcellb⟩ := hb.cnt0
  have Fb := hid (And.intro hgb hcellb)
  clear hb H3 C3 hgb hcellb
  have C4 := hid (lose_any (w := w3) 5 Kb.out (Nat.le_refl _) (szl6 2))
  rw [al3.1, al3.2.1, al3.2.2] at C4
  go_wp2_with fail
  refine C4.out.mono ?_
  rintro e w4 ⟨v3, rs3, ⟨x6, y6, z6, M6⟩, mid3, rfl, H6⟩
  obtain ⟨Ac, cc, rfl, hcc, hc⟩ := H6.out.1.form1
  have Kc := hid hc
  have D4 := hid (gbelow_on D3.out (Nat.le_refl _) H6.out.2.1)
  obtain ⟨gc, oc, rfl, hgc, hcellc⟩ := hc.cnt0
  have Fc := hid (And.intro hgc hcellc)
  have Eb4 := H6.out.2.1
  have E34 := hid Eb4
  clear hc C4 hgc hcellc Eb4
  have C5 := hid (fun (X : World) (hX : Below w4.heap.size w4 X) => land_any (w := X) 5 (Kc.out.below hX) hX.size (szl6 1))
  rw [al4.1, al4.2.1, al4.2.2] at C5
  have Y6 := hid (Lbx.new w4 0 0 0 D0)
  have A6 := hid ((Below.refl _ w4).alloc (Nat.le_refl w4.heap.size) (.cells (lcells 0 0 0 D0) 40))
  go_wp2_with (first
    | (refine gput_row (P := Try.prog) rfl _ (.tmp 6) (.tmp 28) rfl w4.heap.size 40 _ (lcells x6 y6 z6 M6) rfl rfl Y6.out rfl (loadSize _ _ _ _) (lcells_one _ _ _ _) ?_
       intro w5 xx6 qq6
       have X6 := hid (show Lbx w5 w4.heap.size x6 y6 z6 M6 from xx6)
       have B6 := hid (show Below w4.heap.size w4 w5 from qq6.bel A6.out (Nat.le_refl _))
       have L6 := hid (H6.out.2.2.1.below B6.out)
       clear xx6 qq6)
    | fail)
  refine (C5.out w5 B6.out).mono ?_
  rintro e w6 ⟨v4, rs4, ⟨x9, y9, z9, M9⟩, mid4, rfl, H9⟩
  obtain ⟨Ad, cd, rfl, hd⟩ := H9.out.1.form0
  have Kd := hid hd
  have E56 := hid H9.out.2.1
  clear hd C5
  have C7 := hid (fun (X : World) (hX : Below w6.heap.size w6 X) => land_any (w := X) 5 (Kd.out.below hX) hX.size szl0)
  rw [al5.1, al5.2.1, al5.2.2] at C7
  have Y9 := hid (Lbx.new w6 0 0 0 D0)
  have A9 := hid ((Below.refl _ w6).alloc (Nat.le_refl w6.heap.size) (.cells (lcells 0 0 0 D0) 40))
  go_wp2_with (first
    | (refine gput_row (P := Try.prog) rfl _ (.tmp 9) (.tmp 34) rfl w6.heap.size 40 _ (lcells x9 y9 z9 M9) rfl rfl Y9.out rfl (loadSize _ _ _ _) (lcells_one _ _ _ _) ?_
       intro w7 xx9 qq9
       have X9 := hid (show Lbx w7 w6.heap.size x9 y9 z9 M9 from xx9)
       have B9 := hid (show Below w6.heap.size w6 w7 from qq9.bel A9.out (Nat.le_refl _))
       have L9 := hid (H9.out.2.2.1.below B9.out)
       clear xx9 qq9)
    | fail)
  refine (C7.out w7 B9.out).mono ?_
  rintro e w8 ⟨v5, rs5, ⟨x12, y12, z12, M12⟩, mid5, rfl, H12⟩
  obtain ⟨Ae, ce, rfl, he⟩ := H12.out.1.form0
  have E78 := hid H12.out.2.1
  clear he C7
  have Y12 := hid (Lbx.new w8 0 0 0 D0)
  have A12 := hid ((Below.refl _ w8).alloc (Nat.le_refl w8.heap.size) (.cells (lcells 0 0 0 D0) 40))
  go_wp2_with (first
    | (refine gput_row (P := Try.prog) rfl _ (.tmp 12) (.tmp 40) rfl w8.heap.size 40 _ (lcells x12 y12 z12 M12) rfl rfl Y12.out rfl (loadSize _ _ _ _) (lcells_one _ _ _ _) ?_
       intro w9 xx12 qq12
       have X12 := hid (show Lbx w9 w8.heap.size x12 y12 z12 M12 from xx12)
       have B12 := hid (show Below w8.heap.size w8 w9 from qq12.bel A12.out (Nat.le_refl _))
       have L12 := hid (H12.out.2.2.1.below B12.out)
       clear xx12 qq12)
    | fail)
  have J78 := hid (gbelow_on E78.out (Nat.le_refl _) B12.out)
  have J69 := hid (gbelow_on B9.out (Nat.le_refl _) J78.out)
  have J59 := hid (gbelow_on E56.out (Nat.le_refl _) J69.out)
  have J49 := hid (gbelow_on B6.out (Nat.le_refl _) J59.out)
  have J39 := hid (gbelow_on E34.out (Nat.le_refl _) J49.out)
  have J0 := hid (gbelow_on D3.out (Nat.le_refl _) J39.out)
  have X6z := hid (X6.out.below J59.out X6.out.lt)
  have X9z := hid (X9.out.below J78.out X9.out.lt)
  have hz9 : z9 = 1 ∧ y9 = 2 ∧ pmd M9 = p6 := ⟨H9.out.2.2.1.cp, H9.out.2.2.1.ep, H9.out.2.2.1.pl⟩
  obtain ⟨rfl, rfl, hp9⟩ := hz9
  have HP9 := hid hp9
  have CF := hid (show ∀ X, Below w9.heap.size w9 X → (X.cell? ⟨gb, ob + 2, none⟩ = some (.int .i64 2) ∧ X.cell? ⟨gc, oc + 2, none⟩ = some (.int .i64 1) ∧ X.cell? ⟨w6.heap.size, 1, none⟩ = some (.int .i64 2) ∧ X.rangeAt w4.heap.size 0 (lcells x6 y6 z6 M6).toList ∧ X.rangeAt w6.heap.size 3 (mcells M9).toList ∧ X.rangeAt w8.heap.size 0 (lcells x12 y12 z12 M12).toList) from fun X hX =>
    ⟨((hX.cell (p := ⟨gb, ob + 2, none⟩) (Nat.lt_of_lt_of_le Fb.out.1 J39.out.size)).trans (J39.out.cell (p := ⟨gb, ob + 2, none⟩) Fb.out.1)).trans Fb.out.2,
     ((hX.cell (p := ⟨gc, oc + 2, none⟩) (Nat.lt_of_lt_of_le Fc.out.1 J49.out.size)).trans (J49.out.cell (p := ⟨gc, oc + 2, none⟩) Fc.out.1)).trans Fc.out.2,
     (X9z.out.below hX X9z.out.lt).c1, lbx_row (X6z.out.below hX X6z.out.lt), (X9z.out.below hX X9z.out.lt).mass, lbx_row (X12.out.below hX X12.out.lt)⟩)
  have CN := hid (fun (X : World) (hX : Below w9.heap.size w9 X) => says_bool (none_any (w := X) (x := x6) (y := y6) (z := z6) (M := M6) (fun k hk => ((((L6.out.lim k hk).rd.below J59.out).mono J59.out.size).below hX).mono hX.size)) true ⟨fun _ => by
    have h := H6.out.2.2.1
    have e1 := h.nu; have e2 := h.ep; have e3 := h.cp; have e4 := h.pl
    simp only at e1 e2 e3 e4
    rw [e1, e2, e3, e4], fun _ => rfl⟩)
  have CN2 := hid (fun (X : World) (hX : Below w9.heap.size w9 X) => says_bool (none_any (w := X) (x := x12) (y := y12) (z := z12) (M := M12) (fun k hk => (((L12.out.lim k hk).rd).below hX).mono hX.size)) true ⟨fun _ => by
    have h := H12.out.2.2.1
    have e1 := h.nu; have e2 := h.ep; have e3 := h.cp; have e4 := h.pl
    simp only at e1 e2 e3 e4
    rw [e1, e2, e3, e4], fun _ => rfl⟩)
  have CS := hid (fun (X : World) (hX : Below w9.heap.size w9 X) (N : Nat → Dy) (hN : Mrd X X.heap.size N) (hp : pmd N = p6) => says_bool (msame_raw (w := X) (D := M9) (E := N) (P := ∀ j, j < 4 → Dsm (M9 j) (N j)) (fun k hk => ((((L9.out.lim k hk).rd.below J78.out).mono J78.out.size).below hX).mono hX.size) hN (hid Iff.rfl)) true ⟨fun _ => pmd_eq.1 (HP9.out.trans hp.symm), fun _ => rfl⟩)
  clear X6 X9 X12 L6 L9 L12 H6 H9 H12 Fb Fc Ka Kb Kc Kd
  have BX := hid (Below.refl w9.heap.size w9).drew
  go_upto_region 8 with fail
  have mixed : Try.prog.follows .mixedOrders = true := by kernel_rfl
  refine wp_region_held_drew (S := fun X => X.cell? ⟨gb, ob + 2, none⟩ = some (.int .i64 2) ∧ X.cell? ⟨gc, oc + 2, none⟩ = some (.int .i64 1) ∧ X.cell? ⟨w6.heap.size, 1, none⟩ = some (.int .i64 2) ∧ X.rangeAt w4.heap.size 0 (lcells x6 y6 z6 M6).toList ∧ X.rangeAt w6.heap.size 3 (mcells M9).toList ∧ X.rangeAt w8.heap.size 0 (lcells x12 y12 z12 M12).toList) (by kernel_rfl) (CF.out _ BX.out) (fun hHeld => ?_)
  generalize w9.drew = V at *
  clear hp9
  refine wpAnyH_take (i := 0) (v := ?vv1) rfl (by kernel_rfl) (by kernel_rfl) (by kernel_rfl) (fun _ _ _ h => h) (Or.inl ⟨by rfl, ?yv1⟩) (by assumption) ?rv1
  case yv1 => (intro w0 hSw; (try dsimp only at hSw); (try simp only [List.getElem_toArray, List.getElem_cons_zero]); go_simp; try with_reducible rfl)
  (try simp only [Act.put, List.setIfInBounds_toArray, List.set_cons_zero, List.set_cons_succ, List.getElem_toArray, List.getElem_cons_zero])
  refine wpAnyH_take (i := 1) (v := ?vv2) rfl (by kernel_rfl) (by kernel_rfl) (by kernel_rfl) (fun _ _ _ h => h) (Or.inl ⟨by rfl, ?yv2⟩) (by assumption) ?rv2
  case yv2 => (intro w0 hSw; (try dsimp only at hSw); (try simp only [List.getElem_toArray, List.getElem_cons_succ, List.getElem_cons_zero]); go_simp; try with_reducible rfl)
  (try simp only [Act.put, List.setIfInBounds_toArray, List.set_cons_zero, List.set_cons_succ, List.getElem_toArray, List.getElem_cons_succ, List.getElem_cons_zero])
  refine wpAnyH_take (i := 2) (v := ?vv3) rfl (by kernel_rfl) (by kernel_rfl) (by kernel_rfl) (fun _ _ _ h => h) (Or.inl ⟨by rfl, ?yv3⟩) (by assumption) ?rv3
  case yv3 => (intro w0 hSw; (try dsimp only at hSw); (try simp only [List.getElem_toArray, List.getElem_cons_succ, List.getElem_cons_zero]); go_simp; try with_reducible rfl)
  (try simp only [Act.put, List.setIfInBounds_toArray, List.set_cons_zero, List.set_cons_succ, List.getElem_toArray, List.getElem_cons_succ, List.getElem_cons_zero])
  refine wpAnyH_take (i := 3) (v := ?vv4) rfl (by kernel_rfl) (by kernel_rfl) (by kernel_rfl) (fun _ _ _ h => h) (Or.inl ⟨by rfl, ?yv4⟩) (by assumption) ?rv4
  case yv4 => (intro w0 hSw; (try dsimp only at hSw); (try simp only [List.getElem_toArray, List.getElem_cons_succ, List.getElem_cons_zero]); go_simp; try with_reducible rfl)
  (try simp only [Act.put, List.setIfInBounds_toArray, List.set_cons_zero, List.set_cons_succ, List.getElem_toArray, List.getElem_cons_succ, List.getElem_cons_zero])
  refine wpAnyH_take (i := 4) (v := ?vv5) rfl (by kernel_rfl) (by kernel_rfl) (by kernel_rfl) (fun _ _ _ h => h) (Or.inl ⟨by rfl, ?yv5⟩) (by assumption) ?rv5
  case yv5 => (intro w0 hSw; (try dsimp only at hSw); (try simp only [List.getElem_toArray, List.getElem_cons_succ, List.getElem_cons_zero]); go_simp; try with_reducible rfl)
  (try simp only [Act.put, List.setIfInBounds_toArray, List.set_cons_zero, List.set_cons_succ, List.getElem_toArray, List.getElem_cons_succ, List.getElem_cons_zero])
  refine wpAnyH_take (i := 5) (v := ?vv6) rfl (by kernel_rfl) (by kernel_rfl) (by kernel_rfl) (fun _ _ _ h => h) (Or.inl ⟨by rfl, ?yv6⟩) (by assumption) ?rv6
  case yv6 => (intro w0 hSw; (try dsimp only at hSw); (try simp only [List.getElem_toArray, List.getElem_cons_succ, List.getElem_cons_zero]); go_simp; try with_reducible rfl)
  (try simp only [Act.put, List.setIfInBounds_toArray, List.set_cons_zero, List.set_cons_succ, List.getElem_toArray, List.getElem_cons_succ, List.getElem_cons_zero])
  refine wpAnyH_take (i := 6) (v := ?vv7) rfl (by kernel_rfl) (by kernel_rfl) (by kernel_rfl) (fun _ _ _ h => h) (Or.inl ⟨by rfl, ?yv7⟩) (by assumption) ?rv7
  case yv7 => (intro w0 hSw; (try dsimp only at hSw); (try simp only [List.getElem_toArray, List.getElem_cons_succ, List.getElem_cons_zero]); go_simp; try with_reducible rfl)
  (try simp only [Act.put, List.setIfInBounds_toArray, List.set_cons_zero, List.set_cons_succ, List.getElem_toArray, List.getElem_cons_succ, List.getElem_cons_zero])
  refine wpAnyH_take (i := 7) (v := ?vv8) rfl (by kernel_rfl) (by kernel_rfl) (by kernel_rfl) (fun _ _ _ h => h) (Or.inl ⟨by rfl, ?yv8⟩) (by assumption) ?rv8
  case yv8 => (intro w0 hSw; (try dsimp only at hSw); (try simp only [List.getElem_toArray, List.getElem_cons_succ, List.getElem_cons_zero]); go_simp; try with_reducible rfl)
  (try simp only [Act.put, List.setIfInBounds_toArray, List.set_cons_zero, List.set_cons_succ, List.getElem_toArray, List.getElem_cons_succ, List.getElem_cons_zero])
  refine wpAnyH_take (i := 8) (v := ?vv9) rfl (by kernel_rfl) (by kernel_rfl) (by kernel_rfl) (fun _ _ _ h => h) (Or.inl ⟨by rfl, ?yv9⟩) (by assumption) ?rv9
  case yv9 => (intro w0 hSw; (try dsimp only at hSw); (try simp only [List.getElem_toArray, List.getElem_cons_succ, List.getElem_cons_zero]); go_simp; try with_reducible rfl)
  (try simp only [Act.put, List.setIfInBounds_toArray, List.set_cons_zero, List.set_cons_succ, List.getElem_toArray, List.getElem_cons_succ, List.getElem_cons_zero])
  refine wpAnyH_take (i := 9) (v := ?vv10) rfl (by kernel_rfl) (by kernel_rfl) (by kernel_rfl) (fun _ _ _ h => h) (Or.inl ⟨by rfl, ?yv10⟩) (by assumption) ?rv10
  case yv10 => (intro w0 hSw; (try dsimp only at hSw); (try simp only [List.getElem_toArray, List.getElem_cons_succ, List.getElem_cons_zero]); go_simp; try with_reducible rfl)
  (try simp only [Act.put, List.setIfInBounds_toArray, List.set_cons_zero, List.set_cons_succ, List.getElem_toArray, List.getElem_cons_succ, List.getElem_cons_zero])
  refine wpAnyH_take (i := 10) (v := ?vv11) rfl (by kernel_rfl) (by kernel_rfl) (by kernel_rfl) (fun _ _ _ h => h) (Or.inl ⟨by rfl, ?yv11⟩) (by assumption) ?rv11
  case yv11 => (intro w0 hSw; (try dsimp only at hSw); (try simp only [List.getElem_toArray, List.getElem_cons_succ, List.getElem_cons_zero]); go_simp; try with_reducible rfl)
  (try simp only [Act.put, List.setIfInBounds_toArray, List.set_cons_zero, List.set_cons_succ, List.getElem_toArray, List.getElem_cons_succ, List.getElem_cons_zero])
  refine wpAnyH_take (i := 11) (v := ?vv12) rfl (by kernel_rfl) (by kernel_rfl) (by kernel_rfl) (fun _ _ _ h => h) (Or.inl ⟨by rfl, ?yv12⟩) (by assumption) ?rv12
  case yv12 => (intro w0 hSw; (try dsimp only at hSw); (try simp only [List.getElem_toArray, List.getElem_cons_succ, List.getElem_cons_zero]); go_simp; try with_reducible rfl)
  (try simp only [Act.put, List.setIfInBounds_toArray, List.set_cons_zero, List.set_cons_succ, List.getElem_toArray, List.getElem_cons_succ, List.getElem_cons_zero])
  refine wpAnyH_take (i := 12) (v := ?vv13) rfl (by kernel_rfl) (by kernel_rfl) (by kernel_rfl) (fun _ _ _ h => h) (Or.inl ⟨by rfl, ?yv13⟩) (by assumption) ?rv13
  case yv13 => (intro w0 hSw; (try dsimp only at hSw); (try simp only [List.getElem_toArray, List.getElem_cons_succ, List.getElem_cons_zero]); go_simp; try with_reducible rfl)
  (try simp only [Act.put, List.setIfInBounds_toArray, List.set_cons_zero, List.set_cons_succ, List.getElem_toArray, List.getElem_cons_succ, List.getElem_cons_zero])
  refine wpAnyH_take (i := 13) rfl (by kernel_rfl) (by kernel_rfl) (by kernel_rfl) (fun _ _ _ h => h) (yields_lload (by rfl) (.tmp 6) rfl w4.heap.size 0 x6 y6 z6 M6 rfl (fun X hX => hX.2.2.2.1)) hHeld ?_
  (try simp only [Act.put, List.setIfInBounds_toArray, List.set_cons_zero, List.set_cons_succ, List.getElem_toArray, List.getElem_cons_succ, List.getElem_cons_zero])
  refine wpAnyH_ready (rs := [14]) (by kernel_rfl) (by simp) ?_
  refine AllReadyH.cons rfl (fun K' hK => ?_) AllReadyH.nil
  (try simp only [Act.put, List.setIfInBounds_toArray, List.set_cons_zero, List.set_cons_succ, List.getElem_toArray, List.getElem_cons_succ, List.getElem_cons_zero])
  go_simp
  refine (CN.out _ BX.out).mono ?_
  rintro e v1 ⟨rfl, hb⟩
  replace BX := hid (BX.out.trans (hb.out.mono BX.out.size))
  clear hb
  try dsimp only
  refine hK.out _ _ (CF.out _ BX.out) (fun hHeld => ?_)
  clear hK K'
  (try simp only [Act.put, List.setIfInBounds_toArray, List.set_cons_zero, List.set_cons_succ, List.getElem_toArray, List.getElem_cons_succ, List.getElem_cons_zero])
  refine wpAnyH_take (i := 15) (v := ?vv14) rfl (by kernel_rfl) (by kernel_rfl) (by kernel_rfl) (fun _ _ _ h => h) (Or.inl ⟨by rfl, ?yv14⟩) (by assumption) ?rv14
  case yv14 => (intro w0 hSw; (try dsimp only at hSw); (try simp only [List.getElem_toArray, List.getElem_cons_succ, List.getElem_cons_zero]); go_simp; try with_reducible rfl)
  (try simp only [Act.put, List.setIfInBounds_toArray, List.set_cons_zero, List.set_cons_succ, List.getElem_toArray, List.getElem_cons_succ, List.getElem_cons_zero])
  refine wpAnyH_take (i := 16) (v := ?vv15) rfl (by kernel_rfl) (by kernel_rfl) (by kernel_rfl) (fun _ _ _ h => h) (Or.inl ⟨by rfl, ?yv15⟩) (by assumption) ?rv15
  case yv15 => (intro w0 hSw; (try dsimp only at hSw); (try simp only [List.getElem_toArray, List.getElem_cons_succ, List.getElem_cons_zero]); go_simp; try with_reducible rfl)
  (try simp only [Act.put, List.setIfInBounds_toArray, List.set_cons_zero, List.set_cons_succ, List.getElem_toArray, List.getElem_cons_succ, List.getElem_cons_zero])
  refine wpAnyH_take (i := 17) (v := ?vv16) rfl (by kernel_rfl) (by kernel_rfl) (by kernel_rfl) (fun _ _ _ h => h) (Or.inl ⟨by rfl, ?yv16⟩) (by assumption) ?rv16
  case yv16 => (intro w0 hSw; (try dsimp only at hSw); (try simp only [List.getElem_toArray, List.getElem_cons_succ, List.getElem_cons_zero]); go_simp; try with_reducible rfl)
  (try simp only [Act.put, List.setIfInBounds_toArray, List.set_cons_zero, List.set_cons_succ, List.getElem_toArray, List.getElem_cons_succ, List.getElem_cons_zero])
  refine wpAnyH_take (i := 18) (v := ?vv17) rfl (by kernel_rfl) (by kernel_rfl) (by kernel_rfl) (fun _ _ _ h => h) (Or.inl ⟨by rfl, ?yv17⟩) (by assumption) ?rv17
  case yv17 => (intro w0 hSw; (try dsimp only at hSw); (try simp only [List.getElem_toArray, List.getElem_cons_succ, List.getElem_cons_zero]); go_simp; try with_reducible rfl)
  (try simp only [Act.put, List.setIfInBounds_toArray, List.set_cons_zero, List.set_cons_succ, List.getElem_toArray, List.getElem_cons_succ, List.getElem_cons_zero])
  refine wpAnyH_take (i := 19) (v := ?vv18) rfl (by kernel_rfl) (by kernel_rfl) (by kernel_rfl) (fun _ _ _ h => h) (Or.inl ⟨by rfl, ?yv18⟩) (by assumption) ?rv18
  case yv18 => (intro w0 hSw; (try dsimp only at hSw); (try simp only [List.getElem_toArray, List.getElem_cons_succ, List.getElem_cons_zero]); go_simp; try with_reducible rfl)
  (try simp only [Act.put, List.setIfInBounds_toArray, List.set_cons_zero, List.set_cons_succ, List.getElem_toArray, List.getElem_cons_succ, List.getElem_cons_zero])
  refine wpAnyH_take (i := 20) (v := ?vv19) rfl (by kernel_rfl) (by kernel_rfl) (by kernel_rfl) (fun _ _ _ h => h) (Or.inl ⟨by rfl, ?yv19⟩) (by assumption) ?rv19
  case yv19 => (intro w0 hSw; (try dsimp only at hSw); (try simp only [List.getElem_toArray, List.getElem_cons_succ, List.getElem_cons_zero]); go_simp; try with_reducible rfl)
  (try simp only [Act.put, List.setIfInBounds_toArray, List.set_cons_zero, List.set_cons_succ, List.getElem_toArray, List.getElem_cons_succ, List.getElem_cons_zero])
  refine wpAnyH_take (i := 21) (v := ?vv20) rfl (by kernel_rfl) (by kernel_rfl) (by kernel_rfl) (fun _ _ _ h => h) (Or.inl ⟨by rfl, ?yv20⟩) (by assumption) ?rv20
  case yv20 => (intro w0 hSw; (try dsimp only at hSw); (try simp only [List.getElem_toArray, List.getElem_cons_succ, List.getElem_cons_zero]); go_simp; try with_reducible rfl)
  (try simp only [Act.put, List.setIfInBounds_toArray, List.set_cons_zero, List.set_cons_succ, List.getElem_toArray, List.getElem_cons_succ, List.getElem_cons_zero])
  refine wpAnyH_take (i := 22) (v := ?vv21) rfl (by kernel_rfl) (by kernel_rfl) (by kernel_rfl) (fun _ _ _ h => h) (Or.inl ⟨by rfl, ?yv21⟩) (by assumption) ?rv21
  case yv21 => (intro w0 hSw; (try dsimp only at hSw); (try simp only [List.getElem_toArray, List.getElem_cons_succ, List.getElem_cons_zero]); go_simp; try with_reducible rfl)
  (try simp only [Act.put, List.setIfInBounds_toArray, List.set_cons_zero, List.set_cons_succ, List.getElem_toArray, List.getElem_cons_succ, List.getElem_cons_zero])
  refine wpAnyH_take (i := 23) rfl (by kernel_rfl) (by kernel_rfl) (by kernel_rfl) (fun _ _ _ h => h) (yields_ml (by rfl) (.tmp 97) rfl w6.heap.size 3 M9 rfl (fun X hX => hX.2.2.2.2.1)) hHeld ?_
  (try simp only [Act.put, List.setIfInBounds_toArray, List.set_cons_zero, List.set_cons_succ, List.getElem_toArray, List.getElem_cons_succ, List.getElem_cons_zero])
  refine wpAnyH_ready (rs := [24]) (by kernel_rfl) (by simp) ?_
  refine AllReadyH.cons rfl (fun K' hK => ?_) AllReadyH.nil
  (try simp only [Act.put, List.setIfInBounds_toArray, List.set_cons_zero, List.set_cons_succ, List.getElem_toArray, List.getElem_cons_succ, List.getElem_cons_zero])
  go_simp
  refine (six_any _).mono ?_
  rintro e v2 ⟨N, rfl, hpN, HN⟩
  replace BX := hid (BX.out.trans (HN.out.2.mono BX.out.size))
  have CS2 := hid (CS.out v2 BX.out N (fun k hk => (HN.out.1 k hk).rd) hpN)
  try dsimp only
  refine hK.out _ _ (CF.out _ BX.out) (fun hHeld => ?_)
  clear hK K'
  (try simp only [Act.put, List.setIfInBounds_toArray, List.set_cons_zero, List.set_cons_succ, List.getElem_toArray, List.getElem_cons_succ, List.getElem_cons_zero])
  refine wpAnyH_ready (rs := [25]) (by kernel_rfl) (by simp) ?_
  refine AllReadyH.cons rfl (fun K' hK => ?_) AllReadyH.nil
  (try simp only [Act.put, List.setIfInBounds_toArray, List.set_cons_zero, List.set_cons_succ, List.getElem_toArray, List.getElem_cons_succ, List.getElem_cons_zero])
  go_simp
  refine (CS2.out).mono ?_
  rintro e v3 ⟨rfl, hb⟩
  replace BX := hid (BX.out.trans (hb.out.mono BX.out.size))
  clear hb
  try dsimp only
  refine hK.out _ _ (CF.out _ BX.out) (fun hHeld => ?_)
  clear hK K'
  (try simp only [Act.put, List.setIfInBounds_toArray, List.set_cons_zero, List.set_cons_succ, List.getElem_toArray, List.getElem_cons_succ, List.getElem_cons_zero])
  refine wpAnyH_take (i := 26) (v := ?vv22) rfl (by kernel_rfl) (by kernel_rfl) (by kernel_rfl) (fun _ _ _ h => h) (Or.inl ⟨by rfl, ?yv22⟩) (by assumption) ?rv22
  case yv22 => (intro w0 hSw; (try dsimp only at hSw); (try simp only [List.getElem_toArray, List.getElem_cons_succ, List.getElem_cons_zero]); go_simp; try with_reducible rfl)
  (try simp only [Act.put, List.setIfInBounds_toArray, List.set_cons_zero, List.set_cons_succ, List.getElem_toArray, List.getElem_cons_succ, List.getElem_cons_zero])
  refine wpAnyH_take (i := 27) (v := ?vv23) rfl (by kernel_rfl) (by kernel_rfl) (by kernel_rfl) (fun _ _ _ h => h) (Or.inl ⟨by rfl, ?yv23⟩) (by assumption) ?rv23
  case yv23 => (intro w0 hSw; (try dsimp only at hSw); (try simp only [List.getElem_toArray, List.getElem_cons_succ, List.getElem_cons_zero]); go_simp; try with_reducible rfl)
  (try simp only [Act.put, List.setIfInBounds_toArray, List.set_cons_zero, List.set_cons_succ, List.getElem_toArray, List.getElem_cons_succ, List.getElem_cons_zero])
  refine wpAnyH_take (i := 28) rfl (by kernel_rfl) (by kernel_rfl) (by kernel_rfl) (fun _ _ _ h => h) (yields_lload (by rfl) (.tmp 12) rfl w8.heap.size 0 x12 y12 z12 M12 rfl (fun X hX => hX.2.2.2.2.2)) hHeld ?_
  (try simp only [Act.put, List.setIfInBounds_toArray, List.set_cons_zero, List.set_cons_succ, List.getElem_toArray, List.getElem_cons_succ, List.getElem_cons_zero])
  refine wpAnyH_ready (rs := [29]) (by kernel_rfl) (by simp) ?_
  refine AllReadyH.cons rfl (fun K' hK => ?_) AllReadyH.nil
  (try simp only [Act.put, List.setIfInBounds_toArray, List.set_cons_zero, List.set_cons_succ, List.getElem_toArray, List.getElem_cons_succ, List.getElem_cons_zero])
  go_simp
  refine (CN2.out _ BX.out).mono ?_
  rintro e v4 ⟨rfl, hb⟩
  replace BX := hid (BX.out.trans (hb.out.mono BX.out.size))
  clear hb
  try dsimp only
  refine hK.out _ _ (CF.out _ BX.out) (fun hHeld => ?_)
  clear hK K'
  (try simp only [Act.put, List.setIfInBounds_toArray, List.set_cons_zero, List.set_cons_succ, List.getElem_toArray, List.getElem_cons_succ, List.getElem_cons_zero])
  refine wpAnyH_take (i := 30) (v := ?vv24) rfl (by kernel_rfl) (by kernel_rfl) (by kernel_rfl) (fun _ _ _ h => h) (Or.inl ⟨by rfl, ?yv24⟩) (by assumption) ?rv24
  case yv24 => (intro w0 hSw; (try dsimp only at hSw); (try simp only [List.getElem_toArray, List.getElem_cons_succ, List.getElem_cons_zero]); go_simp; try with_reducible rfl)
  (try simp only [Act.put, List.setIfInBounds_toArray, List.set_cons_zero, List.set_cons_succ, List.getElem_toArray, List.getElem_cons_succ, List.getElem_cons_zero])
  refine wpAnyH_take (i := 31) (v := ?vv25) rfl (by kernel_rfl) (by kernel_rfl) (by kernel_rfl) (fun _ _ _ h => h) (Or.inl ⟨by rfl, ?yv25⟩) (by assumption) ?rv25
  case yv25 => (intro w0 hSw; (try dsimp only at hSw); (try simp only [List.getElem_toArray, List.getElem_cons_succ, List.getElem_cons_zero]); go_simp; try with_reducible rfl)
  (try simp only [Act.put, List.setIfInBounds_toArray, List.set_cons_zero, List.getElem_toArray, List.getElem_cons_succ, List.getElem_cons_zero])
  refine wpAnyH_done (by kernel_rfl) ?_ _
  go_wp2
  go_ret
  exact ⟨rfl, hid (gbelow_on J0.out (Nat.le_refl _) BX.out)⟩
end Go.Proofs.Ytejngjhdmneaiaa.Fli
