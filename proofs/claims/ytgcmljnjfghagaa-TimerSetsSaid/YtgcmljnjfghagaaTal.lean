/- The laws' t and alive; a copy of an argument. -/
import Derived.Test.YtgcmljnjfghagaaTzg
namespace Go.Proofs.Ytgcmljnjfghagaa.Tm
open Go.RowKit Go.Shelf Go.Lib
set_option maxRecDepth 100000

theorem cells_agg {P : Program} {fn : Func} {p : Tmp} {ty : TypeId} (h : fn.results = #[.cell p ty]) (tmps : Array Value) (w : World) (g : Nat) (t : TypeId) (cs : Array Value) (fr : Nat × Nat) (d : TypeDesc)
    (hp : tmps.getD p undef = .pointer (some ⟨g, 0, none⟩)) (hg : w.heap[g]? = some (.cells cs t fr))
    (hu : P.underlying ty = some d) (hd : (match d with | .struct _ | .array _ _ => true | _ => false) = true) (hi : (P.info? ty).map (·.size) = some cs.size) :
    (results fn tmps).run P w = .ok (.agg cs) w := results_cell_row h tmps w g t cs fr d hp hg hu hd hi
theorem ret_desc1 {fn : Func} {R : Ending → World → Prop} {a : Act} {w : World} {p : Tmp} {g : Nat} {d : De} (h : fn.results = #[.cell p 23]) (hp : a.tmps.getD p undef = .pointer (some ⟨g, 0, none⟩))
    (hd : a.defers = []) (hg : Dbx w g d) (hR : R (.returned (dv d)) w) : bodyPost Try.prog fn R .ret a w :=
  bodyPost_ret (cells_agg h a.tmps w g _ _ _ _ hp hg Try.underlying23 rfl desc_size) hd hR
theorem t_any (a b : Int) (w : World) : Calls Try.prog 10 #[.int .i64 a, .int .i64 b] w fun e w' => e = .returned (.agg #[.int .i64 a, .int .i64 b]) ∧ Hid (Below w.heap.size w w') := by
  obtain ⟨W, hW⟩ : ∃ W, W = w.alloc (.cells #[.int .i64 0, .int .i64 0] 23) := ⟨_, rfl⟩
  have B0 : Hid (Below w.heap.size w W) := hid (hW ▸ box1 w 0 0)
  have X0 : Hid (Dbx W w.heap.size (0, 0)) := hid (hW ▸ heap_alloc_new w _)
  have y0 := X0.out.c0
  have y1 := X0.out.c1
  have z0 := X0.out.frozen 0
  have z1 := X0.out.frozen 1
  have HW := hid hW
  clear hW
  go_enter Try.func10, Try.ntmps10
  go_upto_region 1 with fail
  rw [← HW.out]
  go_wp2
  refine ret_desc1 (g := w.heap.size) (d := (a, b)) rfl rfl rfl (X0.out.store a b) ?_
  exact ⟨rfl, hid (below_put2 B0.out (Nat.le_refl _) _ _)⟩

def al0 : List De := [(5, 1), (3, 9), (5, 0), (3, 9)]
def al1 : List De := [(3, 9), (5, 0), (5, 1)]
theorem al_oe : orE al0 = 0 := by decide
theorem al_ol : orL al0 = al1 := by decide
theorem al_ck : chk al1 = 0 := chk_ok (by decide) ⟨by decide, by unfold St; decide⟩
theorem al_d3 : duE al1 3 = 0 ∧ duA al1 3 = [(3, 9)] ∧ duB al1 3 = [(5, 0), (5, 1)] := by
  obtain ⟨h1, h2, h3⟩ := du_ok (l := al1) (now := 3) al_ck (by decide)
  exact ⟨h1, h2.trans (by decide), h3.trans (by decide)⟩
theorem al_d2 : duE al1 2 = 0 ∧ duA al1 2 = [] ∧ duB al1 2 = al1 := by
  obtain ⟨h1, h2, h3⟩ := du_ok (l := al1) (now := 2) al_ck (by decide)
  exact ⟨h1, h2.trans (by decide), h3.trans (by decide)⟩
theorem al_d5 : duE al1 5 = 0 ∧ duA al1 5 = al1 ∧ duB al1 5 = [] := by
  obtain ⟨h1, h2, h3⟩ := du_ok (l := al1) (now := 5) al_ck (by decide)
  exact ⟨h1, h2.trans (by decide), h3.trans (by decide)⟩
theorem od_num {w : World} {B : Nat} {v : Value} {l : List De} (h : Od w B v l) (n : Nat) (hn : l.length = n) : ∃ A c, v = .slice A n c ∧ Od w B (.slice A n c) l := by
  obtain ⟨A, m, c, rfl, ho, _⟩ := od_letter h
  obtain rfl : m = n := by rw [← hn]; exact ho.row_len.symm
  exact ⟨A, c, rfl, ho⟩
theorem row_same {X : World} {B n c : Nat} {A : Option Addr} {l r : List De} (h : Ds X B A n c l) (hB : B ≤ X.heap.size) (hr : r.length ≤ 1000) (e : l = r) :
    Calls Try.prog 21 #[.slice A n c, .slice (some ⟨X.heap.size, 0, none⟩) r.length r.length] (X.alloc (.cells (cellsD r).toArray 23)) (Tel (X.alloc (.cells (cellsD r).toArray 23)) true) := by
  have b1 : Below X.heap.size X (X.alloc (.cells (cellsD r).toArray 23)) := (Below.refl _ X).alloc (Nat.le_refl _) _
  have h1 := rsame_any (w := X.alloc (.cells (cellsD r).toArray 23)) (h.below (b1.mono hB)) (ds_row (heap_alloc_new X _) hr) (Nat.le_trans hB b1.size) (Nat.le_refl _)
  rwa [decide_eq_true e] at h1

set_option maxHeartbeats 6400000 in
theorem alive_any (w : World) : Calls Try.prog 14 #[] w (Tel w true) := by
  have C1 := hid (fun X => porder_any (w := X.alloc (.cells (cellsD al0).toArray 23)) (ds_row (heap_alloc_new X _) (by decide)) (Nat.le_refl _))
  rw [al_oe, al_ol] at C1
  unfold LstE at C1
  have CD := hid (fun (now : Int) (X : World) (A : Option Addr) (n c : Nat) (hD : Ds X X.heap.size A n c al1) => pdue_any now hD (Nat.le_refl _))
  unfold TwoE at CD
  go_enter Try.func14, Try.ntmps14
  have BW0 : Hid (Below w.heap.size w w) := hid (Below.refl _ _)
  go_wp2_with fail
  refine (t_any _ _ _).mono ?_
  rintro e xa1 ⟨rfl, hxa1⟩
  go_wp2_with fail
  refine (t_any _ _ _).mono ?_
  rintro e xa2 ⟨rfl, hxa2⟩
  go_wp2_with fail
  refine (t_any _ _ _).mono ?_
  rintro e xa3 ⟨rfl, hxa3⟩
  go_wp2_with fail
  refine (t_any _ _ _).mono ?_
  rintro e xa4 ⟨rfl, hxa4⟩
  have Bxa1 := hid (BW0.out.trans (hxa1.out.mono BW0.out.size))
  have Bxa2 := hid (Bxa1.out.trans (hxa2.out.mono Bxa1.out.size))
  have Bxa3 := hid (Bxa2.out.trans (hxa3.out.mono Bxa2.out.size))
  have Bxa4 := hid (Bxa3.out.trans (hxa4.out.mono Bxa3.out.size))
  go_wp2_with fail
  refine (C1.out xa4).mono ?_
  rintro e w1 ⟨v1, rfl, H1⟩
  obtain ⟨A1, c1, rfl, O1⟩ := od_num H1.out.1 3 rfl
  have BW1 : Hid (Below w.heap.size w w1) := hid ((Bxa4.out.alloc Bxa4.out.size (.cells (cellsD al0).toArray 23)).trans (H1.out.2.mono (Nat.le_trans Bxa4.out.size (by simp))))
  have C3 := hid (CD.out 3 w1 _ _ _ O1.ds)
  rw [al_d3.1, al_d3.2.1, al_d3.2.2] at C3
  have HO1 := hid O1
  clear O1 H1 C1
  go_wp2_with fail
  refine C3.out.mono ?_
  rintro e w2 ⟨u2, v2, rfl, H2⟩
  obtain ⟨A2, c2, rfl, O2⟩ := od_num H2.out.1 1 rfl
  obtain ⟨A3, c3, rfl, O3⟩ := od_num H2.out.2.1 2 rfl
  have b2 := hid H2.out.2.2.2
  have HO2 := hid (HO1.out.below b2.out)
  have BW2 := hid (BW1.out.trans (b2.out.mono BW1.out.size))
  have HA := hid O2
  have C4 := hid (CD.out 2 w2 _ _ _ HO2.out.ds)
  rw [al_d2.1, al_d2.2.1, al_d2.2.2] at C4
  clear O2 O3 H2 C3 HO1 BW1
  go_wp2_with fail
  refine C4.out.mono ?_
  rintro e w3 ⟨u3, v3, rfl, H3⟩
  obtain ⟨A4, c4, rfl, O4⟩ := od_num H3.out.1 0 rfl
  obtain ⟨A5, c5, rfl, O5⟩ := od_num H3.out.2.1 3 rfl
  have b3 := hid H3.out.2.2.2
  have HO3 := hid (HO2.out.below b3.out)
  have HA3 := hid (HA.out.below b3.out)
  have BW3 := hid (BW2.out.trans (b3.out.mono BW2.out.size))
  have C5 := hid (CD.out 5 w3 _ _ _ HO3.out.ds)
  rw [al_d5.1, al_d5.2.1, al_d5.2.2] at C5
  clear O4 O5 H3 C4 HO2 BW2 HA CD
  go_wp2_with fail
  refine C5.out.mono ?_
  rintro e w4 ⟨u4, v4, rfl, H4⟩
  obtain ⟨A6, c6, rfl, O6⟩ := od_num H4.out.1 3 rfl
  obtain ⟨A7, c7, rfl, O7⟩ := od_num H4.out.2.1 0 rfl
  have b4 := hid H4.out.2.2.2
  have HO4 := hid (HO3.out.below b4.out)
  have HA4 := hid (HA3.out.below b4.out)
  have HD4 := hid O6
  have BW4 := hid (BW3.out.trans (b4.out.mono BW3.out.size))
  clear O6 O7 H4 C5 HO3 BW3 HA3
  go_wp2_with fail
  refine (t_any _ _ _).mono ?_
  rintro e xb1 ⟨rfl, hxb1⟩
  go_wp2_with fail
  refine (t_any _ _ _).mono ?_
  rintro e xb2 ⟨rfl, hxb2⟩
  go_wp2_with fail
  refine (t_any _ _ _).mono ?_
  rintro e xb3 ⟨rfl, hxb3⟩
  have Bxb1 := hid (BW4.out.trans (hxb1.out.mono BW4.out.size))
  have HO4_xb1 := hid (HO4.out.below hxb1.out)
  have HA4_xb1 := hid (HA4.out.below hxb1.out)
  have HD4_xb1 := hid (HD4.out.below hxb1.out)
  have Bxb2 := hid (Bxb1.out.trans (hxb2.out.mono Bxb1.out.size))
  have HO4_xb2 := hid (HO4_xb1.out.below hxb2.out)
  have HA4_xb2 := hid (HA4_xb1.out.below hxb2.out)
  have HD4_xb2 := hid (HD4_xb1.out.below hxb2.out)
  have Bxb3 := hid (Bxb2.out.trans (hxb3.out.mono Bxb2.out.size))
  have HO4_xb3 := hid (HO4_xb2.out.below hxb3.out)
  have HA4_xb3 := hid (HA4_xb2.out.below hxb3.out)
  have HD4_xb3 := hid (HD4_xb2.out.below hxb3.out)
  have S1 := hid (row_same (X := xb3) HO4_xb3.out.ds (Nat.le_refl _) (r := al1) (by decide) rfl)
  unfold Tel at S1
  go_wp2_with fail
  refine S1.out.mono ?_
  rintro e w5 ⟨rfl, h5⟩
  have b5 : Hid (Below xb3.heap.size xb3 w5) := hid (((Below.refl _ xb3).alloc (Nat.le_refl _) (.cells (cellsD al1).toArray 23)).trans (h5.out.mono (by simp)))
  have HO5 := hid (HO4_xb3.out.below b5.out)
  have HA5 := hid (HA4_xb3.out.below b5.out)
  have HD5 := hid (HD4_xb3.out.below b5.out)
  have BW5 := hid (Bxb3.out.trans (b5.out.mono Bxb3.out.size))
  go_wp2_with fail
  refine (t_any _ _ _).mono ?_
  rintro e xc1 ⟨rfl, hxc1⟩
  have Bxc1 := hid (BW5.out.trans (hxc1.out.mono BW5.out.size))
  have HO5_xc1 := hid (HO5.out.below hxc1.out)
  have HA5_xc1 := hid (HA5.out.below hxc1.out)
  have HD5_xc1 := hid (HD5.out.below hxc1.out)
  have S2 := hid (row_same (X := xc1) HA5_xc1.out.ds (Nat.le_refl _) (r := [(3, 9)]) (by decide) rfl)
  unfold Tel at S2
  go_wp2_with fail
  refine S2.out.mono ?_
  rintro e w6 ⟨rfl, h6⟩
  have b6 : Hid (Below xc1.heap.size xc1 w6) := hid (((Below.refl _ xc1).alloc (Nat.le_refl _) (.cells (cellsD [(3, 9)]).toArray 23)).trans (h6.out.mono (by simp)))
  have HO6 := hid (HO5_xc1.out.below b6.out)
  have HD6 := hid (HD5_xc1.out.below b6.out)
  have BW6 := hid (Bxc1.out.trans (b6.out.mono Bxc1.out.size))
  have S3 : Hid (Calls Try.prog 21 #[.slice A6 3 c6, .slice A1 3 c1] w6 (Tel w6 true)) := hid (by
    have h := rsame_any HD6.out.ds HO6.out.ds (Nat.le_refl _) (Nat.le_refl _)
    rwa [decide_eq_true rfl] at h)
  unfold Tel at S3
  go_wp2_with fail
  refine S3.out.mono ?_
  rintro e w7 ⟨rfl, h7⟩
  go_wp2
  go_ret
  exact ⟨rfl, hid (BW6.out.trans (h7.out.mono BW6.out.size))⟩

/-- append onto none of what was handed in: a copy. -/
theorem list_own {X : World} {ops : Array Oper} {rest : List Oper} {o : Oper} {a : Act} {Q : Exit → Act → World → Prop} (hgd : o.guard = none) (s x : Operand)
    (ho : o.op = .call { callee := .builtin .append, args := #[s, x], argTypes := #[27, 27] }) {B n c : Nat} {A : Option Addr} {l : List De} (hs : a.eval s = .slice (some ⟨X.heap.size, 0, none⟩) 0 0) (hx : a.eval x = .slice A n c)
    (hD : Ds X B A n c l) (hB : B ≤ X.heap.size) (hn : n ≤ 100000)
    (h : ∀ A' n' c' Y, Hid (Od Y X.heap.size (.slice A' n' c') l ∧ Below X.heap.size X Y) → wpList Try.prog ops Q rest (a.put o.dst (.slice A' n' c')) Y) : wpList Try.prog ops Q (o :: rest) a (X.alloc (.cells #[] 23)) := by
  have b1 : Below X.heap.size X (X.alloc (.cells #[] 23)) := (Below.refl _ X).alloc (Nat.le_refl _) _
  refine list_appD hgd s x ho hs hx (od_at (heap_alloc_new X _) (Nat.le_refl _)) (hD.below (b1.mono hB)) (by simpa using hn) (by simp) ?_
  intro v' w' HT
  obtain ⟨A', n', c', rfl, _, _⟩ := od_letter HT.out.own
  refine h A' n' c' w' (hid ⟨HT.out.own, b1.trans ⟨HT.out.grown.os, HT.out.grown.tape, HT.out.grown.output, HT.out.grown.size, fun k hk => HT.out.grown.block k (by simp; omega) (fun e => ?_)⟩⟩)
  have e2 : k = X.heap.size := Option.some.inj e
  omega
theorem apart_iv {v : Value} {row : Option Nat} (h : ∀ b, v.ownBlock = some b → row ≠ some b) : v.ownBlock = none ∨ v.ownBlock ≠ row := by
  cases hq : v.ownBlock with
  | none => exact .inl rfl
  | some b => exact .inr (fun e => h b hq e.symm)
end Go.Proofs.Ytgcmljnjfghagaa.Tm
