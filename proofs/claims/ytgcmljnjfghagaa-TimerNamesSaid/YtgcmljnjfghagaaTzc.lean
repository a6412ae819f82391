/- Next, of both sides; the program's Due and Off. -/
import Derived.Test.YtgcmljnjfghagaaTzb
import Derived.Laws.ResultCell
namespace Go.Proofs.Ytgcmljnjfghagaa.Tm
open Go.RowKit Go.Shelf Go.Lib
set_option maxRecDepth 100000

noncomputable def nxE (l : List De) : Int := if chk l ≠ 0 then chk l else if l.length = 0 then 6 else 0
noncomputable def nxT (l : List De) : De := if nxE l = 0 then l.headD (0, 0) else (0, 0)
theorem nx_chk {l : List De} (h : chk l ≠ 0) : nxE l = chk l ∧ nxT l = (0, 0) := by
  have : nxE l = chk l := if_pos h
  exact ⟨this, by unfold nxT; rw [this, if_neg h]⟩
theorem nx_none {l : List De} (h : chk l = 0) (k : l.length = 0) : nxE l = 6 ∧ nxT l = (0, 0) := by
  have : nxE l = 6 := by unfold nxE; rw [if_neg (by simp [h]), if_pos k]
  exact ⟨this, by unfold nxT; rw [this, if_neg (by decide)]⟩
theorem nx_ok {l : List De} {d : De} (h : chk l = 0) (k : l[0]? = some d) : nxE l = 0 ∧ nxT l = d := by
  have hl := (List.getElem?_eq_some_iff.1 k).1
  have : nxE l = 0 := by unfold nxE; rw [if_neg (by simp [h]), if_neg (by omega)]
  refine ⟨this, ?_⟩
  unfold nxT
  rw [this, if_pos rfl]
  match l, k with
  | x :: l, k => simpa using k

theorem cells_agg_tmp {P : Program} {fn : Func} {p u : Tmp} {ty : TypeId} (h : fn.results = #[.cell p ty, .tmp u]) (tmps : Array Value) (w : World) (g : Nat) (t : TypeId) (cs : Array Value) (fr : Nat × Nat) (d : TypeDesc)
    (hp : tmps.getD p undef = .pointer (some ⟨g, 0, none⟩)) (hg : w.heap[g]? = some (.cells cs t fr))
    (hu : P.underlying ty = some d) (hd : (match d with | .struct _ | .array _ _ => true | _ => false) = true) (hi : (P.info? ty).map (·.size) = some cs.size) :
    (results fn tmps).run P w = .ok (.tuple #[.agg cs, tmps.getD u undef]) w := by
  rw [results_cell_tmp h, hp]
  simp [asAddr, Result.andThen, run_loadVar_row w g t ty cs fr d hg hu hd hi]
/-- A timer in its box. -/
def Dbx (w : World) (g : Nat) (d : De) : Prop := w.heap[g]? = some (.cells #[.int .i64 d.1, .int .i64 d.2] 23 (0, 0))
theorem desc_size : (Try.prog.info? 23).map (·.size) = some 2 := by kernel_rfl
theorem ret_desc {fn : Func} {R : Ending → World → Prop} {a : Act} {w : World} {p u : Tmp} {g : Nat} {d : De} {er : Value} (h : fn.results = #[.cell p 23, .tmp u]) (hp : a.tmps.getD p undef = .pointer (some ⟨g, 0, none⟩)) (hu : a.tmps.getD u undef = er)
    (hd : a.defers = []) (hg : Dbx w g d) (hR : R (.returned (.tuple #[dv d, er])) w) : bodyPost Try.prog fn R .ret a w := by
  refine bodyPost_ret ?_ hd hR
  rw [← hu]
  exact cells_agg_tmp h a.tmps w g _ _ _ _ hp hg Try.underlying23 rfl desc_size
theorem Dbx.below {w w' : World} {B g : Nat} {d : De} (h : Dbx w g d) (hb : Below B w w') (hg : g < B) : Dbx w' g d := (hb.block g hg).trans h
theorem Dbx.c0 {w : World} {g : Nat} {d : De} (h : Dbx w g d) : w.cell? ⟨g, 0, none⟩ = some (.int .i64 d.1) := by rw [cell_of_row w g 0 _ _ (0, 0) h]; rfl
theorem Dbx.c1 {w : World} {g : Nat} {d : De} (h : Dbx w g d) : w.cell? ⟨g, 1, none⟩ = some (.int .i64 d.2) := by rw [cell_of_row w g 1 _ _ (0, 0) h]; rfl
theorem Dbx.frozen {w : World} {g : Nat} {d : De} (h : Dbx w g d) (j : Nat) : w.frozen? ⟨g, j, none⟩ = false := frozen_of_row w g j _ _ h
theorem Dbx.lt {w : World} {g : Nat} {d : De} (h : Dbx w g d) : g < w.heap.size := lt_of_heap h
theorem Dbx.store {w : World} {g : Nat} {d : De} (h : Dbx w g d) (e1 e2 : Int) : Dbx ((w.setCell ⟨g, 0, none⟩ (.int .i64 e1)).setCell ⟨g, 1, none⟩ (.int .i64 e2)) g (e1, e2) := by
  have h0 := heap_setCell_same w g 0 _ _ (.int .i64 e1) h
  exact heap_setCell_same _ g 1 _ _ (.int .i64 e2) h0
/-- A timer, and an error. -/
def OneE (w : World) (t : De) (er : Int) : Ending → World → Prop := fun e w' => e = .returned (.tuple #[dv t, .int .i64 er]) ∧ Hid (Below w.heap.size w w')
theorem below_put2 {w w' : World} {g : Nat} (hb : Below w.heap.size w w') (hg : w.heap.size ≤ g) (a b : Value) : Below w.heap.size w ((w'.setCell ⟨g, 0, none⟩ a).setCell ⟨g, 1, none⟩ b) := (hb.setCell (p := ⟨g, 0, none⟩) hg _).setCell (p := ⟨g, 1, none⟩) hg _

set_option maxHeartbeats 3200000 in
theorem pnext_any {w : World} {B n c : Nat} {A : Option Addr} {l : List De} (h : Ds w B A n c l) (hB : B ≤ w.heap.size) :
    Calls Try.prog 8 #[.slice A n c] w (OneE w (nxT l) (nxE l)) := by
  have HL := hid h.len
  have hm := h.max
  have hcap := h.cap
  obtain ⟨W, hW⟩ : ∃ W, W = w.alloc (.cells #[.int .i64 0, .int .i64 0] 23) := ⟨_, rfl⟩
  have B0 : Hid (Below w.heap.size w W) := hid (hW ▸ box1 w 0 0)
  have X0 : Hid (Dbx W w.heap.size (0, 0)) := hid (hW ▸ heap_alloc_new w _)
  have HW := hid hW
  have HD := hid ((h.mono hB).below B0.out)
  have C1 := hid (pcheck_any HD.out B0.out.size)
  clear hW h
  by_cases hk : chk l = 0
  case neg =>
    obtain ⟨e1, e2⟩ := nx_chk hk
    rw [e1, e2]
    generalize chk l = q at hk C1 ⊢
    clear e1 e2
    go_enter Try.func8, Try.ntmps8
    go_upto_region 1 with fail
    rw [← HW.out]
    go_wp2_with (first
      | (go_at_call 15; with_reducible refine C1.out.mono ?_; rintro e w1 ⟨rfl, hb1⟩
         have Y1 := hid (X0.out.below hb1.out X0.out.lt)
         have y0 := Y1.out.c0
         have y1 := Y1.out.c1
         have z0 := Y1.out.frozen 0
         have z1 := Y1.out.frozen 1)
      | fail)
    refine ret_desc (g := w.heap.size) (d := (0, 0)) rfl rfl rfl rfl (Y1.out.store 0 0) ?_
    exact ⟨rfl, hid (below_put2 (B0.out.trans (hb1.out.mono B0.out.size)) (Nat.le_refl _) _ _)⟩
  have HK := hid hk
  rw [hk] at C1
  clear hk
  by_cases hn0 : n = 0
  · obtain ⟨e1, e2⟩ := nx_none HK.out (by rw [HL.out]; exact hn0)
    rw [e1, e2]
    subst hn0
    clear e1 e2
    go_enter Try.func8, Try.ntmps8
    go_upto_region 1 with fail
    rw [← HW.out]
    go_wp2_with (first
      | (go_at_call 15; with_reducible refine C1.out.mono ?_; rintro e w1 ⟨rfl, hb1⟩
         have Y1 := hid (X0.out.below hb1.out X0.out.lt)
         have y0 := Y1.out.c0
         have y1 := Y1.out.c1
         have z0 := Y1.out.frozen 0
         have z1 := Y1.out.frozen 1)
      | fail)
    refine ret_desc (g := w.heap.size) (d := (0, 0)) rfl rfl rfl rfl (Y1.out.store 0 0) ?_
    exact ⟨rfl, hid (below_put2 (B0.out.trans (hb1.out.mono B0.out.size)) (Nat.le_refl _) _ _)⟩
  obtain ⟨d, hd⟩ := HD.out.get (show 0 < n by omega)
  obtain ⟨e1, e2⟩ := nx_ok HK.out hd
  rw [e1, e2]
  have hnz : ((n : Int) == 0) = false := by simp; omega
  have hn1 : (0 : Int) < (n : Int) := by omega
  obtain ⟨b, off, rfl, hb, hcc⟩ := HD.out.at_ (by omega)
  obtain ⟨c1, c2⟩ := hcc 0 d hd
  obtain ⟨d1, d2⟩ := d
  change W.cell? ⟨b, off + 0 * 2, none⟩ = some (.int .i64 d1) at c1
  change W.cell? ⟨b, off + 0 * 2 + 1, none⟩ = some (.int .i64 d2) at c2
  rw [Nat.zero_mul, Nat.add_zero] at c1 c2
  have hbW : b < W.heap.size := Nat.lt_of_lt_of_le hb B0.out.size
  have hbn : Hid (b ≠ w.heap.size) := hid (Nat.ne_of_lt hb)
  clear e1 e2 hcc hd hn0 hb
  go_enter Try.func8, Try.ntmps8
  go_upto_region 1 with fail
  rw [← HW.out]
  go_wp2_with (first
    | (go_at_call 15; with_reducible refine C1.out.mono ?_; rintro e w1 ⟨rfl, hb1⟩
       have Y1 := hid (X0.out.below hb1.out X0.out.lt)
       have y0 := Y1.out.c0
       have y1 := Y1.out.c1
       have z0 := Y1.out.frozen 0
       have z1 := Y1.out.frozen 1
       have f1 := (hb1.out.cell (p := ⟨b, off, none⟩) hbW).trans c1
       have f2 := (hb1.out.cell (p := ⟨b, off + 1, none⟩) hbW).trans c2)
    | fail)
  refine ret_desc (g := w.heap.size) (d := (d1, d2)) rfl rfl rfl rfl (Y1.out.store d1 d2) ?_
  exact ⟨rfl, hid (below_put2 (B0.out.trans (hb1.out.mono B0.out.size)) (Nat.le_refl _) _ _)⟩

set_option maxHeartbeats 3200000 in
theorem rnext_any {w : World} {B n c : Nat} {A : Option Addr} {l : List De} (h : Ds w B A n c l) (hB : B ≤ w.heap.size) :
    Calls Try.prog 18 #[.slice A n c] w (OneE w (nxT l) (nxE l)) := by
  have HL := hid h.len
  have hm := h.max
  have hcap := h.cap
  obtain ⟨W, hW⟩ : ∃ W, W = w.alloc (.cells #[.int .i64 0, .int .i64 0] 23) := ⟨_, rfl⟩
  have B0 : Hid (Below w.heap.size w W) := hid (hW ▸ box1 w 0 0)
  have X0 : Hid (Dbx W w.heap.size (0, 0)) := hid (hW ▸ heap_alloc_new w _)
  have HW := hid hW
  have HD := hid ((h.mono hB).below B0.out)
  have C1 := hid (rcheck_any HD.out B0.out.size)
  clear hW h
  by_cases hk : chk l = 0
  case neg =>
    obtain ⟨e1, e2⟩ := nx_chk hk
    rw [e1, e2]
    generalize chk l = q at hk C1 ⊢
    clear e1 e2
    go_enter Try.func18, Try.ntmps18
    go_upto_region 1 with fail
    rw [← HW.out]
    go_wp2_with (first
      | (go_at_call 22; with_reducible refine C1.out.mono ?_; rintro e w1 ⟨rfl, hb1⟩
         have Y1 := hid (X0.out.below hb1.out X0.out.lt)
         have y0 := Y1.out.c0
         have y1 := Y1.out.c1
         have z0 := Y1.out.frozen 0
         have z1 := Y1.out.frozen 1)
      | fail)
    refine ret_desc (g := w.heap.size) (d := (0, 0)) rfl rfl rfl rfl (Y1.out.store 0 0) ?_
    exact ⟨rfl, hid (below_put2 (B0.out.trans (hb1.out.mono B0.out.size)) (Nat.le_refl _) _ _)⟩
  have HK := hid hk
  rw [hk] at C1
  clear hk
  by_cases hn0 : n = 0
  · obtain ⟨e1, e2⟩ := nx_none HK.out (by rw [HL.out]; exact hn0)
    rw [e1, e2]
    subst hn0
    clear e1 e2
    go_enter Try.func18, Try.ntmps18
    go_upto_region 1 with fail
    rw [← HW.out]
    go_wp2_with (first
      | (go_at_call 22; with_reducible refine C1.out.mono ?_; rintro e w1 ⟨rfl, hb1⟩
         have Y1 := hid (X0.out.below hb1.out X0.out.lt)
         have y0 := Y1.out.c0
         have y1 := Y1.out.c1
         have z0 := Y1.out.frozen 0
         have z1 := Y1.out.frozen 1)
      | fail)
    refine ret_desc (g := w.heap.size) (d := (0, 0)) rfl rfl rfl rfl (Y1.out.store 0 0) ?_
    exact ⟨rfl, hid (below_put2 (B0.out.trans (hb1.out.mono B0.out.size)) (Nat.le_refl _) _ _)⟩
  obtain ⟨d, hd⟩ := HD.out.get (show 0 < n by omega)
  obtain ⟨e1, e2⟩ := nx_ok HK.out hd
  rw [e1, e2]
  have hnz : ((n : Int) == 0) = false := by simp; omega
  have hn1 : (0 : Int) < (n : Int) := by omega
  obtain ⟨b, off, rfl, hb, hcc⟩ := HD.out.at_ (by omega)
  obtain ⟨c1, c2⟩ := hcc 0 d hd
  obtain ⟨d1, d2⟩ := d
  change W.cell? ⟨b, off + 0 * 2, none⟩ = some (.int .i64 d1) at c1
  change W.cell? ⟨b, off + 0 * 2 + 1, none⟩ = some (.int .i64 d2) at c2
  rw [Nat.zero_mul, Nat.add_zero] at c1 c2
  have hbW : b < W.heap.size := Nat.lt_of_lt_of_le hb B0.out.size
  have hbn : Hid (b ≠ w.heap.size) := hid (Nat.ne_of_lt hb)
  clear e1 e2 hcc hd hn0 hb
  go_enter Try.func18, Try.ntmps18
  go_upto_region 1 with fail
  rw [← HW.out]
  go_wp2_with (first
    | (go_at_call 22; with_reducible refine C1.out.mono ?_; rintro e w1 ⟨rfl, hb1⟩
       have Y1 := hid (X0.out.below hb1.out X0.out.lt)
       have y0 := Y1.out.c0
       have y1 := Y1.out.c1
       have z0 := Y1.out.frozen 0
       have z1 := Y1.out.frozen 1
       have f1 := (hb1.out.cell (p := ⟨b, off, none⟩) hbW).trans c1
       have f2 := (hb1.out.cell (p := ⟨b, off + 1, none⟩) hbW).trans c2)
    | fail)
  refine ret_desc (g := w.heap.size) (d := (d1, d2)) rfl rfl rfl rfl (Y1.out.store d1 d2) ?_
  exact ⟨rfl, hid (below_put2 (B0.out.trans (hb1.out.mono B0.out.size)) (Nat.le_refl _) _ _)⟩
end Go.Proofs.Ytgcmljnjfghagaa.Tm
