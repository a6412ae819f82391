/- The document's Some and One. -/
import Derived.Test.YtdemhghflanncaaHcho
namespace Go.Proofs.Ytdemhghflanncaa
open Go.RowKit Go.Shelf Go.Lib

/-- What Some answers. -/
def smE (o p : Int) (l : List De) (r : List Nat) : Int := if CMay o p l then if 64 < r.length then 4 else 0 else 8
def smL (o p : Int) (l : List De) (r : List Nat) : List De := if smE o p l r = 0 then chs l r else []
/-- What One answers. -/
def onE (o p : Int) (l : List De) : Int := if CMay o p l then if l.length = 0 then 6 else 0 else 8
def onD (o p : Int) (l : List De) (x : Nat) : De := if onE o p l = 0 then (l[x % l.length]?).getD (0, 0) else (0, 0)

set_option maxHeartbeats 3200000 in
theorem rsome_any {w : World} {B C n c m d : Nat} {A D : Option Addr} {l : List De} {r : List Nat} (o p : Int) (h : Ds w B A n c l) (k : Us w C D m d r) (hB : B ≤ w.heap.size) (hC : C ≤ w.heap.size) :
    Calls Try.prog 16 #[cav o p (.slice A n c), .slice D m d] w fun e w' => ∃ v, e = .returned (.tuple #[v, .int .i64 (smE o p l r)]) ∧ Hid (Od w' w.heap.size v (smL o p l r) ∧ Below w.heap.size w w') := by
  have H := hid (h.mono hB)
  have K := hid (k.mono hC)
  have HL := hid h.len
  have HR := hid k.len
  have hcap := h.cap
  have hcap2 := k.cap
  clear h hB k hC
  obtain ⟨W, hW⟩ : ∃ W, W = w.alloc (.cells #[.int .i64 o, .int .i64 p, .slice A n c] 29) := ⟨_, rfl⟩
  have B0 := hid (show Below w.heap.size w W from hW ▸ (Below.refl _ w).alloc (Nat.le_refl _) _)
  have X0 := hid (show Cbox W w.heap.size o p (.slice A n c) from hW ▸ heap_alloc_new w _)
  have x0 := X0.out.c0
  have x1 := X0.out.c1
  have x2 := X0.out.c2
  have HW := hid hW
  clear hW
  have CM := hid (rmay_any o p (H.out.below B0.out) B0.out.size)
  by_cases hq : CMay o p l
  case neg =>
    have hE : smE o p l r = 8 := if_neg hq
    have hF : smL o p l r = [] := by unfold smL; rw [hE]; rfl
    rw [hE, hF]
    rw [decide_eq_false hq] at CM
    clear hq hE hF
    unfold cav at CM ⊢
    go_enter Try.func16, Try.ntmps16
    go_upto_region 1 with fail
    rw [← HW.out]
    clear HW
    go_wp2_with fail
    refine CM.out.mono ?_
    rintro e w1 ⟨rfl, hb⟩
    go_wp2
    go_ret2
    exact ⟨_, rfl, hid ⟨Od.nil _ _, B0.out.trans (hb.out.mono B0.out.size)⟩⟩
  rw [decide_eq_true hq] at CM
  have hn6 : n ≤ 6 := by
    obtain ⟨_, _, _, a4, a5, _⟩ := hq
    have := HL.out
    omega
  by_cases hm : 64 < m
  · have hE : smE o p l r = 4 := by unfold smE; rw [if_pos hq, if_pos (by rw [HR.out]; exact hm)]
    have hF : smL o p l r = [] := by unfold smL; rw [hE]; rfl
    rw [hE, hF]
    clear hq hE hF
    have hmz : (m : Int) > 64 := by omega
    unfold cav at CM ⊢
    go_enter Try.func16, Try.ntmps16
    go_upto_region 1 with fail
    rw [← HW.out]
    clear HW
    go_wp2_with fail
    refine CM.out.mono ?_
    rintro e w1 ⟨rfl, hb⟩
    go_wp2
    go_ret2
    exact ⟨_, rfl, hid ⟨Od.nil _ _, B0.out.trans (hb.out.mono B0.out.size)⟩⟩
  have hE : smE o p l r = 0 := by unfold smE; rw [if_pos hq, if_neg (by rw [HR.out]; exact hm)]
  have hF : smL o p l r = chs l r := if_pos hE
  rw [hE, hF]
  clear hq hE hF
  have hmz : ¬ (m : Int) > 64 := by omega
  have CC := hid (fun X (hb : Below w.heap.size w X) => chosen_any (H.out.below hb) (K.out.below hb) hb.size hb.size (by omega) (by omega))
  unfold cav at CM ⊢
  go_enter Try.func16, Try.ntmps16
  go_upto_region 1 with fail
  rw [← HW.out]
  clear HW
  go_wp2_with fail
  refine CM.out.mono ?_
  rintro e w1 ⟨rfl, hb⟩
  have B1 := hid (B0.out.trans (hb.out.mono B0.out.size))
  have X1 := hid (X0.out.below hb.out X0.out.lt)
  clear x0 x1 x2
  have x2 := X1.out.c2
  go_wp2_with fail
  refine (CC.out _ B1.out).mono ?_
  rintro e w2 ⟨v, rfl, hv⟩
  go_wp2
  go_ret2
  exact ⟨_, rfl, hid ⟨hv.out.1.mono B1.out.size, B1.out.trans (hv.out.2.mono B1.out.size)⟩⟩

/-- Block g is a descriptor's. -/
def Dbx (w : World) (g : Nat) (d : De) : Prop := w.heap[g]? = some (.cells #[.int .i64 d.1, .int .i64 d.2] 23 (0, 0))
theorem desc_size : (Try.prog.info? 23).map (·.size) = some 2 := by kernel_rfl
theorem ret_desc {fn : Func} {R : Ending → World → Prop} {a : Act} {w : World} {p u : Tmp} {g : Nat} {d : De} {er : Value} (h : fn.results = #[.cell p 23, .tmp u]) (hp : a.tmps.getD p undef = .pointer (some ⟨g, 0, none⟩)) (hu : a.tmps.getD u undef = er)
    (hd : a.defers = []) (hg : Dbx w g d) (hR : R (.returned (.tuple #[dv d, er])) w) : bodyPost Try.prog fn R .ret a w := by
  refine bodyPost_ret ?_ hd hR
  rw [← hu]
  exact cells_agg_tmp h a.tmps w g _ _ _ _ hp hg Try.underlying23 rfl desc_size
theorem Dbx.below {w w' : World} {B g : Nat} {d : De} (h : Dbx w g d) (hb : Below B w w') (hg : g < B) : Dbx w' g d := (hb.block g hg).trans h
theorem Dbx.c0 {w : World} {g : Nat} {d : De} (h : Dbx w g d) : w.cell? ⟨g, 0, none⟩ = some (.int .i64 d.1) := by rw [cell_of_row w g 0 _ _ (0, 0) h]; rfl
theorem Dbx.c1 {w : World} {g : Nat} {d : De} (h : Dbx w g d) : w.cell? ⟨g, 1, none⟩ = some (.int .i64 d.2) := by rw [cell_of_row w g 1 _ _ (0, 0) h]; rfl
theorem Dbx.frozen {w : World} {g : Nat} {d : De} (h : Dbx w g d) (j : Nat) : w.frozen? ⟨g, j, none⟩ = false := frozen_of_row w g j _ _ h
theorem Dbx.lt {w : World} {g : Nat} {d : De} (h : Dbx w g d) : g < w.heap.size := lt_of_heap h
theorem Dbx.store {w : World} {g : Nat} {d : De} (h : Dbx w g d) (e1 e2 : Int) : Dbx ((w.setCell ⟨g, 0, none⟩ (.int .i64 e1)).setCell ⟨g, 1, none⟩ (.int .i64 e2)) g (e1, e2) := by
  have h0 := heap_setCell_same w g 0 _ _ (.int .i64 e1) h
  exact heap_setCell_same _ g 1 _ _ (.int .i64 e2) h0

set_option maxHeartbeats 3200000 in
set_option maxRecDepth 100000 in
theorem rone_any {w : World} {B n c : Nat} {A : Option Addr} {l : List De} (o p : Int) (x : Nat) (h : Ds w B A n c l) (hB : B ≤ w.heap.size) :
    Calls Try.prog 15 #[cav o p (.slice A n c), .int .u64 (x : Int)] w fun e w' => e = .returned (.tuple #[dv (onD o p l x), .int .i64 (onE o p l)]) ∧ Hid (Below w.heap.size w w') := by
  have mixed : Try.prog.follows .mixedOrders = true := by kernel_rfl
  have H := hid (h.mono hB)
  have HL := hid h.len
  have hcap := h.cap
  clear h hB
  obtain ⟨W, hW⟩ : ∃ W, W = (w.alloc (.cells #[.int .i64 o, .int .i64 p, .slice A n c] 29)).alloc (.cells #[.int .i64 0, .int .i64 0] 23) := ⟨_, rfl⟩
  have B0 := hid (show Below w.heap.size w W from hW ▸ ((Below.refl _ w).alloc (Nat.le_refl _) _).alloc (by simp) _)
  have X0 := hid (show Cbox W w.heap.size o p (.slice A n c) from hW ▸ heap2_0 w _ _)
  have Y0 := hid (show Dbx W (w.heap.size + 1) (0, 0) from hW ▸ heap2_1 w _ _)
  have x0 := X0.out.c0
  have x1 := X0.out.c1
  have x2 := X0.out.c2
  have HW := hid hW
  clear hW
  have CM := hid (rmay_any o p (H.out.below B0.out) B0.out.size)
  by_cases hq : CMay o p l
  case neg =>
    have hE : onE o p l = 8 := if_neg hq
    have hF : onD o p l x = (0, 0) := by unfold onD; rw [hE]; rfl
    rw [hE, hF]
    rw [decide_eq_false hq] at CM
    clear hq hE hF
    unfold cav at CM ⊢
    go_enter Try.func15, Try.ntmps15
    go_upto_region 1 with fail
    rw [← HW.out]
    clear HW
    go_wp2_with fail
    refine CM.out.mono ?_
    rintro e w1 ⟨rfl, hb⟩
    have Y1 := hid (Y0.out.below hb.out Y0.out.lt)
    have y0 := Y1.out.c0
    have y1 := Y1.out.c1
    have z0 := Y1.out.frozen 0
    have z1 := Y1.out.frozen 1
    go_wp2
    refine ret_desc (g := w.heap.size + 1) (d := (0, 0)) rfl rfl rfl rfl (Y1.out.store 0 0) ?_
    exact ⟨rfl, hid (((B0.out.trans (hb.out.mono B0.out.size)).setCell (p := ⟨w.heap.size + 1, 0, none⟩) (Nat.le_succ _) _).setCell (p := ⟨w.heap.size + 1, 1, none⟩) (Nat.le_succ _) _)⟩
  rw [decide_eq_true hq] at CM
  by_cases hn0 : n = 0
  · have hE : onE o p l = 6 := by unfold onE; rw [if_pos hq, if_pos (by rw [HL.out]; exact hn0)]
    have hF : onD o p l x = (0, 0) := by unfold onD; rw [hE]; rfl
    rw [hE, hF]
    clear hq hE hF
    subst hn0
    unfold cav at CM ⊢
    go_enter Try.func15, Try.ntmps15
    go_upto_region 1 with fail
    rw [← HW.out]
    clear HW
    go_wp2_with fail
    refine CM.out.mono ?_
    rintro e w1 ⟨rfl, hb⟩
    have Y1 := hid (Y0.out.below hb.out Y0.out.lt)
    have X1 := hid (X0.out.below hb.out X0.out.lt)
    clear x0 x1 x2
    have x2 := X1.out.c2
    have y0 := Y1.out.c0
    have y1 := Y1.out.c1
    have z0 := Y1.out.frozen 0
    have z1 := Y1.out.frozen 1
    go_wp2
    refine ret_desc (g := w.heap.size + 1) (d := (0, 0)) rfl rfl rfl rfl (Y1.out.store 0 0) ?_
    exact ⟨rfl, hid (((B0.out.trans (hb.out.mono B0.out.size)).setCell (p := ⟨w.heap.size + 1, 0, none⟩) (Nat.le_succ _) _).setCell (p := ⟨w.heap.size + 1, 1, none⟩) (Nat.le_succ _) _)⟩
  have hn6 : n ≤ 6 := by
    obtain ⟨_, _, _, a4, a5, _⟩ := hq
    have := HL.out
    omega
  have hE : onE o p l = 0 := by unfold onE; rw [if_pos hq, if_neg (by rw [HL.out]; exact hn0)]
  obtain ⟨a, ha⟩ : ∃ a, a = x % n := ⟨_, rfl⟩
  have han : a < n := by rw [ha]; exact Nat.mod_lt _ (by omega)
  obtain ⟨y, hy⟩ := H.out.get han
  have hF : onD o p l x = y := by unfold onD; rw [if_pos hE, HL.out, ← ha, hy]; rfl
  rw [hE, hF]
  clear hq hE hF
  have hr1 : ((x : Int)).tmod (n : Int) = (a : Int) := by rw [ha]; rfl
  have hw1 : IntKind.u64.wrap (n : Int) = (n : Int) := by rw [IntKind.wrap_u64]; omega
  have hnz : ¬ (n : Int) = 0 := by omega
  have haz : (a : Int) < (n : Int) := by omega
  have hag : ¬ (a : Int) < 0 := by omega
  obtain ⟨y1, y2⟩ := y
  have HY := hid hy
  have HA := hid ha
  clear hy ha
  unfold cav at CM ⊢
  go_enter Try.func15, Try.ntmps15
  go_upto_region 1 with fail
  rw [← HW.out]
  clear HW
  go_wp2_with fail
  refine CM.out.mono ?_
  rintro e w1 ⟨rfl, hb⟩
  have Y1 := hid (Y0.out.below hb.out Y0.out.lt)
  have X1 := hid (X0.out.below hb.out X0.out.lt)
  have B1 := hid (B0.out.trans (hb.out.mono B0.out.size))
  have D1 := H.out.below B1.out
  obtain ⟨b, off, rfl, _, hc⟩ := D1.at_ (by omega)
  obtain ⟨c1, c2⟩ := hc a (y1, y2) HY.out
  change w1.cell? ⟨b, off + a * 2, none⟩ = some (.int .i64 y1) at c1
  change w1.cell? ⟨b, off + a * 2 + 1, none⟩ = some (.int .i64 y2) at c2
  clear x0 x1 x2 hc D1 CM
  have x2 := X1.out.c2
  have u0 := Y1.out.c0
  have u1 := Y1.out.c1
  have z0 := Y1.out.frozen 0
  have z1 := Y1.out.frozen 1
  go_upto_region 5 with fail
  go_region
  all_goals
    go_wp2
    refine ret_desc (g := w.heap.size + 1) (d := (y1, y2)) rfl rfl rfl rfl ?_ ?_
    · exact Y1.out.store y1 y2
    · exact ⟨rfl, hid ((((B1.out).setCell (p := ⟨w.heap.size + 1, 0, none⟩) (Nat.le_succ _) _).setCell (p := ⟨w.heap.size + 1, 1, none⟩) (Nat.le_succ _) _).drew)⟩
end Go.Proofs.Ytdemhghflanncaa
