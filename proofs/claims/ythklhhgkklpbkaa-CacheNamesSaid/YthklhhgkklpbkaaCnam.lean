/- CacheNames, walked. -/
import Derived.Test.YthklhhgkklpbkaaCalv
import Derived.Deep.RegionHeld3
import Derived.Deep.DeepCutAuto
namespace Go.Proofs.Ythklhhgkklpbkaa
open Go.RowKit Go.Shelf Go.Lib

theorem bl_alloc {W X : World} {o : Obj} (h : Below W.heap.size W X) : Below W.heap.size W (X.alloc o) := h.alloc h.size o
theorem bl_then {W X Y : World} (h : Below W.heap.size W X) (k : Below X.heap.size X Y) : Below W.heap.size W Y := h.trans (k.mono h.size)
theorem bl_set {W X : World} {q : Addr} {v : Value} (h : Below W.heap.size W X) (hp : W.heap.size ≤ q.block) : Below W.heap.size W (X.setCell q v) := h.setCell hp v
theorem box_cells {w : World} {g : Nat} {o p : Int} {v : Value} (h : Cbox w g o p v) : w.cell? ⟨g, 0, none⟩ = some (.int .i64 o) ∧ w.cell? ⟨g, 1, none⟩ = some (.int .i64 p) ∧ w.cell? ⟨g, 2, none⟩ = some v := ⟨h.c0, h.c1, h.c2⟩
theorem two_form {w : World} {B : Nat} {v : Value} {a b : De} (h : Od w B v [a, b]) : ∃ A c, v = .slice A 2 c := by
  obtain ⟨A, c, e, _⟩ := h.form
  exact ⟨A, c, e⟩
theorem bl_drew {W X : World} (h : Below W.heap.size W X) : Below W.heap.size W X.drew := h.drew

theorem cb_sto {w : World} {g : Nat} {o p o' p' : Int} {v v' : Value} (h : Cbox w g o' p' v') : Cbox (((w.setCell ⟨g, 0, none⟩ (.int .i64 o)).setCell ⟨g, 1, none⟩ (.int .i64 p)).setCell ⟨g, 2, none⟩ v) g o p v := h.store
theorem cb_new {w : World} {o p : Int} {v : Value} : Cbox (w.alloc (.cells #[.int .i64 o, .int .i64 p, v] 24)) w.heap.size o p v := heap_alloc_new w _
theorem cb_mid {w : World} {o p : Int} {v : Value} {y : Obj} : Cbox ((w.alloc (.cells #[.int .i64 o, .int .i64 p, v] 24)).alloc y) w.heap.size o p v := heap2_0 w _ y
theorem cb_top {w : World} {o p : Int} {v : Value} {x : Obj} : Cbox ((w.alloc x).alloc (.cells #[.int .i64 o, .int .i64 p, v] 24)) (w.heap.size + 1) o p v := heap2_1 w x _
theorem box_s1 {W w' : World} (hb : Below ((W.alloc (.cells #[.int .i64 0, .int .i64 0, .slice none 0 0] 24)).drew).heap.size (W.alloc (.cells #[.int .i64 0, .int .i64 0, .slice none 0 0] 24)).drew w') : Cbox w' W.heap.size 0 0 (.slice none 0 0) := Cbox.below (w := (W.alloc (.cells #[.int .i64 0, .int .i64 0, .slice none 0 0] 24)).drew) (cache_new W) hb (by simp [World.drew])
theorem box_s2a {W w' : World} (hb : Below (((W.alloc (.cells #[.int .i64 0, .int .i64 0, .slice none 0 0] 24)).alloc (.cells #[.int .i64 0, .int .i64 0, .slice none 0 0] 24)).drew).heap.size ((W.alloc (.cells #[.int .i64 0, .int .i64 0, .slice none 0 0] 24)).alloc (.cells #[.int .i64 0, .int .i64 0, .slice none 0 0] 24)).drew w') : Cbox w' W.heap.size 0 0 (.slice none 0 0) := Cbox.below (w := ((W.alloc (.cells #[.int .i64 0, .int .i64 0, .slice none 0 0] 24)).alloc (.cells #[.int .i64 0, .int .i64 0, .slice none 0 0] 24)).drew) (heap2_0 W _ _) hb (by simp [World.drew]; omega)
theorem box_s2b {W w' : World} (hb : Below (((W.alloc (.cells #[.int .i64 0, .int .i64 0, .slice none 0 0] 24)).alloc (.cells #[.int .i64 0, .int .i64 0, .slice none 0 0] 24)).drew).heap.size ((W.alloc (.cells #[.int .i64 0, .int .i64 0, .slice none 0 0] 24)).alloc (.cells #[.int .i64 0, .int .i64 0, .slice none 0 0] 24)).drew w') : Cbox w' (W.heap.size + 1) 0 0 (.slice none 0 0) := Cbox.below (w := ((W.alloc (.cells #[.int .i64 0, .int .i64 0, .slice none 0 0] 24)).alloc (.cells #[.int .i64 0, .int .i64 0, .slice none 0 0] 24)).drew) (heap2_1 W _ _) hb (by simp [World.drew])
theorem box_t1 {W w' : World} (hb : Below (W.alloc (.cells #[.int .i64 0, .int .i64 0, .slice none 0 0] 24)).heap.size (W.alloc (.cells #[.int .i64 0, .int .i64 0, .slice none 0 0] 24)) w') : Cbox w' W.heap.size 0 0 (.slice none 0 0) := Cbox.below (cache_new W) hb (cache_new W).lt
theorem box_t2a {W w' : World} (hb : Below ((W.alloc (.cells #[.int .i64 0, .int .i64 0, .slice none 0 0] 24)).alloc (.cells #[.int .i64 0, .int .i64 0, .slice none 0 0] 24)).heap.size ((W.alloc (.cells #[.int .i64 0, .int .i64 0, .slice none 0 0] 24)).alloc (.cells #[.int .i64 0, .int .i64 0, .slice none 0 0] 24)) w') : Cbox w' W.heap.size 0 0 (.slice none 0 0) := Cbox.below (heap2_0 W _ _) hb (by simp; omega)
theorem box_t2b {W w' : World} (hb : Below ((W.alloc (.cells #[.int .i64 0, .int .i64 0, .slice none 0 0] 24)).alloc (.cells #[.int .i64 0, .int .i64 0, .slice none 0 0] 24)).heap.size ((W.alloc (.cells #[.int .i64 0, .int .i64 0, .slice none 0 0] 24)).alloc (.cells #[.int .i64 0, .int .i64 0, .slice none 0 0] 24)) w') : Cbox w' (W.heap.size + 1) 0 0 (.slice none 0 0) := Cbox.below (heap2_1 W _ _) hb (by simp)
theorem car0 {W w' : World} {g : Nat} {o p : Int} {u : Value} (h : Cbox W g o p u) (hb : Below W.heap.size W w') : Cbox w' g o p u := h.below hb h.lt
theorem car1 {W w' : World} {g : Nat} {o p : Int} {u : Value} (h : Cbox W g o p u) (hb : Below (W.alloc (.cells #[.int .i64 0, .int .i64 0, .slice none 0 0] 24)).heap.size (W.alloc (.cells #[.int .i64 0, .int .i64 0, .slice none 0 0] 24)) w') : Cbox w' g o p u := (h.alloc _).below hb (h.alloc (.cells #[.int .i64 0, .int .i64 0, .slice none 0 0] 24)).lt
def bk {w : World} {g : Nat} {o p : Int} {v : Value} (_ : Cbox w g o p v) : Nat := g
theorem Cbox.far {w : World} {g g' : Nat} {o p o' p' : Int} {v u : Value} (h : Cbox w g o p v) (hne : ¬ g = g') : Cbox (((w.setCell ⟨g', 0, none⟩ (.int .i64 o')).setCell ⟨g', 1, none⟩ (.int .i64 p')).setCell ⟨g', 2, none⟩ u) g o p v :=
  (Below.heap_setCell _ ⟨g', 2, none⟩ _ g hne).trans ((Below.heap_setCell _ ⟨g', 1, none⟩ _ g hne).trans ((Below.heap_setCell w ⟨g', 0, none⟩ _ g hne).trans h))

theorem put_list {w : World} {g : Nat} {o p : Int} {v v' : Value} {cs : Array Value} (h : Cbox w g o p v) :
    Cbox ((w.alloc (.cells cs 29)).setCell ⟨g, 2, none⟩ v') g o p v' ∧ ((w.alloc (.cells cs 29)).setCell ⟨g, 2, none⟩ v').heap[w.heap.size]? = some (.cells cs 29 (0, 0)) ∧ (∀ k, k < w.heap.size → k ≠ g → ((w.alloc (.cells cs 29)).setCell ⟨g, 2, none⟩ v').heap[k]? = w.heap[k]?) ∧
    ((w.alloc (.cells cs 29)).setCell ⟨g, 2, none⟩ v').heap.size = w.heap.size + 1 := by
  have hlt := h.lt
  refine ⟨put2_box (h.alloc _), ?_, fun k hk hne => ?_, by simp [World.setCell]⟩
  · exact (Below.heap_setCell _ ⟨g, 2, none⟩ _ w.heap.size (by show w.heap.size ≠ g; omega)).trans (heap_alloc_new w _)
  · exact (Below.heap_setCell _ ⟨g, 2, none⟩ _ k hne).trans (Below.heap_alloc w _ k hk)
theorem nil_form {w : World} {B : Nat} {v : Value} (h : Od w B v []) : ∃ A c, v = .slice A 0 c := by
  obtain ⟨A, c, e, _⟩ := h.form
  exact ⟨A, c, e⟩
theorem nam_oe : ofE 1 3 (-1) [(2, 5)] = 2 := by decide
theorem nam_ol : ofL 1 3 (-1) [(2, 5)] = [] := by decide
theorem nam_c5 : cchk 1 3 [(2, 5), (0, 5)] = 8 := by decide
theorem nam_c7 : cchk 1 3 [(1, 5)] = 8 := by decide
theorem nam_c8 : cchk 1 3 [(2, 5), (2, 4)] = 8 := by decide
theorem nam_c9 : cchk 1 3 [(2, 5)] = 0 := by decide
theorem nam_m9 : mgE 1 3 [(2, 5)] [(9, 0)] = 8 := by decide
def zros : List De := List.replicate 64 (0, 0)
theorem nam_mz : mgE 1 3 [(2, 5)] zros = 4 := by decide
theorem make_zros (w : World) : (Instr.makeSlice 22 (.int .i64 64) (.int .i64 64)).run Try.prog w = .ok (.slice (some ⟨w.heap.size, 0, none⟩) 64 64) (w.alloc (.cells (cellsD zros).toArray 29)) := by
  obtain ⟨i0, hi0, hz0, hzs, hzb⟩ := info_parts infoD
  have h := run_makeSlice (P := Try.prog) w 22 29 i0 _ Try.underlying22 hi0 hz0 .i64 .i64 64 64 (by omega) (by omega) (by rw [hzs]; decide) (by rw [hzb]; omega) (by omega)
  rw [hzs] at h
  have hc : madeCells (Value.agg #[.int .i64 0, .int .i64 0]).cells (Int.toNat 64 * 2) = (cellsD zros).toArray := by kernel_rfl
  rw [hc] at h
  exact h
theorem box_u1 {W w' : World} {y : Obj} (hb : Below (((W.alloc y).alloc (.cells #[.int .i64 0, .int .i64 0, .slice none 0 0] 24)).drew).heap.size ((W.alloc y).alloc (.cells #[.int .i64 0, .int .i64 0, .slice none 0 0] 24)).drew w') : Cbox w' (W.heap.size + 1) 0 0 (.slice none 0 0) := Cbox.below (w := ((W.alloc y).alloc (.cells #[.int .i64 0, .int .i64 0, .slice none 0 0] 24)).drew) (heap2_1 W _ _) hb (by simp [World.drew])
theorem box_u2 {W w' : World} {y : Obj} (hb : Below (((W.alloc (.cells #[.int .i64 0, .int .i64 0, .slice none 0 0] 24)).alloc y).drew).heap.size ((W.alloc (.cells #[.int .i64 0, .int .i64 0, .slice none 0 0] 24)).alloc y).drew w') : Cbox w' W.heap.size 0 0 (.slice none 0 0) := Cbox.below (w := ((W.alloc (.cells #[.int .i64 0, .int .i64 0, .slice none 0 0] 24)).alloc y).drew) (heap2_0 W _ _) hb (by simp [World.drew]; omega)
theorem far_by {w : World} {g g' : Nat} {o p o' p' : Int} {v u : Value} (hne : ¬ g = g') (h : Cbox w g o p v) : Cbox (((w.setCell ⟨g', 0, none⟩ (.int .i64 o')).setCell ⟨g', 1, none⟩ (.int .i64 p')).setCell ⟨g', 2, none⟩ u) g o p v := h.far hne

set_option maxHeartbeats 6400000 in
set_option maxRecDepth 100000 in
theorem cnam_walk {w : World} : Calls Try.prog 3 #[] w fun e w' => e = .returned (.bool true) ∧ Below w.heap.size w w' := by
  have mixed : Try.prog.follows .mixedOrders = true := by kernel_rfl
  have C0 := hid (cnew_any 8 1 w)
  rw [if_neg (show ¬ NMay 8 1 by decide), if_neg (show ¬ NMay 8 1 by decide)] at C0
  have C1 := hid (fun X => cnew_any 0 7 X)
  rw [if_neg (show ¬ NMay 0 7 by decide), if_neg (show ¬ NMay 0 7 by decide)] at C1
  have C2 := hid (fun X => cnew_any 1 3 X)
  rw [if_pos (show NMay 1 3 by decide), if_pos (show NMay 1 3 by decide)] at C2
  unfold cav at C0 C1 C2
  go_enter Try.func3, Try.ntmps3
  go_wp2_with fail
  refine C0.out.mono ?_
  rintro e w1 ⟨rfl, b1⟩
  go_upto_region 2 with fail
  have B1 := hid (bl_alloc (o := .cells #[.int .i64 0, .int .i64 0, .slice none 0 0] 24) b1.out)
  generalize w1.alloc (.cells #[.int .i64 0, .int .i64 0, .slice none 0 0] 24) = W1 at B1 ⊢
  clear b1 C0
  go_wp2_with fail
  refine (C1.out _).mono ?_
  rintro e w2 ⟨rfl, b2⟩
  go_upto_region 3 with fail
  have B2 := hid (bl_alloc (o := .cells #[.int .i64 0, .int .i64 0, .slice none 0 0] 24) (B1.out.trans (b2.out.mono B1.out.size)))
  generalize w2.alloc (.cells #[.int .i64 0, .int .i64 0, .slice none 0 0] 24) = W2 at B2 ⊢
  clear b2 B1 C1
  go_wp2_with fail
  refine (C2.out _).mono ?_
  rintro e w3 ⟨rfl, b3⟩
  go_upto_region 5 with fail
  obtain ⟨g5, hg5⟩ : ∃ g, g = w3.heap.size := ⟨_, rfl⟩
  obtain ⟨W3, hW3⟩ : ∃ W3, W3 = (w3.alloc (.cells #[.int .i64 1, .int .i64 3, .slice (some ⟨w3.heap.size + 1, 0, none⟩) 2 2] 24)).alloc (.cells #[.int .i64 2, .int .i64 5, .int .i64 0, .int .i64 5] 29) := ⟨_, rfl⟩
  rw [← hW3]
  have B3 := hid (show Below w.heap.size w W3 from by
    have h1 := (B2.out.trans (b3.out.mono B2.out.size))
    exact hW3 ▸ bl_alloc (bl_alloc h1))
  have X5 := hid (show Cbox W3 w3.heap.size 1 3 (.slice (some ⟨w3.heap.size + 1, 0, none⟩) 2 2) from hW3 ▸ heap2_0 w3 _ _)
  have D5 := hid (show Ds W3 W3.heap.size (some ⟨w3.heap.size + 1, 0, none⟩) 2 2 [(2, 5), (0, 5)] from ds_row (l := [(2, 5), (0, 5)]) (hW3 ▸ heap2_1 w3 _ _) (by decide))
  have HR5 := hid (show W3.heap[w3.heap.size + 1]? = some (.cells #[.int .i64 2, .int .i64 5, .int .i64 0, .int .i64 5] 29 (0, 0)) from hW3 ▸ heap2_1 w3 _ _)
  rw [← hg5] at X5 D5 HR5 ⊢
  clear hg5 hW3 b3 B2 C2
  have CT := hid (fun X (hb : Below W3.heap.size W3 X) => ctwin_any 1 3 (D5.out.below hb) hb.size (by omega))
  have CG := hid (fun X (hb : Below W3.heap.size W3 X) => box_cells (X5.out.below hb X5.out.lt))
  unfold cav at CT
  go_cut [7, 8] from 32 to 35 (fun s7 s8 wx => ∃ (g7 g8 c7 c8 : Nat) (A7 A8 : Option Addr), s7 = .pointer (some ⟨g7, 0, none⟩) ∧ s8 = .pointer (some ⟨g8, 0, none⟩) ∧ Hid (g7 ≠ g8 ∧ Cbox wx g7 1 3 (.slice A7 2 c7) ∧ Cbox wx g8 1 3 (.slice A8 2 c8) ∧ W3.heap.size ≤ g7 ∧ W3.heap.size ≤ g8 ∧ Below W3.heap.size W3 wx))
  case first =>
    have HBz := hid (Below.refl W3.heap.size W3)
    go_region_held3 (fun X => X.cell? ⟨g5, 0, none⟩ = some (.int .i64 1) ∧ X.cell? ⟨g5, 1, none⟩ = some (.int .i64 3) ∧ X.cell? ⟨g5, 2, none⟩ = some (.slice (some ⟨g5 + 1, 0, none⟩) 2 2))
      (exact CG.out _ (by (repeat (first | with_reducible exact HBz.out | with_reducible apply bl_drew | with_reducible apply bl_alloc | with_reducible refine bl_set ?_ (by first | exact Nat.le_refl _ | exact Nat.le_succ _ | exact HBa.out | exact Nat.le_succ_of_le HBa.out | exact HBz.out.size | exact Nat.le_succ_of_le HBz.out.size)))))
      (first
      | (go_at_call 9
         have HW1 := HV1.out.2
         clear HW1
         with_reducible refine (CT.out _ (by (repeat (first | with_reducible exact HBz.out | with_reducible apply bl_drew | with_reducible apply bl_alloc | with_reducible refine bl_set ?_ (by first | exact Nat.le_refl _ | exact Nat.le_succ _ | exact HBa.out | exact Nat.le_succ_of_le HBa.out | exact HBz.out.size | exact Nat.le_succ_of_le HBz.out.size))))).mono ?_
         rintro e' wb ⟨v2, rfl, HV2⟩
         obtain ⟨A2, c2, hv2⟩ := two_form HV2.out.1
         subst hv2
         have HBz := hid (bl_then (by (repeat (first | with_reducible exact HBz.out | with_reducible apply bl_drew | with_reducible apply bl_alloc | with_reducible refine bl_set ?_ (by first | exact Nat.le_refl _ | exact Nat.le_succ _ | exact HBa.out | exact Nat.le_succ_of_le HBa.out | exact HBz.out.size | exact Nat.le_succ_of_le HBz.out.size)))) HV2.out.2)
         try (have ya := hid (car0 za.out HV2.out.2))
         try (have ya := hid (car1 za.out HV2.out.2))
         try (have yb := hid (car0 zb.out HV2.out.2))
         try (have yc := hid (box_t1 HV2.out.2))
         try (have yc := hid (box_t2a HV2.out.2))
         try (have yd := hid (box_t2b HV2.out.2))
         clear HV2
         first
         | (have _h1 := ya.out; have _h2 := yc.out; clear _h1 _h2; have nab : ¬ W3.heap.size = wa.heap.size := (Nat.ne_of_lt za.out.lt); have nba : ¬ wa.heap.size = W3.heap.size := (Nat.ne_of_gt za.out.lt); have ya0 := (ya.out).c0; have ya1 := (ya.out).c1; have ya2 := (ya.out).c2; have yaf0 := (ya.out).frozen 0; have yaf1 := (ya.out).frozen 1; have yaf2 := (ya.out).frozen 2; have yc0 := (yc.out).c0; have yc1 := (yc.out).c1; have yc2 := (yc.out).c2; have ycf0 := (yc.out).frozen 0; have ycf1 := (yc.out).frozen 1; have ycf2 := (yc.out).frozen 2; have rya : Cbox ((wb.setCell ⟨W3.heap.size, 0, none⟩ (.int .i64 1)).setCell ⟨W3.heap.size, 1, none⟩ (.int .i64 3) |>.setCell ⟨W3.heap.size, 2, none⟩ (.slice A1 2 c1)) (wa.heap.size) 0 0 (.slice none 0 0) := Cbox.far yc.out nba; have rya_0 := (rya).c0; have rya_1 := (rya).c1; have rya_2 := (rya).c2; have rya_f0 := (rya).frozen 0; have rya_f1 := (rya).frozen 1; have rya_f2 := (rya).frozen 2; clear rya; have ryc : Cbox ((wb.setCell ⟨wa.heap.size, 0, none⟩ (.int .i64 1)).setCell ⟨wa.heap.size, 1, none⟩ (.int .i64 3) |>.setCell ⟨wa.heap.size, 2, none⟩ (.slice A1 2 c1)) (W3.heap.size) 0 0 (.slice none 0 0) := Cbox.far ya.out nab; have ryc_0 := (ryc).c0; have ryc_1 := (ryc).c1; have ryc_2 := (ryc).c2; have ryc_f0 := (ryc).frozen 0; have ryc_f1 := (ryc).frozen 1; have ryc_f2 := (ryc).frozen 2; clear ryc)
         | (have _h1 := ya.out; have _h2 := yb.out; clear _h1 _h2; have nab : ¬ W3.heap.size = W3.heap.size + 1 := (by omega); have nba : ¬ W3.heap.size + 1 = W3.heap.size := (by omega); have ya0 := (ya.out).c0; have ya1 := (ya.out).c1; have ya2 := (ya.out).c2; have yaf0 := (ya.out).frozen 0; have yaf1 := (ya.out).frozen 1; have yaf2 := (ya.out).frozen 2; have yb0 := (yb.out).c0; have yb1 := (yb.out).c1; have yb2 := (yb.out).c2; have ybf0 := (yb.out).frozen 0; have ybf1 := (yb.out).frozen 1; have ybf2 := (yb.out).frozen 2; have rya : Cbox ((wb.setCell ⟨W3.heap.size, 0, none⟩ (.int .i64 1)).setCell ⟨W3.heap.size, 1, none⟩ (.int .i64 3) |>.setCell ⟨W3.heap.size, 2, none⟩ (.slice A1 2 c1)) (W3.heap.size + 1) 0 0 (.slice none 0 0) := Cbox.far yb.out nba; have rya_0 := (rya).c0; have rya_1 := (rya).c1; have rya_2 := (rya).c2; have rya_f0 := (rya).frozen 0; have rya_f1 := (rya).frozen 1; have rya_f2 := (rya).frozen 2; clear rya; have ryb : Cbox ((wb.setCell ⟨W3.heap.size + 1, 0, none⟩ (.int .i64 1)).setCell ⟨W3.heap.size + 1, 1, none⟩ (.int .i64 3) |>.setCell ⟨W3.heap.size + 1, 2, none⟩ (.slice A1 2 c1)) (W3.heap.size) 0 0 (.slice none 0 0) := Cbox.far ya.out nab; have ryb_0 := (ryb).c0; have ryb_1 := (ryb).c1; have ryb_2 := (ryb).c2; have ryb_f0 := (ryb).frozen 0; have ryb_f1 := (ryb).frozen 1; have ryb_f2 := (ryb).frozen 2; clear ryb)
         | (have _h1 := yc.out; have _h2 := yd.out; clear _h1 _h2; have nab : ¬ wa.heap.size = wa.heap.size + 1 := (by omega); have nba : ¬ wa.heap.size + 1 = wa.heap.size := (by omega); have yc0 := (yc.out).c0; have yc1 := (yc.out).c1; have yc2 := (yc.out).c2; have ycf0 := (yc.out).frozen 0; have ycf1 := (yc.out).frozen 1; have ycf2 := (yc.out).frozen 2; have yd0 := (yd.out).c0; have yd1 := (yd.out).c1; have yd2 := (yd.out).c2; have ydf0 := (yd.out).frozen 0; have ydf1 := (yd.out).frozen 1; have ydf2 := (yd.out).frozen 2; have ryc : Cbox ((wb.setCell ⟨wa.heap.size, 0, none⟩ (.int .i64 1)).setCell ⟨wa.heap.size, 1, none⟩ (.int .i64 3) |>.setCell ⟨wa.heap.size, 2, none⟩ (.slice A1 2 c1)) (wa.heap.size + 1) 0 0 (.slice none 0 0) := Cbox.far yd.out nba; have ryc_0 := (ryc).c0; have ryc_1 := (ryc).c1; have ryc_2 := (ryc).c2; have ryc_f0 := (ryc).frozen 0; have ryc_f1 := (ryc).frozen 1; have ryc_f2 := (ryc).frozen 2; clear ryc; have ryd : Cbox ((wb.setCell ⟨wa.heap.size + 1, 0, none⟩ (.int .i64 1)).setCell ⟨wa.heap.size + 1, 1, none⟩ (.int .i64 3) |>.setCell ⟨wa.heap.size + 1, 2, none⟩ (.slice A1 2 c1)) (wa.heap.size) 0 0 (.slice none 0 0) := Cbox.far yc.out nab; have ryd_0 := (ryd).c0; have ryd_1 := (ryd).c1; have ryd_2 := (ryd).c2; have ryd_f0 := (ryd).frozen 0; have ryd_f1 := (ryd).frozen 1; have ryd_f2 := (ryd).frozen 2; clear ryd)
         | (have _h1 := ya.out; clear _h1; have nab : ¬ W3.heap.size = wb.heap.size := Nat.ne_of_lt ya.out.lt; have nba := Ne.symm nab; have yap0 := (ya.out.alloc (.cells #[.int .i64 0, .int .i64 0, .slice none 0 0] 24)).c0; have yap1 := (ya.out.alloc (.cells #[.int .i64 0, .int .i64 0, .slice none 0 0] 24)).c1; have yap2 := (ya.out.alloc (.cells #[.int .i64 0, .int .i64 0, .slice none 0 0] 24)).c2; have yapf0 := (ya.out.alloc (.cells #[.int .i64 0, .int .i64 0, .slice none 0 0] 24)).frozen 0; have yapf1 := (ya.out.alloc (.cells #[.int .i64 0, .int .i64 0, .slice none 0 0] 24)).frozen 1; have yapf2 := (ya.out.alloc (.cells #[.int .i64 0, .int .i64 0, .slice none 0 0] 24)).frozen 2; have yaq0 := (ya.out.alloc (.cells #[.int .i64 1, .int .i64 3, (.slice A1 2 c1)] 24)).c0; have yaq1 := (ya.out.alloc (.cells #[.int .i64 1, .int .i64 3, (.slice A1 2 c1)] 24)).c1; have yaq2 := (ya.out.alloc (.cells #[.int .i64 1, .int .i64 3, (.slice A1 2 c1)] 24)).c2; have yaqf0 := (ya.out.alloc (.cells #[.int .i64 1, .int .i64 3, (.slice A1 2 c1)] 24)).frozen 0; have yaqf1 := (ya.out.alloc (.cells #[.int .i64 1, .int .i64 3, (.slice A1 2 c1)] 24)).frozen 1; have yaqf2 := (ya.out.alloc (.cells #[.int .i64 1, .int .i64 3, (.slice A1 2 c1)] 24)).frozen 2; have rya : Cbox (((wb.alloc (.cells #[.int .i64 0, .int .i64 0, .slice none 0 0] 24)).setCell ⟨W3.heap.size, 0, none⟩ (.int .i64 1)).setCell ⟨W3.heap.size, 1, none⟩ (.int .i64 3) |>.setCell ⟨W3.heap.size, 2, none⟩ (.slice A1 2 c1)) wb.heap.size 0 0 (.slice none 0 0) := Cbox.far (cache_new wb) nba; have rya_0 := (rya).c0; have rya_1 := (rya).c1; have rya_2 := (rya).c2; have rya_f0 := (rya).frozen 0; have rya_f1 := (rya).frozen 1; have rya_f2 := (rya).frozen 2; clear rya)
         | (have _h1 := yc.out; clear _h1; have nab : ¬ wa.heap.size = wb.heap.size := Nat.ne_of_lt yc.out.lt; have nba := Ne.symm nab; have ycp0 := (yc.out.alloc (.cells #[.int .i64 0, .int .i64 0, .slice none 0 0] 24)).c0; have ycp1 := (yc.out.alloc (.cells #[.int .i64 0, .int .i64 0, .slice none 0 0] 24)).c1; have ycp2 := (yc.out.alloc (.cells #[.int .i64 0, .int .i64 0, .slice none 0 0] 24)).c2; have ycpf0 := (yc.out.alloc (.cells #[.int .i64 0, .int .i64 0, .slice none 0 0] 24)).frozen 0; have ycpf1 := (yc.out.alloc (.cells #[.int .i64 0, .int .i64 0, .slice none 0 0] 24)).frozen 1; have ycpf2 := (yc.out.alloc (.cells #[.int .i64 0, .int .i64 0, .slice none 0 0] 24)).frozen 2; have ycq0 := (yc.out.alloc (.cells #[.int .i64 1, .int .i64 3, (.slice A1 2 c1)] 24)).c0; have ycq1 := (yc.out.alloc (.cells #[.int .i64 1, .int .i64 3, (.slice A1 2 c1)] 24)).c1; have ycq2 := (yc.out.alloc (.cells #[.int .i64 1, .int .i64 3, (.slice A1 2 c1)] 24)).c2; have ycqf0 := (yc.out.alloc (.cells #[.int .i64 1, .int .i64 3, (.slice A1 2 c1)] 24)).frozen 0; have ycqf1 := (yc.out.alloc (.cells #[.int .i64 1, .int .i64 3, (.slice A1 2 c1)] 24)).frozen 1; have ycqf2 := (yc.out.alloc (.cells #[.int .i64 1, .int .i64 3, (.slice A1 2 c1)] 24)).frozen 2; have ryc : Cbox (((wb.alloc (.cells #[.int .i64 0, .int .i64 0, .slice none 0 0] 24)).setCell ⟨wa.heap.size, 0, none⟩ (.int .i64 1)).setCell ⟨wa.heap.size, 1, none⟩ (.int .i64 3) |>.setCell ⟨wa.heap.size, 2, none⟩ (.slice A1 2 c1)) wb.heap.size 0 0 (.slice none 0 0) := Cbox.far (cache_new wb) nba; have ryc_0 := (ryc).c0; have ryc_1 := (ryc).c1; have ryc_2 := (ryc).c2; have ryc_f0 := (ryc).frozen 0; have ryc_f1 := (ryc).frozen 1; have ryc_f2 := (ryc).frozen 2; clear ryc)
         | skip)
      | (go_at_call 9
         with_reducible refine (CT.out _ (by (repeat (first | with_reducible exact HBz.out | with_reducible apply bl_drew | with_reducible apply bl_alloc | with_reducible refine bl_set ?_ (by first | exact Nat.le_refl _ | exact Nat.le_succ _ | exact HBa.out | exact Nat.le_succ_of_le HBa.out | exact HBz.out.size | exact Nat.le_succ_of_le HBz.out.size))))).mono ?_
         rintro e' wa ⟨v1, rfl, HV1⟩
         obtain ⟨A1, c1, hv1⟩ := two_form HV1.out.1
         subst hv1
         have HBz := hid (bl_then (by (repeat (first | with_reducible exact HBz.out | with_reducible apply bl_drew | with_reducible apply bl_alloc | with_reducible refine bl_set ?_ (by first | exact Nat.le_refl _ | exact Nat.le_succ _ | exact HBa.out | exact Nat.le_succ_of_le HBa.out | exact HBz.out.size | exact Nat.le_succ_of_le HBz.out.size)))) HV1.out.2)
         have HBa := hid HBz.out.size
         try (have za := hid (box_s1 HV1.out.2))
         try (have za := hid (box_s2a HV1.out.2))
         try (have zb := hid (box_s2b HV1.out.2))))
    all_goals go_wp2
    all_goals go_meet
    all_goals refine ⟨_, _, c1, c2, A1, A2, rfl, rfl, hid ⟨?_, ?_, ?_, ?_, ?_, ?_⟩⟩
    all_goals first
      | with_reducible exact nab
      | with_reducible exact nba
      | exact Nat.ne_of_lt (Nat.lt_succ_self _)
      | exact Nat.ne_of_gt (Nat.lt_succ_self _)
      | ((repeat (first | with_reducible exact ya.out | with_reducible exact yb.out | with_reducible exact yc.out | with_reducible exact yd.out | with_reducible exact cb_new | with_reducible exact cb_top | with_reducible exact cb_mid | with_reducible apply cb_sto | with_reducible apply far_by nab | with_reducible apply far_by nba | with_reducible apply Cbox.alloc)); done)
      | exact Nat.le_refl _ | exact Nat.le_succ _ | exact HBa.out | exact Nat.le_succ_of_le HBa.out | exact HBz.out.size | exact Nat.le_succ_of_le HBz.out.size
      | exact (by (repeat (first | with_reducible exact HBz.out | with_reducible apply bl_drew | with_reducible apply bl_alloc | with_reducible refine bl_set ?_ (by first | exact Nat.le_refl _ | exact Nat.le_succ _ | exact HBa.out | exact Nat.le_succ_of_le HBa.out | exact HBz.out.size | exact Nat.le_succ_of_le HBz.out.size))))
  case rest =>
    obtain ⟨g7, g8, c7, c8, A7, A8, rfl, rfl, HR⟩ := hcut
    have hne := HR.out.1
    have Y7 := hid HR.out.2.1
    have Z8 := hid HR.out.2.2.1
    have hs7 := HR.out.2.2.2.1
    have hs8 := HR.out.2.2.2.2.1
    have Bc := hid HR.out.2.2.2.2.2
    clear HR CT CG
    have hrow5 := hid (show wc.heap[g5 + 1]? = some (.cells #[.int .i64 2, .int .i64 5, .int .i64 0, .int .i64 5] 29 (0, 0)) from (Bc.out.block _ (lt_of_heap HR5.out)).trans HR5.out)
    have X5c := hid (X5.out.below Bc.out X5.out.lt)
    have Bw := hid (B3.out.trans (Bc.out.mono B3.out.size))
    have hl5 := X5.out.lt
    have hl6 := lt_of_heap HR5.out
    have hws := B3.out.size
    have hbs := Bc.out.size
    clear X5 D5 HR5 B3
    have y2 := Y7.out.c2
    have z2 := Z8.out.c2
    go_upto_region 8 with fail
    clear y2 z2
    have y2 := (Y7.out.alloc (.cells #[.int .i64 1, .int .i64 5] 29)).c2
    have f7 := (Y7.out.alloc (.cells #[.int .i64 1, .int .i64 5] 29)).frozen 2
    go_upto_region 9 with fail
    obtain ⟨W8, hW8⟩ : ∃ W8, W8 = (wc.alloc (.cells #[.int .i64 1, .int .i64 5] 29)).setCell ⟨g7, 2, none⟩ (.slice (some ⟨wc.heap.size, 0, none⟩) 1 1) := ⟨_, rfl⟩
    rw [← hW8]
    obtain ⟨p1, p2, p3, p4⟩ := put_list (o := 1) (p := 3) (cs := #[.int .i64 1, .int .i64 5]) (v' := .slice (some ⟨wc.heap.size, 0, none⟩) 1 1) Y7.out
    rw [← hW8] at p1 p2 p3 p4
    have hs7 := Nat.le_trans hws hs7
    have hs8 := Nat.le_trans hws hs8
    have hlt7 := Y7.out.lt
    have hlt8 := Z8.out.lt
    have B8 := hid (show Below w.heap.size w W8 from hW8 ▸ (Bw.out.alloc Bw.out.size _).setCell (p := ⟨g7, 2, none⟩) hs7 _)
    have Y8 := hid p1
    have Q7 := hid p2
    have Z8' := hid (show Cbox W8 g8 1 3 (.slice A8 2 c8) from (p3 g8 hlt8 hne.symm).trans Z8.out)
    have X8 := hid (show Cbox W8 g5 1 3 (.slice (some ⟨g5 + 1, 0, none⟩) 2 2) from (p3 g5 X5c.out.lt (by omega)).trans X5c.out)
    have Q5 := hid ((p3 (g5 + 1) (by omega) (by omega)).trans hrow5.out)
    obtain ⟨r7, hr7⟩ : ∃ r, r = wc.heap.size := ⟨_, rfl⟩
    rw [← hr7] at Y8 Q7 p4 hlt7 hlt8 ⊢
    have P4 := hid p4
    have HS := hid (And.intro hs7 (And.intro hs8 (And.intro hws (And.intro hbs (And.intro hl5 (And.intro hl6 (And.intro hlt7 hlt8)))))))
    clear p1 p2 p3 hW8 Z8 X5c hrow5 Y7 y2 f7 Bw Bc hr7 p4 hs7 hs8 hws hbs hl5 hl6 hlt7 hlt8
    have z2 := (Z8'.out.alloc (.cells #[.int .i64 2, .int .i64 5, .int .i64 2, .int .i64 4] 29)).c2
    have f8 := (Z8'.out.alloc (.cells #[.int .i64 2, .int .i64 5, .int .i64 2, .int .i64 4] 29)).frozen 2
    go_upto_region 10 with fail
    obtain ⟨W9, hW9⟩ : ∃ W9, W9 = (W8.alloc (.cells #[.int .i64 2, .int .i64 5, .int .i64 2, .int .i64 4] 29)).setCell ⟨g8, 2, none⟩ (.slice (some ⟨W8.heap.size, 0, none⟩) 2 2) := ⟨_, rfl⟩
    rw [← hW9]
    have p4 := P4.out
    obtain ⟨hs7, hs8, hws, hbs, hl5, hl6, hlt7, hlt8⟩ := HS.out
    obtain ⟨p1, p2, p3, p5⟩ := put_list (o := 1) (p := 3) (cs := #[.int .i64 2, .int .i64 5, .int .i64 2, .int .i64 4]) (v' := .slice (some ⟨W8.heap.size, 0, none⟩) 2 2) Z8'.out
    rw [← hW9] at p1 p2 p3 p5
    have B9 := hid (show Below w.heap.size w W9 from hW9 ▸ (B8.out.alloc B8.out.size _).setCell (p := ⟨g8, 2, none⟩) hs8 _)
    have Z9 := hid p1
    have Q8 := hid p2
    have Y9 := hid (show Cbox W9 g7 1 3 (.slice (some ⟨r7, 0, none⟩) 1 1) from (p3 g7 Y8.out.lt hne).trans Y8.out)
    have X9 := hid (show Cbox W9 g5 1 3 (.slice (some ⟨g5 + 1, 0, none⟩) 2 2) from (p3 g5 X8.out.lt (by omega)).trans X8.out)
    have Q5' := hid ((p3 (g5 + 1) (by omega) (by omega)).trans Q5.out)
    have Q7' := hid ((p3 r7 (by omega) (by omega)).trans Q7.out)
    obtain ⟨r8, hr8⟩ : ∃ r, r = W8.heap.size := ⟨_, rfl⟩
    rw [← hr8] at Z9 Q8 p5 p4 ⊢
    clear p1 p2 p3 p4 p5 hW9 Z8' X8 Q5 Q7 Y8 z2 f8 B8 hr8 hs7 hs8 hws hbs hl5 hl6 hlt7 hlt8 P4 HS
    go_upto_region 11 with fail
    obtain ⟨W, hW⟩ : ∃ W, W = (W9.alloc (.cells #[.int .i64 2, .int .i64 5] 29)).alloc (.cells #[.int .i64 1, .int .i64 3, .slice (some ⟨W9.heap.size, 0, none⟩) 1 1] 24) := ⟨_, rfl⟩
    rw [← hW]
    have b9 := hid (show Below W9.heap.size W9 W from hW ▸ bl_alloc (bl_alloc (Below.refl _ W9)))
    have BB := hid (B9.out.trans (b9.out.mono B9.out.size))
    have V9 := hid (show Cbox W (W9.heap.size + 1) 1 3 (.slice (some ⟨W9.heap.size, 0, none⟩) 1 1) from hW ▸ cb_top)
    have Q9 := hid (show W.heap[W9.heap.size]? = some (.cells #[.int .i64 2, .int .i64 5] 29 (0, 0)) from hW ▸ heap2_0 W9 _ _)
    have Z10 := hid (Z9.out.below b9.out Z9.out.lt)
    have Y10 := hid (Y9.out.below b9.out Y9.out.lt)
    have X10 := hid (X9.out.below b9.out X9.out.lt)
    have Q5 := hid ((b9.out.block _ (lt_of_heap Q5'.out)).trans Q5'.out)
    have Q7 := hid ((b9.out.block _ (lt_of_heap Q7'.out)).trans Q7'.out)
    have Q8' := hid ((b9.out.block _ (lt_of_heap Q8.out)).trans Q8.out)
    obtain ⟨r9, hr9⟩ : ∃ r, r = W9.heap.size := ⟨_, rfl⟩
    rw [← hr9] at V9 Q9 ⊢
    clear hW b9 B9 Z9 Y9 X9 Q5' Q7' Q8 hr9 hne
    have K9 := hid (fun X (hb : Below W.heap.size W X) => (show Ds X X.heap.size (some ⟨r9, 0, none⟩) 1 1 [(2, 5)] from ds_row (l := [(2, 5)]) ((hb.block _ (lt_of_heap Q9.out)).trans Q9.out) (by decide)))
    have CO := hid (coffer_any 1 3 (-1) (K9.out W (Below.refl _ W)) (Nat.le_refl _))
    rw [nam_oe, nam_ol] at CO
    unfold cav at CO
    have v0 := V9.out.c0
    have v1 := V9.out.c1
    have v2 := V9.out.c2
    go_wp2_with fail
    refine CO.out.mono ?_
    rintro e wo ⟨v, rfl, ho⟩
    obtain ⟨Ao, co, hvo⟩ := nil_form ho.out.1
    subst hvo
    have HBz := hid ho.out.2
    clear v0 v1 v2 CO ho
    have VG := hid (fun X (hb : Below W.heap.size W X) => box_cells (V9.out.below hb V9.out.lt))
    have HBo := hid HBz.out.size
    obtain ⟨ZR, hZR⟩ : ∃ ZR, ZR = (cellsD zros).toArray := ⟨_, rfl⟩
    have hmk := make_zros
    rw [← hZR] at hmk
    have Da : Hid (Ds ((wo.alloc (.cells ZR 29)).drew) ((wo.alloc (.cells ZR 29)).drew).heap.size (some ⟨wo.heap.size, 0, none⟩) 64 64 zros) := hid (ds_row (l := zros) (show ((wo.alloc (.cells ZR 29)).drew).heap[wo.heap.size]? = _ from hZR ▸ heap_alloc_new wo _) (by decide))
    have Db : Hid (Ds (((wo.alloc (.cells ZR 29)).alloc (.cells #[.int .i64 0, .int .i64 0, .slice none 0 0] 24)).drew) (((wo.alloc (.cells ZR 29)).alloc (.cells #[.int .i64 0, .int .i64 0, .slice none 0 0] 24)).drew).heap.size (some ⟨wo.heap.size, 0, none⟩) 64 64 zros) := hid (ds_row (l := zros) (show (((wo.alloc (.cells ZR 29)).alloc (.cells #[.int .i64 0, .int .i64 0, .slice none 0 0] 24)).drew).heap[wo.heap.size]? = _ from hZR ▸ heap2_0 wo _ _) (by decide))
    have Dc : Hid (Ds (((wo.alloc (.cells #[.int .i64 0, .int .i64 0, .slice none 0 0] 24)).alloc (.cells ZR 29)).drew) (((wo.alloc (.cells #[.int .i64 0, .int .i64 0, .slice none 0 0] 24)).alloc (.cells ZR 29)).drew).heap.size (some ⟨wo.heap.size + 1, 0, none⟩) 64 64 zros) := hid (ds_row (l := zros) (show (((wo.alloc (.cells #[.int .i64 0, .int .i64 0, .slice none 0 0] 24)).alloc (.cells ZR 29)).drew).heap[wo.heap.size + 1]? = _ from hZR ▸ heap2_1 wo _ _) (by decide))
    have CM := hid (fun (X : World) (hb : Below W.heap.size W X) (A2 : Option Addr) (hD : Ds X X.heap.size A2 64 64 zros) => cmerge_any 1 3 (K9.out X hb) hD (Nat.le_refl _) (Nat.le_refl _))
    obtain ⟨m1, m2, m3⟩ := mg_bad nam_mz (by decide)
    rw [nam_mz, m1, m2, m3] at CM
    unfold cav at CM
    clear hZR m1 m2 m3
    go_upto_region 12 with fail
    go_cut [12, 13] from 61 to 66 (fun _ s13 wx => s13 = .int .i64 4 ∧ Hid (Below W.heap.size W wx))
    case first =>
      go_region_held3 (fun X => X.cell? ⟨r9 + 1, 0, none⟩ = some (.int .i64 1) ∧ X.cell? ⟨r9 + 1, 1, none⟩ = some (.int .i64 3) ∧ X.cell? ⟨r9 + 1, 2, none⟩ = some (.slice (some ⟨r9, 0, none⟩) 1 1))
        (exact VG.out _ (by (repeat (first | with_reducible exact HBz.out | with_reducible apply bl_drew | with_reducible apply bl_alloc | with_reducible refine bl_set ?_ (by first | exact HBo.out | exact Nat.le_succ_of_le HBo.out)))))
        (first
        | (go_at_call 11
           with_reducible refine (CM.out _ (by (repeat (first | with_reducible exact HBz.out | with_reducible apply bl_drew | with_reducible apply bl_alloc | with_reducible refine bl_set ?_ (by first | exact HBo.out | exact Nat.le_succ_of_le HBo.out)))) _ (by first | with_reducible exact Da.out | with_reducible exact Db.out | with_reducible exact Dc.out)).mono ?_
           rintro e' wb ⟨v, rfl, hv⟩
           obtain ⟨Ab, cb, hvb⟩ := nil_form hv.out.1
           subst hvb
           try (have yb := hid (box_u1 hv.out.2); have yb0 := (yb.out).c0; have yb1 := (yb.out).c1; have yb2 := (yb.out).c2; have ybf0 := (yb.out).frozen 0; have ybf1 := (yb.out).frozen 1; have ybf2 := (yb.out).frozen 2)
           try (have yc := hid (box_u2 hv.out.2); have yc0 := (yc.out).c0; have yc1 := (yc.out).c1; have yc2 := (yc.out).c2; have ycf0 := (yc.out).frozen 0; have ycf1 := (yc.out).frozen 1; have ycf2 := (yc.out).frozen 2)
           have HBz := hid (bl_then (by (repeat (first | with_reducible exact HBz.out | with_reducible apply bl_drew | with_reducible apply bl_alloc | with_reducible refine bl_set ?_ (by first | exact HBo.out | exact Nat.le_succ_of_le HBo.out)))) hv.out.2)
           clear hv))
      all_goals go_wp2
      all_goals go_meet
      all_goals refine ⟨rfl, hid ?_⟩
      all_goals exact (by (repeat (first | with_reducible exact HBz.out | with_reducible apply bl_drew | with_reducible apply bl_alloc | with_reducible refine bl_set ?_ (by first | exact HBo.out | exact Nat.le_succ_of_le HBo.out))))
    case rest =>
      obtain ⟨rfl, HW12⟩ := hcut
      clear Da Db Dc CM VG HBz HBo hmk
      obtain ⟨v0, v1, v2⟩ := box_cells (V9.out.below HW12.out V9.out.lt)
      have CM := hid (cmerge_any (w := wc.alloc (.cells (cellsD [(9, 0)]).toArray 29)) 1 3 (K9.out _ (bl_alloc HW12.out)) (ds_row (heap_alloc_new wc _) (by decide)) (Nat.le_refl _) (Nat.le_refl _))
      obtain ⟨m1, m2, m3⟩ := mg_bad nam_m9 (by decide)
      rw [nam_m9, m1, m2, m3] at CM
      unfold cav at CM
      clear m1 m2 m3
      go_wp2_with fail
      refine CM.out.mono ?_
      rintro e wd ⟨v, rfl, hv⟩
      obtain ⟨Ad, cd, hvd⟩ := nil_form hv.out.1
      subst hvd
      have Bd := hid (bl_then (bl_alloc HW12.out) hv.out.2)
      clear hv CM v0 v1 v2 HW12
      go_upto_region 14 with fail
      obtain ⟨We, hWe⟩ : ∃ We, We = wd.alloc (.cells #[.int .i64 0, .int .i64 0, .slice Ad 0 cd] 24) := ⟨_, rfl⟩
      rw [← hWe]
      have Be := hid (show Below W.heap.size W We from hWe ▸ bl_alloc Bd.out)
      clear hWe Bd
      go_wp2_with fail
      refine (calive_any We).mono ?_
      rintro e wf0 ⟨rfl, hb⟩
      have Bf0 := hid (bl_then Be.out hb.out)
      clear hb Be
      have C0 := hid (ccheck_any 1 3 (show Ds wf0 wf0.heap.size (some ⟨g5 + 1, 0, none⟩) 2 2 [(2, 5), (0, 5)] from ds_row (l := [(2, 5), (0, 5)]) ((Bf0.out.block _ (lt_of_heap Q5.out)).trans Q5.out) (by decide)) (Nat.le_refl _))
      rw [nam_c5] at C0
      unfold cav at C0
      obtain ⟨x0, x1, x2⟩ := box_cells (X10.out.below Bf0.out X10.out.lt)
      go_wp2_with fail
      refine C0.out.mono ?_
      rintro e wf1 ⟨rfl, hb⟩
      have Bf1 := hid (bl_then Bf0.out hb.out)
      clear hb Bf0 C0 x0 x1 x2
      have C1 := hid (ccheck_any 1 3 (show Ds wf1 wf1.heap.size (some ⟨r7, 0, none⟩) 1 1 [(1, 5)] from ds_row (l := [(1, 5)]) ((Bf1.out.block _ (lt_of_heap Q7.out)).trans Q7.out) (by decide)) (Nat.le_refl _))
      rw [nam_c7] at C1
      unfold cav at C1
      obtain ⟨x0, x1, x2⟩ := box_cells (Y10.out.below Bf1.out Y10.out.lt)
      go_wp2_with fail
      refine C1.out.mono ?_
      rintro e wf2 ⟨rfl, hb⟩
      have Bf2 := hid (bl_then Bf1.out hb.out)
      clear hb Bf1 C1 x0 x1 x2
      have C2 := hid (ccheck_any 1 3 (show Ds wf2 wf2.heap.size (some ⟨r8, 0, none⟩) 2 2 [(2, 5), (2, 4)] from ds_row (l := [(2, 5), (2, 4)]) ((Bf2.out.block _ (lt_of_heap Q8'.out)).trans Q8'.out) (by decide)) (Nat.le_refl _))
      rw [nam_c8] at C2
      unfold cav at C2
      obtain ⟨x0, x1, x2⟩ := box_cells (Z10.out.below Bf2.out Z10.out.lt)
      go_wp2_with fail
      refine C2.out.mono ?_
      rintro e wf3 ⟨rfl, hb⟩
      have Bf3 := hid (bl_then Bf2.out hb.out)
      clear hb Bf2 C2 x0 x1 x2
      have C3 := hid (ccheck_any 1 3 (show Ds wf3 wf3.heap.size (some ⟨r9, 0, none⟩) 1 1 [(2, 5)] from ds_row (l := [(2, 5)]) ((Bf3.out.block _ (lt_of_heap Q9.out)).trans Q9.out) (by decide)) (Nat.le_refl _))
      rw [nam_c9] at C3
      unfold cav at C3
      obtain ⟨x0, x1, x2⟩ := box_cells (V9.out.below Bf3.out V9.out.lt)
      go_wp2_with fail
      refine C3.out.mono ?_
      rintro e wf4 ⟨rfl, hb⟩
      have Bf4 := hid (bl_then Bf3.out hb.out)
      clear hb Bf3 C3 x0 x1 x2
      go_wp2
      go_ret
      exact ⟨rfl, BB.out.trans (Bf4.out.mono BB.out.size)⟩
end Go.Proofs.Ythklhhgkklpbkaa
