/- Dyads: words for their boxes, for what is handed in, and for what is answered. -/
/- Package mass: Check. -/
/- Package mass: anyBad, by slices.ContainsFunc. -/
/- Package dyad: Same, Of; the law's own helper part. -/
/- The law's own helpers of package dyad: part, alive. -/
/- Laws' walks: what is too great to be gone through; a dyad that came in. -/
/- Dyads: what the laws' walks have in common. -/
/- A region that draws its order, within a round of a range over a function: the walk that takes loads first (of Derived/OrdersHeld) serves there too. No program is named here. -/
/- Masses: words for what is handed in, and for what is answered. -/
/- Bits, the lowest first, as slices of uint8: what is read; the reference's Cut. -/
/- The reference's Digits: the bits of limbs. -/
/- The reference's Limbs: the limbs of bits. -/
/- The reference's Same, May, told; the law's spoil and own copies. -/
/- Limbs of one number, however many: what they are when they may be. -/
/- 'append(x, y...)', and copies by it. -/
import Derived.Test.YtbankbehfjogpaaGreatVaa
import Derived.Laws.ResultCell
import Derived.Laws.Rows
import Derived.Deep.RegionHeld3
import Derived.RangeFuncCalls
import Derived.RangeFuncNested
import Derived.TacticsIn
import Derived.OrdersIn
import Derived.Laws.AppendOwnNone
namespace Go.Proofs.YtbankbehfjogpaaGreat
open Go.RowKit
theorem bool_of_dec {p : Prop} [Decidable p] (h : p) : decide p = true := by simp [h]
theorem bool_of_not {p : Prop} [Decidable p] (h : ¬ p) : decide p = false := by simp [h]
theorem heap3_0 (w : World) (a b c : Obj) : (((w.alloc a).alloc b).alloc c).heap[w.heap.size]? = some a :=
  (Below.heap_alloc _ c _ (by simp; omega)).trans ((Below.heap_alloc _ b _ (by simp)).trans (heap_alloc_new w a))
theorem heap3_1 (w : World) (a b c : Obj) : (((w.alloc a).alloc b).alloc c).heap[w.heap.size + 1]? = some b :=
  (Below.heap_alloc _ c _ (by simp)).trans (heap_alloc2_new w a b)
theorem heap3_2 (w : World) (a b c : Obj) : (((w.alloc a).alloc b).alloc c).heap[w.heap.size + 2]? = some c := by
  have h := heap_alloc_new ((w.alloc a).alloc b) c
  have e : ((w.alloc a).alloc b).heap.size = w.heap.size + 2 := by simp
  rwa [e] at h
section
variable (w : World) (a b c d : Obj)
end
def Dbox (w : World) (g : Nat) (s : Bool) (v : Value) (x : Int) : Prop := w.heap[g]? = some (.cells #[.bool s, v, .int .i64 x] 24 (0, 0))
section
variable {w w' : World} {g : Nat} {s : Bool} {v : Value} {x : Int}
theorem Dbox.lt (h : Dbox w g s v x) : g < w.heap.size := lt_of_heap h
theorem Dbox.c0 (h : Dbox w g s v x) : w.cell? ⟨g, 0, none⟩ = some (.bool s) := by rw [cell_of_row w g 0 _ _ (0, 0) h]; rfl
theorem Dbox.c1 (h : Dbox w g s v x) : w.cell? ⟨g, 1, none⟩ = some v := by rw [cell_of_row w g 1 _ _ (0, 0) h]; rfl
theorem Dbox.c2 (h : Dbox w g s v x) : w.cell? ⟨g, 2, none⟩ = some (.int .i64 x) := by rw [cell_of_row w g 2 _ _ (0, 0) h]; rfl
theorem Dbox.frozen (h : Dbox w g s v x) (j : Nat) : w.frozen? ⟨g, j, none⟩ = false := frozen_of_row w g j _ _ h
theorem Dbox.below {B : Nat} (h : Dbox w g s v x) (hb : Below B w w') (hg : g < B) : Dbox w' g s v x := (hb.block g hg).trans h
theorem Dbox.grown {k : Nat} (h : Dbox w g s v x) (hb : w.grownBy w' (some k)) (hg : g ≠ k) : Dbox w' g s v x := (hb.block g h.lt (by intro e; injection e with e; exact hg e)).trans h
end
def Dn (B : Nat) (w : World) (M : Int) (d : Value) : Prop := ∃ s v x V, d = .agg #[.bool s, v, .int .i64 ((x : Nat) : Int)] ∧ Num 75 B w V v ∧ Canon s V x ∧ x ≤ 1024 ∧ dv s V x = M
def resD (er : Int) (M : Int) : Int := if er = 0 then M else 0
def DRes (w : World) (E : Int → Prop) (M : Int) (e : Ending) (w' : World) : Prop := ∃ d er, e = .returned (.tuple #[d, .int .i64 er]) ∧ Hid (E er) ∧ Hid (Dn w.heap.size w' (resD er M) d) ∧ Hid (Below w.heap.size w w')
def put3 (w : World) (g : Nat) (s : Bool) (v : Value) (x : Int) : World := ((w.setCell ⟨g, 0, none⟩ (.bool s)).setCell ⟨g, 1, none⟩ v).setCell ⟨g, 2, none⟩ (.int .i64 x)
theorem Dbox.store {w : World} {g : Nat} {s t : Bool} {v u : Value} {x y : Int} (h : Dbox w g s v x) : Dbox (put3 w g t u y) g t u y := by
  have h0 := heap_setCell_same w g 0 _ _ (.bool t) h
  have h1 := heap_setCell_same _ g 1 _ _ u h0
  exact heap_setCell_same _ g 2 _ _ (.int .i64 y) h1
theorem below_put3 {B : Nat} {w w' : World} {g : Nat} {s : Bool} {v : Value} {x : Int} (h : Below B w w') (hg : B ≤ g) : Below B w (put3 w' g s v x) :=
  ((h.setCell (p := ⟨g, 0, none⟩) hg _).setCell (p := ⟨g, 1, none⟩) hg _).setCell (p := ⟨g, 2, none⟩) hg _
theorem cells_agg_tmp {P : Program} {fn : Func} {p u : Tmp} {ty : TypeId} (h : fn.results = #[.cell p ty, .tmp u]) (tmps : Array Value) (w : World) (g : Nat) (t : TypeId) (cs : Array Value) (fr : Nat × Nat) (d : TypeDesc)
    (hp : tmps.getD p undef = .pointer (some ⟨g, 0, none⟩)) (hg : w.heap[g]? = some (.cells cs t fr))
    (hu : P.underlying ty = some d) (hd : (match d with | .struct _ | .array _ _ => true | _ => false) = true) (hi : (P.info? ty).map (·.size) = some cs.size) :
    (results fn tmps).run P w = .ok (.tuple #[.agg cs, tmps.getD u undef]) w := by
  rw [results_cell_tmp h, hp]
  simp [asAddr, Result.andThen, run_loadVar_row w g t ty cs fr d hg hu hd hi]
theorem dyad_size : (Tryz.prog.info? 24).map (·.size) = some 3 := by kernel_rfl
theorem ret_dyad {fn : Func} {R : Ending → World → Prop} {a : Act} {w : World} {p u : Tmp} {g : Nat} {s : Bool} {v er : Value} {x : Int} (h : fn.results = #[.cell p 24, .tmp u]) (hp : a.tmps.getD p undef = .pointer (some ⟨g, 0, none⟩)) (hu : a.tmps.getD u undef = er)
    (hd : a.defers = []) (hg : Dbox w g s v x) (hR : R (.returned (.tuple #[.agg #[.bool s, v, .int .i64 x], er])) w) : bodyPost Tryz.prog fn R .ret a w := by
  refine bodyPost_ret ?_ hd hR
  rw [← hu]
  exact cells_agg_tmp h a.tmps w g _ _ _ _ hp hg Tryz.underlying24 rfl dyad_size
theorem Dbox.alloc {w : World} {g : Nat} {s : Bool} {v : Value} {x : Int} (h : Dbox w g s v x) (o : Obj) : Dbox (w.alloc o) g s v x := (Below.heap_alloc w o g h.lt).trans h
theorem Dbox.drew {w : World} {g : Nat} {s : Bool} {v : Value} {x : Int} (h : Dbox w g s v x) : Dbox w.drew g s v x := h
theorem cells_agg {P : Program} {fn : Func} {p : Tmp} {ty : TypeId} (h : fn.results = #[.cell p ty]) (tmps : Array Value) (w : World) (g : Nat) (t : TypeId) (cs : Array Value) (fr : Nat × Nat) (d : TypeDesc)
    (hp : tmps.getD p undef = .pointer (some ⟨g, 0, none⟩)) (hg : w.heap[g]? = some (.cells cs t fr))
    (hu : P.underlying ty = some d) (hd : (match d with | .struct _ | .array _ _ => true | _ => false) = true) (hi : (P.info? ty).map (·.size) = some cs.size) :
    (results fn tmps).run P w = .ok (.agg cs) w := results_cell_row h tmps w g t cs fr d hp hg hu hd hi
theorem ret_one {fn : Func} {R : Ending → World → Prop} {a : Act} {w : World} {p : Tmp} {g : Nat} {s : Bool} {v : Value} {x : Int} (h : fn.results = #[.cell p 24]) (hp : a.tmps.getD p undef = .pointer (some ⟨g, 0, none⟩))
    (hd : a.defers = []) (hg : Dbox w g s v x) (hR : R (.returned (.agg #[.bool s, v, .int .i64 x])) w) : bodyPost Tryz.prog fn R .ret a w :=
  bodyPost_ret (cells_agg h a.tmps w g _ _ _ _ hp hg Tryz.underlying24 rfl dyad_size) hd hR
def DArg (w : World) (p : Prop) (M : Int) (v : Value) : Prop := ∃ s A n c f x, v = .agg #[.bool s, .slice A n c, .int .i64 x] ∧ Rd w w.heap.size A n c f ∧ (p ↔ DMay s n f x) ∧ (p → ∃ X : Nat, x = (X : Int) ∧ M = dv s (vl f n) X)
def Derrs (p : Prop) (M : Int) (er : Int) : Prop := (p → Derr M er) ∧ (¬ p → er = 8)
set_option maxRecDepth 100000
open Go.RowKit Go.Shelf
attribute [local go_sem] Oper.semAt_some
structure Dy where
  s : Bool
  A : Option Addr
  n : Nat
  c : Nat
  x : Int
  f : Nat → Nat
abbrev mcells (M : Nat → Dy) : Array Value := #[.bool (M 0).s, .slice (M 0).A (M 0).n (M 0).c, .int .i64 (M 0).x, .bool (M 1).s, .slice (M 1).A (M 1).n (M 1).c, .int .i64 (M 1).x, .bool (M 2).s, .slice (M 2).A (M 2).n (M 2).c, .int .i64 (M 2).x, .bool (M 3).s, .slice (M 3).A (M 3).n (M 3).c, .int .i64 (M 3).x]
def Mbox (w : World) (g : Nat) (M : Nat → Dy) : Prop := w.heap[g]? = some (.cells (mcells M) 26 (0, 0))
def Mrd (w : World) (B : Nat) (M : Nat → Dy) : Prop := ∀ k, k < 4 → Rd w B (M k).A (M k).n (M k).c (M k).f
def MMay (M : Nat → Dy) : Prop := ∀ k, k < 4 → DMay (M k).s (M k).n (M k).f (M k).x
theorem Mbox.lt {w : World} {g : Nat} {M : Nat → Dy} (h : Mbox w g M) : g < w.heap.size := lt_of_heap h
theorem Mbox.below {w w' : World} {B g : Nat} {M : Nat → Dy} (h : Mbox w g M) (hb : Below B w w') (hg : g < B) : Mbox w' g M := (hb.block g hg).trans h
theorem Mbox.alloc {w : World} {g : Nat} {M : Nat → Dy} (h : Mbox w g M) (o : Obj) : Mbox (w.alloc o) g M := (Below.heap_alloc w o g h.lt).trans h
theorem Mbox.grown {w w' : World} {g k : Nat} {M : Nat → Dy} (h : Mbox w g M) (hb : w.grownBy w' (some k)) (hg : g ≠ k) : Mbox w' g M := (hb.block g h.lt (by intro e; injection e with e; exact hg e)).trans h
theorem Mbox.cell {w : World} {g : Nat} {M : Nat → Dy} (h : Mbox w g M) {k : Nat} (hk : k < 4) : w.cell? ⟨g, 3 * k, none⟩ = some (.bool (M k).s) ∧ w.cell? ⟨g, 3 * k + 1, none⟩ = some (.slice (M k).A (M k).n (M k).c) ∧ w.cell? ⟨g, 3 * k + 2, none⟩ = some (.int .i64 (M k).x) := by
  have hc : k = 0 ∨ k = 1 ∨ k = 2 ∨ k = 3 := by omega
  refine ⟨?_, ?_, ?_⟩
  all_goals
    rw [cell_of_row w g _ _ _ (0, 0) h]
    rcases hc with rfl | rfl | rfl | rfl <;> rfl
theorem keeps_below {B : Nat} {W W' : World} (h : Below W.heap.size W W') : KeepsFrom B W W' := KeepsFrom.of_grownBy (row := none) ⟨h.os, h.tape, h.output, h.size, fun k hk _ => h.block k hk⟩ (fun j h => by cases h)
theorem kb_below {K : Nat → Prop} {W W' : World} (h : Below W.heap.size W W') (hK : ∀ b, K b → b < W.heap.size) : Kb K W W' := ⟨h.size, fun b hb => h.block b (hK b hb)⟩
theorem Boxed.grown' {W W' : World} {B k : Nat} {t : TypeId} {v : Value} (h : Boxed W B t v) (hg : W.grownBy W' (some k)) (hne : B ≠ k) : Boxed W' B t v := (hg.block B h.lt (by intro e; injection e with e; exact hne e)).trans h
theorem Boxed.below' {W W' : World} {B C : Nat} {t : TypeId} {v : Value} (h : Boxed W B t v) (hb : Below C W W') (hC : B < C) : Boxed W' B t v := (hb.block B hC).trans h
theorem below_row {B : Nat} {w X Y : World} {r : Nat} (h : Below B w X) (hg : X.grownBy Y (some r)) (hB : B ≤ X.heap.size) (hr : B ≤ r) : Below B w Y := h.grown hg hB (fun k hk => by injection hk with hk; subst hk; exact hr)
def ChkI (w : World) (M : Nat → Dy) (Z : Nat) (pre : List (Idx 4)) (X : World) : Prop := Z ≤ X.heap.size ∧ Mbox X w.heap.size M ∧ Boxed X (w.heap.size + 1) 35 (.int .i64 0) ∧ Below w.heap.size w X ∧ ∀ p ∈ pre, DMay (M p.1).s (M p.1).n (M p.1).f (M p.1).x
def ChkX (w : World) (M : Nat → Dy) (X : World) : Prop := ¬ MMay M ∧ Boxed X (w.heap.size + 1) 35 (.int .i64 8) ∧ Below w.heap.size w X
theorem mem_fst {ys : List (Idx 4)} (h : ys.map (·.1) = fst 4) {k : Nat} (hk : k < 4) : ∃ p, p ∈ ys ∧ p.1 = k := by
  have h1 : k ∈ ys.map (·.1) := by
    rw [h]
    simp only [fst, upto, List.mem_map, List.mem_range]
    exact ⟨k, hk, rfl⟩
  obtain ⟨p, hp, e⟩ := List.mem_map.1 h1
  exact ⟨p, hp, e⟩
set_option maxRecDepth 100000 in
set_option maxHeartbeats 4000000 in
theorem mcheck_any {w : World} {M : Nat → Dy} (h : Mrd w w.heap.size M) :
    Calls Tryz.prog 75 #[.agg (mcells M)] w fun e w' => ∃ er : Int, e = .returned (.int .i64 er) ∧ Hid (er = 0 ↔ MMay M) ∧ Hid (er = 0 ∨ er = 8) ∧ Hid (Below w.heap.size w w') := by
  obtain ⟨W, hW⟩ : ∃ W, W = (w.alloc (.cells (mcells M) 26)).alloc (.cells #[.int .i64 0] 35) := ⟨_, rfl⟩
  have B0 := hid (show Below w.heap.size w W from hW ▸ ((Below.refl _ w).alloc (Nat.le_refl _) _).alloc (by simp) _)
  have P0 : Hid (Mbox W w.heap.size M) := hid (hW ▸ Mbox.alloc (show Mbox (w.alloc _) w.heap.size M from heap_alloc_new w _) _)
  have HR := hid h
  have HW := hid hW
  clear hW h
  refine (callsIn_wide (n := 9)).1 ?_
  refine callsIn_of_wp_marks Tryz.func75 rfl trivial (wpIn_wide.2 ?_) rfl
  simp only [Tryz.ntmps75, List.size_toArray, List.length_cons, List.length_nil, Nat.reduceAdd, Nat.reduceSub, Array.replicate_succ, Array.replicate_zero, List.push_toArray, List.append_toArray, List.nil_append, List.cons_append]
  go_upto_region 1 with fail
  rw [← HW.out]
  go_wp2_with fail
  refine (callsIn_wide.1 (parts_any 9 w.heap.size W)).mono ?_
  rintro e W1 ⟨rfl, hW1⟩
  have bS : Boxed W1 W.heap.size 114 (.pointer (some ⟨w.heap.size, 0, none⟩)) := by rw [hW1]; exact heap_alloc_new W _
  have B1 : Below W.heap.size W W1 := by rw [hW1]; exact (Below.refl _ W).alloc (Nat.le_refl _) _
  have hsz : w.heap.size + 2 ≤ W.heap.size := by rw [HW.out]; simp
  have bR : Boxed W (w.heap.size + 1) 35 (.int .i64 0) := by rw [HW.out]; exact heap_alloc2_new w _ _
  have bR1 := hid (show Boxed W1 (w.heap.size + 1) 35 (.int .i64 0) from (B1.block _ (by omega)).trans bR)
  have P1 := hid (P0.out.below B1 P0.out.lt)
  have hs1 : W.heap.size + 1 ≤ W1.heap.size := by rw [hW1]; simp
  have Hsz := hid hsz
  have Hs1 := hid hs1
  have HB1 := hid (B0.out.trans (B1.mono (by omega)))
  have HbS := hid bS
  have hI0 : ChkI w M W1.heap.size [] W1 := ⟨Nat.le_refl _, P1.out, bR1.out, HB1.out, fun p hp => by cases hp⟩
  clear hW1 B1 bR bS hsz hs1
  go_wp2_with fail
  refine wpIn_wide.1 (range_over (F := Fence.wide) (n := 9) (gf := 105) rfl (by omega) rfl trivial (enters_of Tryz.func105 (by kernel_rfl) rfl) (K := fun b => b < W1.heap.size) (g := W.heap.size) (by have := Hs1.out; show W.heap.size < W1.heap.size; omega) (fun b h => h)
    (parts_comes 8 (by omega) HbS.out.cell HbS.out.lt) (fun _ => rfl) (ChkI w M W1.heap.size) (fun _ => ChkX w M)
    (fun s X Y r h hg hr => ⟨Nat.le_trans h.1 hg.size, h.2.1.grown hg (by have := Hsz.out; have := Hs1.out; omega), Boxed.grown' h.2.2.1 hg (by have := Hsz.out; have := Hs1.out; omega), below_row h.2.2.2.1 hg h.2.2.2.1.size (by have := Hsz.out; have := Hs1.out; omega), h.2.2.2.2⟩)
    (fun s X Y r h hg hr => ⟨h.1, Boxed.grown' h.2.1 hg (by have := Hsz.out; have := Hs1.out; omega), below_row h.2.2 hg h.2.2.size (by have := Hsz.out; have := Hs1.out; omega)⟩)
    (fun s X Y r h _ _ => h) hI0 ?a1 ?assign ?body ?done ?stop)
  case assign =>
    intro l x W K hK
    gi_wp2
    exact hK
  case body =>
    intro l pre x Wx hI
    obtain ⟨k, hk⟩ := x
    obtain ⟨hZ, hM, hR0, hB, hp⟩ := hI
    have HZ := hid hZ
    have Hp := hid hp
    have HB := hid hB
    have HMx := hid hM
    have HR0 := hid hR0
    obtain ⟨y0, y1, y2⟩ := hM.cell hk
    have hr := (((HR.out k hk).below hB).mono hB.size)
    have hx0 := HR0.out.cell
    have hx1 := HR0.out.frozen
    obtain ⟨m, hm⟩ : ∃ m, m = M k := ⟨_, rfl⟩
    rw [← hm] at y0 y1 y2 hr
    have Hm := hid hm
    obtain ⟨s, A, n, c, xx, f⟩ := m
    dsimp only at y0 y1 y2 hr
    have Hk := hid hk
    have CC := dcheck_any hr s xx
    have Hmay := hid (show DMay s n f xx ↔ DMay (M k).s (M k).n (M k).f (M k).x by rw [← hm])
    have HWx := hid hB.size
    unfold pptr
    clear hm hp hB hM hR0 hI0 hZ
    by_cases hd : DMay s n f xx
    · rw [show dchk s n f xx = 0 from if_pos hd] at CC
      have HC := hid CC
      have Hd := hid hd
      clear CC hd
      gi_wp2_with fail
      refine ⟨trivial, ?_⟩
      refine (CallsIn.inRound l (callsIn_wide.2 HC.out)).mono ?_
      rintro e Wy ⟨rfl, hbel⟩
      gi_wp2
      refine ⟨keeps_below hbel, kb_below hbel (fun b hb => Nat.lt_of_lt_of_le hb HZ.out), Nat.le_trans HZ.out hbel.size, HMx.out.below hbel HMx.out.lt, Boxed.below' HR0.out hbel HR0.out.lt, HB.out.trans (hbel.mono HB.out.size), fun p hp => ?_⟩
      rcases List.mem_append.1 hp with h | h
      · exact Hp.out p h
      · obtain rfl : p = ⟨k, Hk.out⟩ := by simpa using h
        exact Hmay.out.1 Hd.out
    · rw [show dchk s n f xx = 8 from if_neg hd] at CC
      have HC := hid CC
      have Hd := hid hd
      clear CC hd
      gi_wp2_with fail
      refine ⟨trivial, ?_⟩
      refine (CallsIn.inRound l (callsIn_wide.2 HC.out)).mono ?_
      rintro e Wy ⟨rfl, hbel⟩
      have bRy := Boxed.below' HR0.out hbel HR0.out.lt
      have z0 := bRy.cell
      have z1 := bRy.frozen
      clear hx0 hx1
      gi_wp2
      refine ⟨(keeps_below hbel).trans ((KeepsOthers.setCell _ ⟨w.heap.size + 1, 0, none⟩ _).from _), fun hmay => Hd.out (Hmay.out.2 (hmay k Hk.out)), bRy.set _, (HB.out.trans (hbel.mono HB.out.size)).setCell (p := ⟨w.heap.size + 1, 0, none⟩) (Nat.le_succ _) _⟩
  case done =>
    rintro D ys Wx hD hys ⟨-, hM, hR0, hB, hp⟩ hK
    have c2 := hR0.cell
    have c3 := hR0.frozen
    have HYS := hid (show MMay M from fun k hk => by obtain ⟨p, hm, e⟩ := mem_fst hys hk; have := hp p hm; rw [e] at this; exact this)
    clear hp hys
    go_wp2
    have hK' := (KeepsOthers.setCell Wx ⟨w.heap.size + 1, 0, none⟩ (.int .i64 0)).same D _ hK rfl
    refine ⟨by simp, .inl ⟨_, _, rfl, run_takeDeferred hK', ?_⟩⟩
    have hc5 := cell_kept (hR0.set (.int .i64 0)).cell (grownBy_putObj' _ D (.deferred none)) (fun r e => by cases e; exact ⟨_, hK', rfl⟩)
    refine ⟨.int .i64 0, by simp [results, Tryz.f75, go_sem, hc5], 0, rfl, hid ⟨fun _ => HYS.out, fun _ => rfl⟩, hid (.inl rfl), hid ((hB.setCell (p := ⟨w.heap.size + 1, 0, none⟩) (Nat.le_succ _) _).trans (belowK_b (w := w) (Nat.le_refl _) _ D _ _ (by have := Hsz.out; have := Hs1.out; omega) hK' rfl rfl))⟩
  case stop =>
    rintro D pre Wx hD ⟨k, hk, hpre⟩ ⟨hN, hR0, hB⟩ hK
    have HN := hid hN
    clear hN hpre
    gi_wp2
    refine ⟨by simp, .inl ⟨_, _, rfl, run_takeDeferred hK, ?_⟩⟩
    have hc5 := cell_kept hR0.cell (grownBy_putObj' _ D (.deferred none)) (fun r e => by cases e; exact ⟨_, hK, rfl⟩)
    refine ⟨.int .i64 8, by simp [results, Tryz.f75, go_sem, hc5], 8, rfl, hid ⟨fun h => by omega, fun h => absurd h HN.out⟩, hid (.inr rfl), hid (hB.trans (belowK_b (w := w) (Nat.le_refl _) _ D _ _ (by have := Hsz.out; have := Hs1.out; omega) hK rfl rfl))⟩
open Go.RowKit Go.Shelf
instance (M : Nat → Dy) : Decidable (MMay M) := by unfold MMay; infer_instance
section
variable (g : Nat) (a0 a1 a2 a3 a4 a5 a6 a7 a8 a9 a10 a11 d0 d1 d2 d3 d4 d5 d6 d7 d8 d9 d10 d11 : Value) (b1 b2 : Bool) (w : World)
end
open Go.RowKit
def Says (w : World) (P : Prop) (e : Ending) (w' : World) : Prop := ∃ r, e = .returned (.bool r) ∧ Hid (r = true ↔ P) ∧ Hid (Below w.heap.size w w')
set_option maxHeartbeats 3200000 in
theorem dsame_raw {w : World} {A D : Option Addr} {n c k d : Nat} {f h : Nat → Nat} {s t : Bool} {x y : Int} {P : Prop} (ha : Rd w w.heap.size A n c f) (hb : Rd w w.heap.size D k d h) (HP : Hid (P ↔ (s = t ∧ x = y ∧ n = k ∧ ∀ j, f j = h j))) :
    Calls Tryz.prog 84 #[.agg #[.bool s, .slice A n c, .int .i64 x], .agg #[.bool t, .slice D k d, .int .i64 y]] w (Says w P) := by
  have B0 := hid (((Below.refl w.heap.size w).alloc (Nat.le_refl _) (.cells #[.bool s, .slice A n c, .int .i64 x] 24)).alloc (by simp) (.cells #[.bool t, .slice D k d, .int .i64 y] 24))
  have C1 := hid (same_any (ha.below B0.out) (hb.below B0.out))
  clear ha hb
  by_cases hst : s = t
  · subst hst
    by_cases hxy : x = y
    · subst hxy
      have HP2 : Hid (P ↔ (n = k ∧ ∀ j, f j = h j)) := ⟨fun p => (HP.out.1 p).2.2, fun q => HP.out.2 ⟨rfl, rfl, q⟩⟩
      clear HP
      go_enter Tryz.func84, Tryz.ntmps84
      go_wp2_with fail
      refine C1.out.mono ?_
      rintro e w1 ⟨r, rfl, hr, q, rfl⟩
      have Hr := hid hr
      clear hr
      go_wp2
      go_ret
      exact ⟨r, rfl, ⟨fun h => HP2.out.2 (Hr.out.1 h), fun h => Hr.out.2 (HP2.out.1 h)⟩, below_drewN B0.out q⟩
    · have hxy2 : (x == y) = false := by simp [hxy]
      have Hxy := hid hxy
      clear hxy C1
      go_enter Tryz.func84, Tryz.ntmps84
      go_wp2
      go_ret
      exact ⟨false, rfl, ⟨fun h => (by cases h), fun h => absurd (HP.out.1 h).2.1 Hxy.out⟩, B0.out⟩
  · have hst2 : (s == t) = false := by simp [hst]
    have Hst := hid hst
    clear hst C1
    go_enter Tryz.func84, Tryz.ntmps84
    go_wp2
    go_ret
    exact ⟨false, rfl, ⟨fun h => (by cases h), fun h => absurd (HP.out.1 h).1 Hst.out⟩, B0.out⟩
open Go.RowKit
def Good (w : World) (N : Int) (e : Ending) (w' : World) : Prop := ∃ s A n c x, e = .returned (.tuple #[.agg #[.bool s, .slice A n c, .int .i64 x], .int .i64 0]) ∧ Hid (DArg w' True N (.agg #[.bool s, .slice A n c, .int .i64 x])) ∧ Hid (Below w.heap.size w w')
def One (w : World) (N : Int) (e : Ending) (w' : World) : Prop := ∃ s A n c x, e = .returned (.agg #[.bool s, .slice A n c, .int .i64 x]) ∧ Hid (DArg w' True N (.agg #[.bool s, .slice A n c, .int .i64 x])) ∧ Hid (Below w.heap.size w w')
theorem e0 : tp (4000 - 0) = tp 3998 * 4 := by
  show tp (3998 + 1 + 1) = _
  rw [tp_succ, tp_succ, Nat.mul_assoc]
theorem e1 : tp (4000 - 1) = tp 3998 * 2 := by
  show tp (3998 + 1) = _
  rw [tp_succ]
theorem e2 : tp (4000 - 2) = tp 3998 := rfl
open Go.RowKit
set_option maxHeartbeats 800000 in
theorem dgreat_any (s : Bool) (A : Option Addr) (n c : Nat) (x : Int) (w : World) (_hm : n ≤ 140737488355328) :
    Calls Tryz.prog 44 #[.agg #[.bool s, .slice A n c, .int .i64 x]] w fun e w' => e = .returned (.bool (decide (42 < n ∨ 1100 < x))) ∧ Hid (Below w.heap.size w w') := by
  have B0 := hid ((Below.refl w.heap.size w).alloc (Nat.le_refl _) (.cells #[.bool s, .slice A n c, .int .i64 x] 24))
  by_cases h1 : 42 < n
  · rw [bool_of_dec (.inl h1)]
    go_enter Tryz.func44, Tryz.ntmps44
    go_wp2
    go_ret
    exact ⟨rfl, B0.out⟩
  · by_cases h2 : 1100 < x
    · rw [bool_of_dec (.inr h2)]
      go_enter Tryz.func44, Tryz.ntmps44
      go_wp2
      go_ret
      exact ⟨rfl, B0.out⟩
    · rw [bool_of_not (fun h => h.elim h1 h2)]
      go_enter Tryz.func44, Tryz.ntmps44
      go_wp2
      go_ret
      exact ⟨by simp <;> omega, B0.out⟩
open Go.RowKit
def plainOps (ops : Array Oper) : Bool := ops.all fun o => match o.op with | .defer _ => false | _ => true
theorem plainOps_at {ops : Array Oper} (h : plainOps ops = true) {i : Nat} {o : Oper} (ho : ops[i]? = some o) : ∀ c, o.op ≠ .defer c := by
  intro c e
  have hm := Array.all_eq_true_iff_forall_mem.1 h o (Array.mem_of_getElem? ho)
  rw [e] at hm
  cases hm
theorem oper_in {l n : Nat} {P : Program} {o : Oper} {a : Act} {w : World} {K : Act → World → Prop} {Q : Exit → Act → World → Prop} (hd : ∀ c, o.op ≠ .defer c) (h : o.wp P a w K Q) : o.wpIn (Fence.wide.inRound l) n P a w K Q := by
  refine ⟨fun _ _ => trivial, ?_⟩
  unfold Oper.wp at h
  rw [show (Fence.wide.inRound l).round = some l from rfl, Oper.semAt_some l a.eval o hd]
  generalize (execOp a.eval o).run P w = r at *
  cases r with
  | ok x w' =>
    cases x with
    | value v => exact h
    | skip => exact h
    | defer d => exact h
    | enter f args =>
      refine ⟨(fun h => by cases h), CallsIn.inRound l (callsIn_wide.2 (Calls.mono h fun e w'' he => ?_))⟩
      cases e <;> exact he
    | row row args => exact ⟨(fun h => by cases h), fun c cs _ => let ⟨v, w'', hr, hs⟩ := h c cs; ⟨v, w'', hr, stepsIn_wide.2 hs⟩⟩
    | _ => exact h.elim
  | halt x w' => cases x <;> exact h
theorem wpOp_in {l n : Nat} {P : Program} {ops : Array Oper} {Q : Exit → Act → World → Prop} {i : Nat} {K : Act → World → Prop} {a : Act} {w : World} (hd : plainOps ops = true) (hlo : ¬ LetsOut Q) (h : wpOp P ops Q i K a w) : wpOpIn (Fence.wide.inRound l) n P ops Q i K a w := by
  unfold wpOp at h
  unfold wpOpIn
  cases ho : ops[i]? with
  | none => simpa [ho] using h
  | some o =>
    simp only [ho] at h ⊢
    split
    · rename_i hw
      rw [if_pos hw] at h
      rcases h with h | ⟨_, h⟩
      · exact oper_in (plainOps_at hd ho) h
      · exact absurd h hlo
    · rename_i hw
      rw [if_neg hw] at h
      exact ⟨fun _ _ => trivial, h⟩
theorem wpAny_in {l n : Nat} {P : Program} {md : Region.Mode} {ops : Array Oper} {Q : Exit → Act → World → Prop} (hd : plainOps ops = true) (hlo : ¬ LetsOut Q) :
    ∀ (fuel : Nat) (listed : Array Bool) (a : Act) (w : World), wpAny P md ops Q fuel listed a w → wpAnyIn (Fence.wide.inRound l) n P md ops Q fuel listed a w
  | 0, _, _, _, h => h
  | fuel + 1, _, _, _, h => ⟨h.1, fun i hi => wpOp_in hd hlo (wpOp_mono (fun a' w' h' => wpAny_in hd hlo fuel _ a' w' h') (h.2 i hi))⟩
theorem region_held {l n id : Nat} {P : Program} {ops : Array Oper} {Q : Exit → Act → World → Prop} {S : World → Prop} {a : Act} {w : World} (hm : P.follows .mixedOrders = true) (hd : plainOps ops = true) (hlo : ¬ LetsOut Q) (hS : S w.drew)
    (h : S w.drew → wpAnyH P .any ops Q S ops.size (Array.replicate ops.size false) a w.drew) : (Code.region id ops true).wpIn (Fence.wide.inRound l) n P Q a w :=
  wpIn_region_any hm (wpAny_in hd hlo _ _ _ _ (wpAny_of_held _ _ _ _ (h hS)))
open Go.RowKit Go.Shelf
abbrev dyv (d : Dy) : Value := .agg #[.bool d.s, .slice d.A d.n d.c, .int .i64 d.x]
structure Dyr (w : World) (q : Prop) (M : Int) (d : Dy) : Prop where
  rd : Rd w w.heap.size d.A d.n d.c d.f
  may : q ↔ DMay d.s d.n d.f d.x
  val : q → ∃ X : Nat, d.x = (X : Int) ∧ M = dv d.s (vl d.f d.n) X
  nil : d.A = none → d.n = 0 ∧ d.c = 0
section
variable {w w' : World} {q : Prop} {M : Int} {d : Dy} {B : Nat}
structure Owd (B : Nat) (w : World) (M : Int) (d : Dy) : Prop where
  lim : Mk w 75 B d.A d.n d.c d.f
  may : DMay d.s d.n d.f d.x
  val : ∃ X : Nat, d.x = (X : Int) ∧ Canon d.s (vl d.f d.n) X ∧ X ≤ 1024 ∧ M = dv d.s (vl d.f d.n) X
theorem Mk.grown {e : TypeId} {A : Option Addr} {n c r : Nat} {f : Nat → Nat} (h : Mk w e B A n c f) (hg : w.grownBy w' (some r)) (hr : r < B) : Mk w' e B A n c f :=
  ⟨h.cap, h.max, h.lt, h.out, by
    rcases h.own with h0 | ⟨g, cs, hA, hB, hh, hs, hc⟩
    · exact .inl h0
    · exact .inr ⟨g, cs, hA, hB, (hg.block g (lt_of_heap hh) (by intro e; injection e with e; omega)).trans hh, hs, hc⟩⟩
theorem Mk.far_ {e : TypeId} {g n c : Nat} {A : Option Addr} {f : Nat → Nat} (h : Mk w e B A n c f) (hg : g < B) (j : Nat) (u : Value) : Mk (w.setCell ⟨g, j, none⟩ u) e B A n c f :=
  ⟨h.cap, h.max, h.lt, h.out, by
    rcases h.own with h0 | ⟨k, cs, hA, hk, hh, hs, hc⟩
    · exact .inl h0
    · exact .inr ⟨k, cs, hA, hk, (Below.heap_setCell w ⟨g, j, none⟩ u k (by show k ≠ g; omega)).trans hh, hs, hc⟩⟩
structure Twd (B : Nat) (w : World) (d r : Dy) : Prop where
  lim : Mk w 75 B r.A r.n r.c r.f
  s : r.s = d.s
  n : r.n = d.n
  x : r.x = d.x
  f : r.f = d.f
variable {r : Dy}
theorem Twd.below (h : Twd B w d r) (hb : Below w.heap.size w w') : Twd B w' d r := ⟨h.lim.below hb (Nat.le_refl _), h.s, h.n, h.x, h.f⟩
theorem Twd.mono {B' : Nat} (h : Twd B w d r) (hB : B' ≤ B) : Twd B' w d r := ⟨h.lim.mono hB, h.s, h.n, h.x, h.f⟩
theorem Twd.grown {k : Nat} (h : Twd B w d r) (hg : w.grownBy w' (some k)) (hr : k < B) : Twd B w' d r := ⟨h.lim.grown hg hr, h.s, h.n, h.x, h.f⟩
end
def All4 (q : Nat → Prop) : Prop := ∀ k, k < 4 → q k
def Mar (w : World) (q : Nat → Prop) (M : Nat → Int) (D : Nat → Dy) : Prop := ∀ k, k < 4 → Dyr w (q k) (M k) (D k)
def Mow (B : Nat) (w : World) (M : Nat → Int) (D : Nat → Dy) : Prop := ∀ k, k < 4 → Owd B w (M k) (D k)
section
variable {w w' : World} {q : Nat → Prop} {M : Nat → Int} {D : Nat → Dy} {B : Nat}
end
def D0 : Nat → Dy := fun _ => ⟨false, none, 0, 0, 0, fun _ => 0⟩
def Merr (M : Nat → Int) (er : Int) : Prop := (All4 (fun k => Okay (M k)) ∧ er = 0) ∨ (¬ All4 (fun k => Okay (M k)) ∧ er = 10)
def Merrs (p : Prop) (M : Nat → Int) (er : Int) : Prop := (p → Merr M er) ∧ (¬ p → er = 8)
def resM (er : Int) (M : Nat → Int) : Nat → Int := if er = 0 then M else fun _ => 0
def MRes (w : World) (E : Int → Prop) (M : Nat → Int) (e : Ending) (w' : World) : Prop := ∃ D er, e = .returned (.tuple #[.agg (mcells D), .int .i64 er]) ∧ Hid (E er) ∧ Hid (Mow w.heap.size w' (resM er M) D) ∧ Hid (Below w.heap.size w w')
theorem Mbox.frozen {w : World} {g : Nat} {M : Nat → Dy} (h : Mbox w g M) (j : Nat) : w.frozen? ⟨g, j, none⟩ = false := frozen_of_row w g j _ _ h
def updD (D : Nat → Dy) (k : Nat) (d : Dy) : Nat → Dy := fun j => if j = k then d else D j
theorem updD_same (D : Nat → Dy) (k : Nat) (d : Dy) : updD D k d k = d := if_pos rfl
theorem updD_ne (D : Nat → Dy) {k j : Nat} (d : Dy) (h : j ≠ k) : updD D k d j = D j := if_neg h
def mput (w : World) (g k : Nat) (d : Dy) : World := ((w.setCell ⟨g, 3 * k, none⟩ (.bool d.s)).setCell ⟨g, 3 * k + 1, none⟩ (.slice d.A d.n d.c)).setCell ⟨g, 3 * k + 2, none⟩ (.int .i64 d.x)
theorem Mbox.put {w : World} {g k : Nat} {D : Nat → Dy} (h : Mbox w g D) (hk : k < 4) (d : Dy) : Mbox (mput w g k d) g (updD D k d) := by
  have hc : k = 0 ∨ k = 1 ∨ k = 2 ∨ k = 3 := by omega
  rcases hc with rfl | rfl | rfl | rfl
  · exact heap_setCell_same _ g (3 * 0 + 2) _ _ (.int .i64 d.x) (heap_setCell_same _ g (3 * 0 + 1) _ _ (.slice d.A d.n d.c) (heap_setCell_same w g (3 * 0) _ _ (.bool d.s) h))
  · exact heap_setCell_same _ g (3 * 1 + 2) _ _ (.int .i64 d.x) (heap_setCell_same _ g (3 * 1 + 1) _ _ (.slice d.A d.n d.c) (heap_setCell_same w g (3 * 1) _ _ (.bool d.s) h))
  · exact heap_setCell_same _ g (3 * 2 + 2) _ _ (.int .i64 d.x) (heap_setCell_same _ g (3 * 2 + 1) _ _ (.slice d.A d.n d.c) (heap_setCell_same w g (3 * 2) _ _ (.bool d.s) h))
  · exact heap_setCell_same _ g (3 * 3 + 2) _ _ (.int .i64 d.x) (heap_setCell_same _ g (3 * 3 + 1) _ _ (.slice d.A d.n d.c) (heap_setCell_same w g (3 * 3) _ _ (.bool d.s) h))
theorem below_mput {B : Nat} {w w' : World} {g k : Nat} {d : Dy} (h : Below B w w') (hg : B ≤ g) : Below B w (mput w' g k d) :=
  ((h.setCell (p := ⟨g, 3 * k, none⟩) hg _).setCell (p := ⟨g, 3 * k + 1, none⟩) hg _).setCell (p := ⟨g, 3 * k + 2, none⟩) hg _
theorem Mbox.mput_far {w : World} {g h k : Nat} {d : Dy} {D : Nat → Dy} (hm : Mbox w h D) (hne : h ≠ g) : Mbox (mput w g k d) h D :=
  (Below.heap_setCell _ ⟨g, 3 * k + 2, none⟩ _ h hne).trans ((Below.heap_setCell _ ⟨g, 3 * k + 1, none⟩ _ h hne).trans ((Below.heap_setCell _ ⟨g, 3 * k, none⟩ _ h hne).trans hm))
theorem Mk.mput {w : World} {e : TypeId} {B g k n c : Nat} {A : Option Addr} {f : Nat → Nat} {d : Dy} (h : Mk w e B A n c f) (hg : g < B) : Mk (Proofs.YtbankbehfjogpaaGreat.mput w g k d) e B A n c f := ((h.far_ hg _ _).far_ hg _ _).far_ hg _ _
theorem Twd.mput {w : World} {B g k : Nat} {d e r : Dy} (h : Twd B w e r) (hg : g < B) : Twd B (Proofs.YtbankbehfjogpaaGreat.mput w g k d) e r := ⟨h.lim.mput hg, h.s, h.n, h.x, h.f⟩
def mstore (w : World) (g : Nat) (D : Nat → Dy) : World := w.setCells g 0 (mcells D).toList
theorem grown_setCells (g : Nat) : ∀ (vs : List Value) (o : Nat) (w : World), w.grownBy (w.setCells g o vs) (some g)
  | [], _, w => ⟨rfl, rfl, rfl, Nat.le_refl _, fun _ _ _ => rfl⟩
  | v :: vs, o, w => by
    rw [World.setCells]
    have h := grown_setCells g vs (o + 1) (w.setCell ⟨g, o, none⟩ v)
    refine ⟨h.os, h.tape, h.output, by simpa [World.setCell] using h.size, fun b hb hne => ?_⟩
    exact (h.block b (by simpa [World.setCell] using hb) hne).trans (Below.heap_setCell w ⟨g, o, none⟩ v b (by rintro rfl; exact hne rfl))
theorem grown_mstore (w : World) (g : Nat) (D : Nat → Dy) : w.grownBy (mstore w g D) (some g) := grown_setCells g _ 0 w
theorem heap_setCells (g : Nat) (t : TypeId) : ∀ (vs : List Value) (o : Nat) (w : World) (cs : Array Value), w.heap[g]? = some (.cells cs t (0, 0)) →
    ∃ cs' : Array Value, (w.setCells g o vs).heap[g]? = some (.cells cs' t (0, 0)) ∧ cs'.size = cs.size ∧ ∀ j, j < cs.size → cs'[j]? = if o ≤ j ∧ j < o + vs.length then vs[j - o]? else cs[j]?
  | [], o, w, cs, h => ⟨cs, h, rfl, fun j _ => by rw [if_neg (by simp <;> omega)]⟩
  | v :: vs, o, w, cs, h => by
    rw [World.setCells]
    obtain ⟨cs', h1, h2, h3⟩ := heap_setCells g t vs (o + 1) (w.setCell ⟨g, o, none⟩ v) _ (heap_setCell_same w g o cs t v h)
    refine ⟨cs', h1, by rw [h2, Array.size_setIfInBounds], fun j hj => ?_⟩
    rw [h3 j (by rw [Array.size_setIfInBounds]; exact hj), List.length_cons]
    by_cases h4 : o + 1 ≤ j ∧ j < o + 1 + vs.length
    · rw [if_pos h4, if_pos (by omega), show j - o = (j - (o + 1)) + 1 by omega, List.getElem?_cons_succ]
    · rw [if_neg h4, Array.getElem?_setIfInBounds]
      by_cases h5 : o = j
      · subst h5
        rw [if_pos rfl, if_pos hj, if_pos (by omega), Nat.sub_self, List.getElem?_cons_zero]
      · rw [if_neg h5, if_neg (by omega)]
theorem Mbox.store {w : World} {g : Nat} {D : Nat → Dy} (h : Mbox w g D) (E : Nat → Dy) : Mbox (mstore w g E) g E := by
  obtain ⟨cs', h1, h2, h3⟩ := heap_setCells g _ (mcells E).toList 0 w _ h
  have e : cs' = mcells E := by
    apply Array.ext_getElem?
    intro j
    have h12 : (mcells D).size = 12 := rfl
    by_cases hj : j < 12
    · rw [h3 j (by omega), if_pos ⟨Nat.zero_le _, by show j < 0 + 12; omega⟩, Nat.sub_zero, Array.getElem?_toList]
    · rw [Array.getElem?_eq_none (by omega), Array.getElem?_eq_none (by show 12 ≤ j; omega)]
  rw [e] at h1
  exact h1
theorem Mbox.there {w : World} {g : Nat} {D : Nat → Dy} (h : Mbox w g D) (E : Nat → Dy) : w.there g 0 (mcells E).size := fun j hj => by
  rw [Nat.zero_add]
  refine ⟨?_, h.frozen j⟩
  rw [cell_of_row w g j _ _ (0, 0) h]
  have : j < 12 := hj
  simp [this]
theorem mcells_one (E : Nat → Dy) : (mcells E).all (·.oneCell') = true := all_oneCell_toArray (cs := (mcells E).toList) (by intro v hv; simp at hv; rcases hv with rfl | rfl | rfl | rfl | rfl | rfl | rfl | rfl | rfl | rfl | rfl | rfl <;> rfl)
theorem keeps_mput {B g k : Nat} {w w' : World} {d : Dy} (h : KeepsFrom B w w') : KeepsFrom B w (mput w' g k d) := h.trans ((((KeepsOthers.setCell _ _ _).trans (KeepsOthers.setCell _ _ _)).trans (KeepsOthers.setCell _ _ _)).from _)
theorem Kb.mput {K : Nat → Prop} {A W : World} {g k : Nat} {d : Dy} (h : Kb K A W) (hl : ¬ K g) : Kb K A (Proofs.YtbankbehfjogpaaGreat.mput W g k d) :=
  ((h.setCell (p := ⟨g, 3 * k, none⟩) hl _).setCell (p := ⟨g, 3 * k + 1, none⟩) hl _).setCell (p := ⟨g, 3 * k + 2, none⟩) hl _
theorem mass_size : (Tryz.prog.info? 26).map (·.size) = some 12 := by kernel_rfl
theorem mass_size_ (E : Nat → Dy) : (Tryz.prog.info? 26).map (·.size) = some (mcells E).size := mass_size
theorem wp_mload {ops : Array Oper} {rest : List Oper} {o : Oper} {a : Act} {w : World} {Q : Exit → Act → World → Prop} (hgd : o.guard = none) (x : Operand) (ho : o.op = .load 26 x)
    (g : Nat) (D : Nat → Dy) (hx : a.eval x = .pointer (some ⟨g, 0, none⟩)) (hg : Mbox w g D) (h : wpList Tryz.prog ops Q rest (a.put o.dst (.agg (mcells D))) w) : wpList Tryz.prog ops Q (o :: rest) a w :=
  wpList_load_row hgd _ x ho g hx _ _ _ _ hg Tryz.underlying26 rfl (mass_size_ D) h
theorem wp_mstore {ops : Array Oper} {rest : List Oper} {o : Oper} {a : Act} {w : World} {Q : Exit → Act → World → Prop} (hgd : o.guard = none) (x y : Operand) (ho : o.op = .store 26 x y)
    (g : Nat) (D E : Nat → Dy) (hx : a.eval x = .pointer (some ⟨g, 0, none⟩)) (hy : a.eval y = .agg (mcells E)) (hg : Mbox w g D) (h : wpList Tryz.prog ops Q rest (a.put o.dst undef) (mstore w g E)) : wpList Tryz.prog ops Q (o :: rest) a w :=
  wpList_store_mid hgd _ x y ho g 0 (mcells E) hx hy (hg.there E) (mass_size_ E) (mcells_one E) h
theorem mass_cell {fn : Func} {p : Tmp} (h : fn.results = #[.cell p 26]) (tmps : Array Value) (w : World) (g : Nat) (D : Nat → Dy) (hp : tmps.getD p undef = .pointer (some ⟨g, 0, none⟩)) (hg : Mbox w g D) :
    (results fn tmps).run Tryz.prog w = .ok (.agg (mcells D)) w := results_cell_row h tmps w g _ _ _ _ hp hg Tryz.underlying26 rfl mass_size
theorem results_cc {fn : Func} {p q : Tmp} {ty tz : TypeId} (h : fn.results = #[.cell p ty, .cell q tz]) (tmps : Array Value) (P : Program) (w : World) :
    (results fn tmps).run P w =
      ((asAddr (tmps.getD p undef)).run P w).andThen fun a w₁ => ((loadVar ty a).run P w₁).andThen fun x w₂ => ((asAddr (tmps.getD q undef)).run P w₂).andThen fun b w₃ => ((loadVar tz b).run P w₃).andThen fun y w₄ => .ok (.tuple #[x, y]) w₄ := by
  simp only [results, h]
  simp [Sem.run_bind, Result.andThen]
theorem load_errno {w : World} {k : Nat} {er : Int} (hk : Boxed w k 35 (.int .i64 er)) : (loadVar 35 ⟨k, 0, none⟩).run Tryz.prog w = .ok (.int .i64 er) w := by
  have hc := hk.cell
  simp [go_sem, hc]
theorem mass_cells {fn : Func} {p u : Tmp} (h : fn.results = #[.cell p 26, .cell u 35]) (tmps : Array Value) (w : World) (g k : Nat) (D : Nat → Dy) (er : Int) (hp : tmps.getD p undef = .pointer (some ⟨g, 0, none⟩)) (hu : tmps.getD u undef = .pointer (some ⟨k, 0, none⟩)) (hg : Mbox w g D) (hk : Boxed w k 35 (.int .i64 er)) :
    (results fn tmps).run Tryz.prog w = .ok (.tuple #[.agg (mcells D), .int .i64 er]) w := by
  have e1 := run_loadVar_row w g _ 26 _ _ _ hg Tryz.underlying26 rfl mass_size
  have e2 := load_errno hk
  rw [results_cc h, hp, hu]
  simp only [asAddr, Result.andThen, Sem.run_pure, e1, e2]
open Go.RowKit
def tw (k : Nat) : Nat := 2 ^ k
def bt (V j : Nat) : Nat := V / tw j % 2
structure Bits (w : World) (B : Nat) (A : Option Addr) (n c V : Nat) : Prop where
  cap : n ≤ c
  max : n ≤ 140737488355328
  nil : A = none → c = 0
  lt : V < tw n
  at_ : 0 < n → ∃ b off, A = some ⟨b, off, none⟩ ∧ b < B ∧ ∀ j, j < n → w.cell? ⟨b, off + j, none⟩ = some (.int .u8 (bt V j : Int))
def Bt (w : World) (B V : Nat) (v : Value) : Prop := ∃ A n c, v = .slice A n c ∧ Bits w B A n c V ∧ (0 < n → tw (n - 1) ≤ V)
open Go.RowKit
def dg (V n : Nat) : List Value := (List.range n).map fun j => Value.int .u8 (bt V j : Int)
def Row (w : World) (B V n : Nat) (v : Value) : Prop := w.ownsRow B 5 1 v n (dg V n)
open Go.RowKit
def lb (V j : Nat) : Nat := V / pw j % 4294967296
def lg (V n : Nat) : List Value := (List.range n).map fun j => Value.int .u32 (lb V j : Int)
def Lrow (w : World) (B V n : Nat) (v : Value) : Prop := w.ownsRow B 75 1 v n (lg V n)
def Lm (w : World) (B V : Nat) (v : Value) : Prop := ∃ A k c h, v = .slice A k c ∧ Rd w B A k c h ∧ (0 < k → h (k - 1) ≠ 0) ∧ vl h k = V
open Go.RowKit
set_option maxHeartbeats 800000 in
theorem rsame_len (A D : Option Addr) (n c m d : Nat) (w : World) (hnm : ((n : Int) != (m : Int)) = true) (_h1 : n ≤ 140737488355328) (_h2 : m ≤ 140737488355328) :
    Calls Tryz.prog 107 #[.slice A n c, .slice D m d] w fun e w' => e = .returned (.bool false) ∧ w = w' := by
  go_enter Tryz.func107, Tryz.ntmps107
  go_wp2
  go_ret
  exact ⟨rfl, rfl⟩
set_option maxHeartbeats 800000 in
theorem rsame_nil (A D : Option Addr) (c d : Nat) (w : World) :
    Calls Tryz.prog 107 #[.slice A 0 c, .slice D 0 d] w fun e w' => e = .returned (.bool true) ∧ w = w' := by
  go_enter Tryz.func107, Tryz.ntmps107
  go_wp2
  refine wp_loop_rounds 1 ?_
  rw [rounds_succ]
  go_wp2
  go_ret
  exact ⟨rfl, rfl⟩
set_option maxHeartbeats 800000 in
theorem rsame_cells (b o b2 o2 n c d : Nat) (f g : Nat → Nat) (w : World) (_hc : n ≤ c) (_hm : n ≤ 140737488355328) (_hd : n ≤ d)
    (h1 : ∀ j, j < n → w.cell? ⟨b, o + j, none⟩ = some (.int .u32 (f j : Int))) (h2 : ∀ j, j < n → w.cell? ⟨b2, o2 + j, none⟩ = some (.int .u32 (g j : Int))) :
    Calls Tryz.prog 107 #[.slice (some ⟨b, o, none⟩) n c, .slice (some ⟨b2, o2, none⟩) n d] w (Tells w (∀ j, j < n → f j = g j)) := by
  go_enter Tryz.func107, Tryz.ntmps107
  go_wp2
  go_loopw [5] (fun i wr => ∃ k : Nat, k ≤ n ∧ i = .int .i64 k ∧ (∀ j, j < k → f j = g j) ∧ ∃ q, w.drewN q = wr) (fun i _ => n - (intOf i).toNat)
  case atStart => exact ⟨0, Nat.zero_le _, rfl, fun j h => by omega, 0, rfl⟩
  case round =>
    obtain ⟨k, hk, rfl, heq, q, rfl⟩ := hrel
    by_cases hkn : k < n
    · have c1 := h1 k hkn
      have c2 := h2 k hkn
      have i1 : (k : Int) < (n : Int) := by omega
      have Heq := hid heq
      clear heq h1 h2
      by_cases hfg : f k = g k
      · have hb : (((f k : Nat) : Int) != ((g k : Nat) : Int)) = false := by simp; omega
        have Hfg := hid hfg
        clear hfg
        go_wp2
        go_quiet (fail)
        go_wp2
        go_roundw
        case rel => exact ⟨k + 1, by omega, by go_num, fun j hj => by
          rcases Nat.lt_or_ge j k with h | h
          · exact Heq.out j h
          · obtain rfl : j = k := by omega
            exact Hfg.out, _, rfl⟩
        case measure => simp [intOf]; omega
      · have hb : (((f k : Nat) : Int) != ((g k : Nat) : Int)) = true := by simp; omega
        have Hfg := hid hfg
        clear hfg
        go_wp2
        go_quiet (fail)
        go_wp2
        go_ret
        exact ⟨_, rfl, ⟨(fun h => by cases h), (fun h => absurd (h k hkn) Hfg.out)⟩, _, drewN2 _ _ _⟩
    · obtain rfl : k = n := by omega
      have Heq := hid heq
      clear heq h1 h2
      go_wp2
      go_ret
      exact ⟨_, rfl, ⟨fun _ => Heq.out, fun _ => rfl⟩, _, rfl⟩
theorem rsame_any {B C : Nat} {A D : Option Addr} {n c m d : Nat} {f h : Nat → Nat} {w : World} (ha : Rd w B A n c f) (hb : Rd w C D m d h) :
    Calls Tryz.prog 107 #[.slice A n c, .slice D m d] w (Tells w (n = m ∧ ∀ j, f j = h j)) := by
  by_cases hnm : n = m
  · subst hnm
    rcases Nat.eq_zero_or_pos n with h0 | h0
    · subst h0
      refine (rsame_nil A D c d w).mono ?_
      rintro e w' ⟨rfl, rfl⟩
      exact ⟨true, rfl, ⟨fun _ => ⟨rfl, fun j => by rw [ha.out j (by omega), hb.out j (by omega)]⟩, fun _ => rfl⟩, 0, rfl⟩
    · obtain ⟨b, o, rfl, _, h1⟩ := ha.at_ h0
      obtain ⟨b2, o2, rfl, _, h2⟩ := hb.at_ h0
      refine (rsame_cells b o b2 o2 n c d f h w ha.cap ha.max hb.cap h1 h2).mono ?_
      intro e w' ht
      refine ht.of ⟨fun hh => ⟨rfl, fun j => ?_⟩, fun hh j _ => hh.2 j⟩
      rcases Nat.lt_or_ge j n with hlt | hge
      · exact hh j hlt
      · rw [ha.out j hge, hb.out j hge]
  · refine (rsame_len A D n c m d w (by simp; omega) ha.max hb.max).mono ?_
    rintro e w' ⟨rfl, rfl⟩
    exact ⟨false, rfl, ⟨(fun h => by cases h), (fun h => absurd h.1 hnm)⟩, 0, rfl⟩
set_option maxHeartbeats 400000 in
theorem may_long (A : Option Addr) (n c : Nat) (w : World) (hn : 40 < n) (_hc : n ≤ c) (_hm : n ≤ 140737488355328) :
    Calls Tryz.prog 112 #[.slice A n c] w fun e w' => e = .returned (.bool false) ∧ w = w' := by
  go_enter Tryz.func112, Tryz.ntmps112
  go_wp2
  go_ret
  exact ⟨rfl, rfl⟩
set_option maxHeartbeats 400000 in
theorem may_nil (A : Option Addr) (c : Nat) (w : World) :
    Calls Tryz.prog 112 #[.slice A 0 c] w fun e w' => e = .returned (.bool true) ∧ w = w' := by
  go_enter Tryz.func112, Tryz.ntmps112
  go_wp2
  go_ret
  exact ⟨rfl, rfl⟩
set_option maxHeartbeats 400000 in
theorem may_last (b off n c x : Nat) (r : Bool) (w : World) (h0 : 0 < n) (hn : n ≤ 40) (_hc : n ≤ c) (hx : w.cell? ⟨b, off + (n - 1), none⟩ = some (.int .u32 (x : Int))) (h1 : (((x : Nat) : Int) != 0) = r) :
    Calls Tryz.prog 112 #[.slice (some ⟨b, off, none⟩) n c] w fun e w' => e = .returned (.bool r) ∧ w = w' := by
  have hne : ((n : Int) == 0) = false := by simp; omega
  cases r
  · go_enter Tryz.func112, Tryz.ntmps112
    go_wp2
    go_ret
    exact ⟨rfl, rfl⟩
  · go_enter Tryz.func112, Tryz.ntmps112
    go_wp2
    go_ret
    exact ⟨rfl, rfl⟩
theorem May_any {B : Nat} {A : Option Addr} {n c : Nat} {f : Nat → Nat} {w : World} (h : Rd w B A n c f) :
    Calls Tryz.prog 112 #[.slice A n c] w fun e w' => e = .returned (.bool (decide (Fit n f))) ∧ w = w' := by
  by_cases h1 : n ≤ 40
  · rcases Nat.eq_zero_or_pos n with h0 | h0
    · subst h0
      rw [show decide (Fit 0 f) = true by simp [Fit]]
      exact may_nil A c w
    · obtain ⟨b, off, rfl, _, hc⟩ := h.at_ h0
      refine may_last b off n c _ _ w h0 h1 h.cap (hc (n - 1) (by omega)) ?_
      by_cases hz : f (n - 1) = 0
      · rw [show decide (Fit n f) = false from decide_eq_false (fun h => h.2 h0 hz)]
        simp [hz]
      · rw [show decide (Fit n f) = true by simp [Fit, hz, h1]]
        simp; omega
  · rw [show decide (Fit n f) = false from decide_eq_false (fun h => h1 h.1)]
    exact may_long A n c w (by omega) h.cap h.max
open Go.RowKit
open Go.RowKit
theorem wpList_append_src {P : Program} {ops : Array Oper} {rest : List Oper} {o : Oper} {a : Act} {Q : Exit → Act → World → Prop} (hgd : o.guard = none) (s x : Operand) (t : TypeId)
    (ho : o.op = .call { callee := .builtin .append, args := #[s, x], argTypes := #[t, t] }) (e : TypeId) (z : Value) (bytes : Nat) (ht : P.underlying t = some (.slice e))
    (hi : (P.info? e).map (fun i => (i.zero, i.size, i.bytes)) = some (some z, 1, bytes)) (hz : z.cells.size = 1) (hby : bytes ≤ 8)
    {w : World} {B n m c : Nat} {v : Value} {xs news : List Value} {A : Option Addr} (hs : a.eval s = v) (hx : a.eval x = .slice A m c) (hown : w.ownsRow B e 1 v n xs) (hB : B ≤ w.heap.size)
    (hl : news.length = m) (hnil : A = none → m = 0 ∧ c = 0) (hcells : ∀ p, A = some p → ∀ j u, news[j]? = some u → w.cell? (p.add j) = some u) (hu : ∀ u ∈ news, u.oneCell' = true) (hn : n + m ≤ 17592186044416)
    (h : ∀ v' w', Hid (w'.ownsRow B e 1 v' (n + m) (xs ++ news)) → Hid (Below B w w') → wpList P ops Q rest (a.put o.dst v') w') : wpList P ops Q (o :: rest) a w := by
  obtain ⟨i0, hi, hz0, hz1, hz2⟩ := info_one hi
  cases A with
  | none =>
    obtain ⟨rfl, rfl⟩ := hnil rfl
    obtain rfl : news = [] := List.length_eq_zero_iff.1 hl
    refine wpList_append_own_none hgd s x t ho B e i0 1 ht hi v n xs hs hown hx ?_
    have hh := h v w
    rw [List.append_nil, Nat.add_zero] at hh
    exact hh hown (Below.refl _ _)
  | some p =>
    refine wpList_append_own _ hgd s x t ho B e i0 z 1 bytes ht hi hz0 hz1 hz2 hz (by decide) v n xs hs hown p m c news hx (by omega) (hcells p rfl) hu ?_ ?_ hB ?_
    · unfold maxLen
      omega
    · have : (n + m) * bytes ≤ (n + m) * 8 := Nat.mul_le_mul_left _ hby
      omega
    · intro v' w' hown' hgr _
      refine h v' w' hown' ((Below.refl _ _).grown hgr hB ?_)
      intro k hk
      rcases hown with ⟨_, ⟨rfl, _⟩ | ⟨g, cap, cur, rfl, hg, _⟩⟩
      · cases hk
      · injection hk with hk
        subst hk
        exact hg
theorem wpList_append_copy {P : Program} {ops : Array Oper} {rest : List Oper} {o : Oper} {a : Act} {Q : Exit → Act → World → Prop} (hgd : o.guard = none) (s x : Operand) (t : TypeId)
    (ho : o.op = .call { callee := .builtin .append, args := #[s, x], argTypes := #[t, t] }) (e : TypeId) (z : Value) (bytes : Nat) (ht : P.underlying t = some (.slice e))
    (hi : (P.info? e).map (fun i => (i.zero, i.size, i.bytes)) = some (some z, 1, bytes)) (hz : z.cells.size = 1) (hby : bytes ≤ 8)
    {w : World} {m c : Nat} {news : List Value} {A : Option Addr} (hs : a.eval s = .slice (some ⟨w.heap.size, 0, none⟩) 0 0) (hx : a.eval x = .slice A m c)
    (hl : news.length = m) (hnil : A = none → m = 0 ∧ c = 0) (hcells : ∀ p, A = some p → ∀ j u, news[j]? = some u → w.cell? (p.add j) = some u) (hu : ∀ u ∈ news, u.oneCell' = true) (hn : m ≤ 17592186044416)
    (h : ∀ v' w', Hid (w'.ownsRow w.heap.size e 1 v' m news) → Hid (Below w.heap.size w w') → wpList P ops Q rest (a.put o.dst v') w') : wpList P ops Q (o :: rest) a (w.alloc (.cells #[] e)) := by
  have bel : Below w.heap.size w (w.alloc (.cells #[] e)) := (Below.refl _ w).alloc (Nat.le_refl _) _
  refine wpList_append_src hgd s x t ho e z bytes ht hi hz hby (B := w.heap.size) (n := 0) (xs := []) hs hx ⟨rfl, .inr ⟨w.heap.size, 0, #[], rfl, Nat.le_refl _, heap_alloc_new w _, Nat.le_refl _, by unfold maxLen; omega, rfl, rfl⟩⟩ (by simp) hl hnil ?_ hu (by omega) ?_
  · intro p hp j u hj
    have hc := hcells p hp j u hj
    have hb : (p.add j).block < w.heap.size := block_lt_of_cell hc
    exact (bel.cell hb).trans hc
  · intro v' w' hown' hbel'
    rw [Nat.zero_add, List.nil_append] at hown'
    exact h v' w' hown' (bel.trans hbel'.out)
theorem cells_of_rd {w : World} {B n c : Nat} {A : Option Addr} {f : Nat → Nat} (h : Rd w B A n c f) : ∀ p, A = some p → ∀ (j : Nat) (u : Value), ((List.range n).map fun j => Value.int .u32 (f j : Int))[j]? = some u → w.cell? (p.add j) = some u := by
  intro p hp j u hj
  have hjn : j < n := by
    rcases Nat.lt_or_ge j n with h | h
    · exact h
    · rw [List.getElem?_eq_none (by simpa using h)] at hj; cases hj
  obtain ⟨b, off, rfl, _, hc⟩ := h.at_ (by omega)
  injection hp with hp
  subst hp
  simp [hjn] at hj
  subst hj
  have : (⟨b, off, none⟩ : Addr).add j = ⟨b, off + j, none⟩ := by unfold Addr.add; simp
  rw [this]
  exact hc j hjn
end Go.Proofs.YtbankbehfjogpaaGreat
