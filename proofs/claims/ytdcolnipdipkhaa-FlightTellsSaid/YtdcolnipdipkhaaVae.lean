/- Dyads: words for their boxes, for what is handed in, and for what is answered. -/
/- Package mass: Check. -/
import Derived.Test.YtdcolnipdipkhaaVab
import Derived.Test.YtdcolnipdipkhaaVad
import Derived.Laws.ResultCell
import Derived.Laws.Rows

namespace Go.Proofs.Ytdcolnipdipkhaa
open Go.RowKit

theorem bool_of_dec {p : Prop} [Decidable p] (h : p) : decide p = true := by simp [h]
theorem bool_of_not {p : Prop} [Decidable p] (h : ¬ p) : decide p = false := by simp [h]

theorem heap3_0 (w : World) (a b c : Obj) : (((w.alloc a).alloc b).alloc c).heap[w.heap.size]? = some a :=
  (Below.heap_alloc _ c _ (by simp; omega)).trans ((Below.heap_alloc _ b _ (by simp)).trans (heap_alloc_new w a))
theorem heap3_1 (w : World) (a b c : Obj) : (((w.alloc a).alloc b).alloc c).heap[w.heap.size + 1]? = some b :=
  (Below.heap_alloc _ c _ (by simp)).trans (heap_alloc2_new w a b)
theorem heap3_2 (w : World) (a b c : Obj) : (((w.alloc a).alloc b).alloc c).heap[w.heap.size + 2]? = some c := by
  have h := heap_alloc_new ((w.alloc a).alloc b) c
  have e : ((w.alloc a).alloc b).heap.size = w.heap.size + 2 := by simp
  rwa [e] at h

section
variable (w : World) (a b c d : Obj)
theorem heap4_0 : ((((w.alloc a).alloc b).alloc c).alloc d).heap[w.heap.size]? = some a := (Below.heap_alloc _ d _ (by simp; omega)).trans (heap3_0 w a b c)
theorem heap4_1 : ((((w.alloc a).alloc b).alloc c).alloc d).heap[w.heap.size + 1]? = some b := (Below.heap_alloc _ d _ (by simp <;> omega)).trans (heap3_1 w a b c)
theorem heap4_2 : ((((w.alloc a).alloc b).alloc c).alloc d).heap[w.heap.size + 2]? = some c := (Below.heap_alloc _ d _ (by simp)).trans (heap3_2 w a b c)
theorem heap4_3 : ((((w.alloc a).alloc b).alloc c).alloc d).heap[w.heap.size + 3]? = some d := by
  have h := heap_alloc_new (((w.alloc a).alloc b).alloc c) d
  have e : (((w.alloc a).alloc b).alloc c).heap.size = w.heap.size + 3 := by simp
  rwa [e] at h
theorem below4 : Below w.heap.size w ((((w.alloc a).alloc b).alloc c).alloc d) :=
  ((((Below.refl w.heap.size w).alloc (Nat.le_refl _) a).alloc (by simp) b).alloc (by simp <;> omega) c).alloc (by simp <;> omega) d
end

/-- Block g is a dyad's. -/
def Dbox (w : World) (g : Nat) (s : Bool) (v : Value) (x : Int) : Prop := w.heap[g]? = some (.cells #[.bool s, v, .int .i64 x] 25 (0, 0))
section
variable {w w' : World} {g : Nat} {s : Bool} {v : Value} {x : Int}
theorem Dbox.lt (h : Dbox w g s v x) : g < w.heap.size := lt_of_heap h
theorem Dbox.c0 (h : Dbox w g s v x) : w.cell? ⟨g, 0, none⟩ = some (.bool s) := by rw [cell_of_row w g 0 _ _ (0, 0) h]; rfl
theorem Dbox.c1 (h : Dbox w g s v x) : w.cell? ⟨g, 1, none⟩ = some v := by rw [cell_of_row w g 1 _ _ (0, 0) h]; rfl
theorem Dbox.c2 (h : Dbox w g s v x) : w.cell? ⟨g, 2, none⟩ = some (.int .i64 x) := by rw [cell_of_row w g 2 _ _ (0, 0) h]; rfl
theorem Dbox.frozen (h : Dbox w g s v x) (j : Nat) : w.frozen? ⟨g, j, none⟩ = false := frozen_of_row w g j _ _ h
theorem Dbox.below {B : Nat} (h : Dbox w g s v x) (hb : Below B w w') (hg : g < B) : Dbox w' g s v x := (hb.block g hg).trans h
theorem Dbox.grown {k : Nat} (h : Dbox w g s v x) (hb : w.grownBy w' (some k)) (hg : g ≠ k) : Dbox w' g s v x := (hb.block g h.lt (by intro e; injection e with e; exact hg e)).trans h
end

/-- d is a dyad that may be, of the call's own, and M of it. -/
def Dn (B : Nat) (w : World) (M : Int) (d : Value) : Prop := ∃ s v x V, d = .agg #[.bool s, v, .int .i64 ((x : Nat) : Int)] ∧ Num 70 B w V v ∧ Canon s V x ∧ x ≤ 1024 ∧ dv s V x = M
/-- What is told beside an error. -/
def resD (er : Int) (M : Int) : Int := if er = 0 then M else 0
theorem resD_ok {er M : Int} (h : er = 0) : resD er M = M := if_pos h
theorem resD_bad {er M : Int} (h : er ≠ 0) : resD er M = 0 := if_neg h
/-- What a call hands back that answers a dyad and an error. -/
def DRes (w : World) (E : Int → Prop) (M : Int) (e : Ending) (w' : World) : Prop := ∃ d er, e = .returned (.tuple #[d, .int .i64 er]) ∧ Hid (E er) ∧ Hid (Dn w.heap.size w' (resD er M) d) ∧ Hid (Below w.heap.size w w')
theorem Dn.zero (B : Nat) (w : World) : Dn B w 0 (.agg #[.bool false, .slice none 0 0, .int .i64 0]) :=
  ⟨false, _, 0, 0, rfl, Num.zero _ _ _, ⟨fun _ => ⟨rfl, rfl⟩, fun h => absurd h (by omega)⟩, by omega, by simp [dv, num]⟩

theorem Val.len0 {w : World} {V n c : Nat} {A : Option Addr} (h : Val w V (.slice A n c)) : (n = 0 ↔ V = 0) := by
  obtain ⟨A', n', c', f, hv, hr, hf, rfl⟩ := h
  injection hv with _ hn _
  subst hn
  constructor
  · rintro rfl; rfl
  · intro hV
    rcases Nat.eq_zero_or_pos n with h0 | h0
    · exact h0
    · have a := vl_ge (f := f) h0 (hf.2 h0)
      have b := pw_pos (n - 1)
      omega
theorem Val.len {w : World} {V n c : Nat} {A : Option Addr} (h : Val w V (.slice A n c)) : n ≤ 40 ∧ n ≤ c := by
  obtain ⟨A', n', c', f, hv, hr, hf, rfl⟩ := h
  injection hv with _ hn hc
  subst hn hc
  exact ⟨hf.1, hr.cap⟩

/-- The world behind a dyad that is stored into its box. -/
def put3 (w : World) (g : Nat) (s : Bool) (v : Value) (x : Int) : World := ((w.setCell ⟨g, 0, none⟩ (.bool s)).setCell ⟨g, 1, none⟩ v).setCell ⟨g, 2, none⟩ (.int .i64 x)
theorem Dbox.store {w : World} {g : Nat} {s t : Bool} {v u : Value} {x y : Int} (h : Dbox w g s v x) : Dbox (put3 w g t u y) g t u y := by
  have h0 := heap_setCell_same w g 0 _ _ (.bool t) h
  have h1 := heap_setCell_same _ g 1 _ _ u h0
  exact heap_setCell_same _ g 2 _ _ (.int .i64 y) h1
theorem below_put3 {B : Nat} {w w' : World} {g : Nat} {s : Bool} {v : Value} {x : Int} (h : Below B w w') (hg : B ≤ g) : Below B w (put3 w' g s v x) :=
  ((h.setCell (p := ⟨g, 0, none⟩) hg _).setCell (p := ⟨g, 1, none⟩) hg _).setCell (p := ⟨g, 2, none⟩) hg _
theorem Num.put3 {t : TypeId} {B V g : Nat} {w : World} {v u : Value} {s : Bool} {x : Int} (h : Num t B w V v) (hg : g < B) : Num t B (put3 w g s u x) V v := ((h.set hg 0 _).set hg 1 _).set hg 2 _

theorem cells_agg_tmp {P : Program} {fn : Func} {p u : Tmp} {ty : TypeId} (h : fn.results = #[.cell p ty, .tmp u]) (tmps : Array Value) (w : World) (g : Nat) (t : TypeId) (cs : Array Value) (fr : Nat × Nat) (d : TypeDesc)
    (hp : tmps.getD p undef = .pointer (some ⟨g, 0, none⟩)) (hg : w.heap[g]? = some (.cells cs t fr))
    (hu : P.underlying ty = some d) (hd : (match d with | .struct _ | .array _ _ => true | _ => false) = true) (hi : (P.info? ty).map (·.size) = some cs.size) :
    (results fn tmps).run P w = .ok (.tuple #[.agg cs, tmps.getD u undef]) w := by
  rw [results_cell_tmp h, hp]
  simp [asAddr, Result.andThen, run_loadVar_row w g t ty cs fr d hg hu hd hi]
theorem dyad_size : (Try.prog.info? 25).map (·.size) = some 3 := by kernel_rfl
theorem ret_dyad {fn : Func} {R : Ending → World → Prop} {a : Act} {w : World} {p u : Tmp} {g : Nat} {s : Bool} {v er : Value} {x : Int} (h : fn.results = #[.cell p 25, .tmp u]) (hp : a.tmps.getD p undef = .pointer (some ⟨g, 0, none⟩)) (hu : a.tmps.getD u undef = er)
    (hd : a.defers = []) (hg : Dbox w g s v x) (hR : R (.returned (.tuple #[.agg #[.bool s, v, .int .i64 x], er])) w) : bodyPost Try.prog fn R .ret a w := by
  refine bodyPost_ret ?_ hd hR
  rw [← hu]
  exact cells_agg_tmp h a.tmps w g _ _ _ _ hp hg Try.underlying25 rfl dyad_size
theorem Dbox.alloc {w : World} {g : Nat} {s : Bool} {v : Value} {x : Int} (h : Dbox w g s v x) (o : Obj) : Dbox (w.alloc o) g s v x := (Below.heap_alloc w o g h.lt).trans h
theorem Num.alloc {t : TypeId} {B V : Nat} {w : World} {v : Value} (h : Num t B w V v) (o : Obj) : Num t B (w.alloc o) V v := h.below ((Below.refl w.heap.size w).alloc (Nat.le_refl _) o) (Nat.le_refl _)

theorem Dbox.drew {w : World} {g : Nat} {s : Bool} {v : Value} {x : Int} (h : Dbox w g s v x) : Dbox w.drew g s v x := h

/-- A result that lies in one variable. -/
theorem cells_agg {P : Program} {fn : Func} {p : Tmp} {ty : TypeId} (h : fn.results = #[.cell p ty]) (tmps : Array Value) (w : World) (g : Nat) (t : TypeId) (cs : Array Value) (fr : Nat × Nat) (d : TypeDesc)
    (hp : tmps.getD p undef = .pointer (some ⟨g, 0, none⟩)) (hg : w.heap[g]? = some (.cells cs t fr))
    (hu : P.underlying ty = some d) (hd : (match d with | .struct _ | .array _ _ => true | _ => false) = true) (hi : (P.info? ty).map (·.size) = some cs.size) :
    (results fn tmps).run P w = .ok (.agg cs) w := results_cell_row h tmps w g t cs fr d hp hg hu hd hi
theorem ret_one {fn : Func} {R : Ending → World → Prop} {a : Act} {w : World} {p : Tmp} {g : Nat} {s : Bool} {v : Value} {x : Int} (h : fn.results = #[.cell p 25]) (hp : a.tmps.getD p undef = .pointer (some ⟨g, 0, none⟩))
    (hd : a.defers = []) (hg : Dbox w g s v x) (hR : R (.returned (.agg #[.bool s, v, .int .i64 x])) w) : bodyPost Try.prog fn R .ret a w :=
  bodyPost_ret (cells_agg h a.tmps w g _ _ _ _ hp hg Try.underlying25 rfl dyad_size) hd hR

/-- A dyad that may be just if p, of so many parts. -/
def DArg (w : World) (p : Prop) (M : Int) (v : Value) : Prop := ∃ s A n c f x, v = .agg #[.bool s, .slice A n c, .int .i64 x] ∧ Rd w w.heap.size A n c f ∧ (p ↔ DMay s n f x) ∧ (p → ∃ X : Nat, x = (X : Int) ∧ M = dv s (vl f n) X)
theorem DArg.below {w w' : World} {p : Prop} {M : Int} {v : Value} (h : DArg w p M v) (hb : Below w.heap.size w w') : DArg w' p M v := by
  obtain ⟨s, A, n, c, f, x, hv, hr, hp, hM⟩ := h
  exact ⟨s, A, n, c, f, x, hv, (hr.below hb).mono hb.size, hp, hM⟩
theorem Dn.arg {B : Nat} {w : World} {M : Int} {v : Value} (h : Dn B w M v) : DArg w True M v := by
  obtain ⟨s, u, X, V, rfl, hn, hc, hX, hd⟩ := h
  obtain ⟨A, n, c, f, rfl, hr, hf, rfl⟩ := hn.val
  exact ⟨s, A, n, c, f, (X : Int), rfl, hr, ⟨fun _ => canon_may hf hc hX, fun _ => trivial⟩, fun _ => ⟨X, rfl, hd.symm⟩⟩
/-- The error of a call on dyads: bad ones first, then 'over'. -/
def Derrs (p : Prop) (M : Int) (er : Int) : Prop := (p → Derr M er) ∧ (¬ p → er = 8)


end Go.Proofs.Ytdcolnipdipkhaa


namespace Go.Proofs.Ytdcolnipdipkhaa
set_option maxRecDepth 100000
open Go.RowKit Go.Shelf
attribute [local go_sem] Oper.semAt_some

/-- A dyad, as it lies: its sign, its limbs' slice, its Exp; what its limbs are. -/
structure Dy where
  s : Bool
  A : Option Addr
  n : Nat
  c : Nat
  x : Int
  f : Nat → Nat
/-- The cells of a mass of the parts M 0 to M 3. -/
abbrev mcells (M : Nat → Dy) : Array Value := #[.bool (M 0).s, .slice (M 0).A (M 0).n (M 0).c, .int .i64 (M 0).x, .bool (M 1).s, .slice (M 1).A (M 1).n (M 1).c, .int .i64 (M 1).x, .bool (M 2).s, .slice (M 2).A (M 2).n (M 2).c, .int .i64 (M 2).x, .bool (M 3).s, .slice (M 3).A (M 3).n (M 3).c, .int .i64 (M 3).x]
/-- A mass in its box. -/
def Mbox (w : World) (g : Nat) (M : Nat → Dy) : Prop := w.heap[g]? = some (.cells (mcells M) 27 (0, 0))
/-- The parts' limbs read as they do. -/
def Mrd (w : World) (B : Nat) (M : Nat → Dy) : Prop := ∀ k, k < 4 → Rd w B (M k).A (M k).n (M k).c (M k).f
/-- A mass may be: each of its parts may. -/
def MMay (M : Nat → Dy) : Prop := ∀ k, k < 4 → DMay (M k).s (M k).n (M k).f (M k).x
theorem Mbox.lt {w : World} {g : Nat} {M : Nat → Dy} (h : Mbox w g M) : g < w.heap.size := lt_of_heap h
theorem Mbox.below {w w' : World} {B g : Nat} {M : Nat → Dy} (h : Mbox w g M) (hb : Below B w w') (hg : g < B) : Mbox w' g M := (hb.block g hg).trans h
theorem Mbox.alloc {w : World} {g : Nat} {M : Nat → Dy} (h : Mbox w g M) (o : Obj) : Mbox (w.alloc o) g M := (Below.heap_alloc w o g h.lt).trans h
theorem Mbox.grown {w w' : World} {g k : Nat} {M : Nat → Dy} (h : Mbox w g M) (hb : w.grownBy w' (some k)) (hg : g ≠ k) : Mbox w' g M := (hb.block g h.lt (by intro e; injection e with e; exact hg e)).trans h
theorem Mbox.cell {w : World} {g : Nat} {M : Nat → Dy} (h : Mbox w g M) {k : Nat} (hk : k < 4) : w.cell? ⟨g, 3 * k, none⟩ = some (.bool (M k).s) ∧ w.cell? ⟨g, 3 * k + 1, none⟩ = some (.slice (M k).A (M k).n (M k).c) ∧ w.cell? ⟨g, 3 * k + 2, none⟩ = some (.int .i64 (M k).x) := by
  have hc : k = 0 ∨ k = 1 ∨ k = 2 ∨ k = 3 := by omega
  refine ⟨?_, ?_, ?_⟩
  all_goals
    rw [cell_of_row w g _ _ _ (0, 0) h]
    rcases hc with rfl | rfl | rfl | rfl <;> rfl
theorem Mrd.below {w w' : World} {B : Nat} {M : Nat → Dy} (h : Mrd w B M) (hb : Below B w w') : Mrd w' B M := fun k hk => (h k hk).below hb
theorem Mrd.mono {w : World} {B B' : Nat} {M : Nat → Dy} (h : Mrd w B M) (hb : B ≤ B') : Mrd w B' M := fun k hk => (h k hk).mono hb

theorem keeps_below {B : Nat} {W W' : World} (h : Below W.heap.size W W') : KeepsFrom B W W' := KeepsFrom.of_grownBy (row := none) ⟨h.os, h.tape, h.output, h.size, fun k hk _ => h.block k hk⟩ (fun j h => by cases h)
theorem kb_below {K : Nat → Prop} {W W' : World} (h : Below W.heap.size W W') (hK : ∀ b, K b → b < W.heap.size) : Kb K W W' := ⟨h.size, fun b hb => h.block b (hK b hb)⟩
theorem Boxed.grown' {W W' : World} {B k : Nat} {t : TypeId} {v : Value} (h : Boxed W B t v) (hg : W.grownBy W' (some k)) (hne : B ≠ k) : Boxed W' B t v := (hg.block B h.lt (by intro e; injection e with e; exact hne e)).trans h
theorem Boxed.below' {W W' : World} {B C : Nat} {t : TypeId} {v : Value} (h : Boxed W B t v) (hb : Below C W W') (hC : B < C) : Boxed W' B t v := (hb.block B hC).trans h
theorem below_row {B : Nat} {w X Y : World} {r : Nat} (h : Below B w X) (hg : X.grownBy Y (some r)) (hB : B ≤ X.heap.size) (hr : B ≤ r) : Below B w Y := h.grown hg hB (fun k hk => by injection hk with hk; subst hk; exact hr)
/-- What Check's loop keeps; and where it returns. -/
def ChkI (w : World) (M : Nat → Dy) (Z : Nat) (pre : List (Idx 4)) (X : World) : Prop := Z ≤ X.heap.size ∧ Mbox X w.heap.size M ∧ Boxed X (w.heap.size + 1) 32 (.int .i64 0) ∧ Below w.heap.size w X ∧ ∀ p ∈ pre, DMay (M p.1).s (M p.1).n (M p.1).f (M p.1).x
def ChkX (w : World) (M : Nat → Dy) (X : World) : Prop := ¬ MMay M ∧ Boxed X (w.heap.size + 1) 32 (.int .i64 8) ∧ Below w.heap.size w X
theorem mem_fst {ys : List (Idx 4)} (h : ys.map (·.1) = fst 4) {k : Nat} (hk : k < 4) : ∃ p, p ∈ ys ∧ p.1 = k := by
  have h1 : k ∈ ys.map (·.1) := by
    rw [h]
    simp only [fst, upto, List.mem_map, List.mem_range]
    exact ⟨k, hk, rfl⟩
  obtain ⟨p, hp, e⟩ := List.mem_map.1 h1
  exact ⟨p, hp, e⟩

set_option maxRecDepth 100000 in
set_option maxHeartbeats 4000000 in
theorem mcheck_any {w : World} {M : Nat → Dy} (h : Mrd w w.heap.size M) :
    Calls Try.prog 26 #[.agg (mcells M)] w fun e w' => ∃ er : Int, e = .returned (.int .i64 er) ∧ Hid (er = 0 ↔ MMay M) ∧ Hid (er = 0 ∨ er = 8) ∧ Hid (Below w.heap.size w w') := by
  obtain ⟨W, hW⟩ : ∃ W, W = (w.alloc (.cells (mcells M) 27)).alloc (.cells #[.int .i64 0] 32) := ⟨_, rfl⟩
  have B0 := hid (show Below w.heap.size w W from hW ▸ ((Below.refl _ w).alloc (Nat.le_refl _) _).alloc (by simp) _)
  have P0 : Hid (Mbox W w.heap.size M) := hid (hW ▸ Mbox.alloc (show Mbox (w.alloc _) w.heap.size M from heap_alloc_new w _) _)
  have HR := hid h
  have HW := hid hW
  clear hW h
  refine (callsIn_wide (n := 9)).1 ?_
  refine callsIn_of_wp_marks Try.func26 rfl trivial (wpIn_wide.2 ?_) rfl
  simp only [Try.ntmps26, List.size_toArray, List.length_cons, List.length_nil, Nat.reduceAdd, Nat.reduceSub, Array.replicate_succ, Array.replicate_zero, List.push_toArray, List.append_toArray, List.nil_append, List.cons_append]
  go_upto_region 1 with fail
  rw [← HW.out]
  go_wp2_with fail
  refine (callsIn_wide.1 (parts_any 9 w.heap.size W)).mono ?_
  rintro e W1 ⟨rfl, hW1⟩
  have bS : Boxed W1 W.heap.size 77 (.pointer (some ⟨w.heap.size, 0, none⟩)) := by rw [hW1]; exact heap_alloc_new W _
  have B1 : Below W.heap.size W W1 := by rw [hW1]; exact (Below.refl _ W).alloc (Nat.le_refl _) _
  have hsz : w.heap.size + 2 ≤ W.heap.size := by rw [HW.out]; simp
  have bR : Boxed W (w.heap.size + 1) 32 (.int .i64 0) := by rw [HW.out]; exact heap_alloc2_new w _ _
  have bR1 := hid (show Boxed W1 (w.heap.size + 1) 32 (.int .i64 0) from (B1.block _ (by omega)).trans bR)
  have P1 := hid (P0.out.below B1 P0.out.lt)
  have hs1 : W.heap.size + 1 ≤ W1.heap.size := by rw [hW1]; simp
  have Hsz := hid hsz
  have Hs1 := hid hs1
  have HB1 := hid (B0.out.trans (B1.mono (by omega)))
  have HbS := hid bS
  have hI0 : ChkI w M W1.heap.size [] W1 := ⟨Nat.le_refl _, P1.out, bR1.out, HB1.out, fun p hp => by cases hp⟩
  clear hW1 B1 bR bS hsz hs1
  go_wp2_with fail
  refine wpIn_wide.1 (range_over (F := Fence.wide) (n := 9) (gf := 52) rfl (by omega) rfl trivial (enters_of Try.func52 (by kernel_rfl) rfl) (K := fun b => b < W1.heap.size) (g := W.heap.size) (by have := Hs1.out; show W.heap.size < W1.heap.size; omega) (fun b h => h)
    (parts_comes 8 (by omega) HbS.out.cell HbS.out.lt) (fun _ => rfl) (ChkI w M W1.heap.size) (fun _ => ChkX w M)
    (fun s X Y r h hg hr => ⟨Nat.le_trans h.1 hg.size, h.2.1.grown hg (by have := Hsz.out; have := Hs1.out; omega), Boxed.grown' h.2.2.1 hg (by have := Hsz.out; have := Hs1.out; omega), below_row h.2.2.2.1 hg h.2.2.2.1.size (by have := Hsz.out; have := Hs1.out; omega), h.2.2.2.2⟩)
    (fun s X Y r h hg hr => ⟨h.1, Boxed.grown' h.2.1 hg (by have := Hsz.out; have := Hs1.out; omega), below_row h.2.2 hg h.2.2.size (by have := Hsz.out; have := Hs1.out; omega)⟩)
    (fun s X Y r h _ _ => h) hI0 ?a1 ?assign ?body ?done ?stop)
  case assign =>
    intro l x W K hK
    gi_wp2
    exact hK
  case body =>
    intro l pre x Wx hI
    obtain ⟨k, hk⟩ := x
    obtain ⟨hZ, hM, hR0, hB, hp⟩ := hI
    have HZ := hid hZ
    have Hp := hid hp
    have HB := hid hB
    have HMx := hid hM
    have HR0 := hid hR0
    obtain ⟨y0, y1, y2⟩ := hM.cell hk
    have hr := (((HR.out k hk).below hB).mono hB.size)
    have hx0 := HR0.out.cell
    have hx1 := HR0.out.frozen
    obtain ⟨m, hm⟩ : ∃ m, m = M k := ⟨_, rfl⟩
    rw [← hm] at y0 y1 y2 hr
    have Hm := hid hm
    obtain ⟨s, A, n, c, xx, f⟩ := m
    dsimp only at y0 y1 y2 hr
    have Hk := hid hk
    have CC := dcheck_any hr s xx
    have Hmay := hid (show DMay s n f xx ↔ DMay (M k).s (M k).n (M k).f (M k).x by rw [← hm])
    have HWx := hid hB.size
    unfold pptr
    clear hm hp hB hM hR0 hI0 hZ
    by_cases hd : DMay s n f xx
    · rw [show dchk s n f xx = 0 from if_pos hd] at CC
      have HC := hid CC
      have Hd := hid hd
      clear CC hd
      gi_wp2_with fail
      refine ⟨trivial, ?_⟩
      refine (CallsIn.inRound l (callsIn_wide.2 HC.out)).mono ?_
      rintro e Wy ⟨rfl, hbel⟩
      gi_wp2
      refine ⟨keeps_below hbel, kb_below hbel (fun b hb => Nat.lt_of_lt_of_le hb HZ.out), Nat.le_trans HZ.out hbel.size, HMx.out.below hbel HMx.out.lt, Boxed.below' HR0.out hbel HR0.out.lt, HB.out.trans (hbel.mono HB.out.size), fun p hp => ?_⟩
      rcases List.mem_append.1 hp with h | h
      · exact Hp.out p h
      · obtain rfl : p = ⟨k, Hk.out⟩ := by simpa using h
        exact Hmay.out.1 Hd.out
    · rw [show dchk s n f xx = 8 from if_neg hd] at CC
      have HC := hid CC
      have Hd := hid hd
      clear CC hd
      gi_wp2_with fail
      refine ⟨trivial, ?_⟩
      refine (CallsIn.inRound l (callsIn_wide.2 HC.out)).mono ?_
      rintro e Wy ⟨rfl, hbel⟩
      have bRy := Boxed.below' HR0.out hbel HR0.out.lt
      have z0 := bRy.cell
      have z1 := bRy.frozen
      clear hx0 hx1
      gi_wp2
      refine ⟨(keeps_below hbel).trans ((KeepsOthers.setCell _ ⟨w.heap.size + 1, 0, none⟩ _).from _), fun hmay => Hd.out (Hmay.out.2 (hmay k Hk.out)), bRy.set _, (HB.out.trans (hbel.mono HB.out.size)).setCell (p := ⟨w.heap.size + 1, 0, none⟩) (Nat.le_succ _) _⟩
  case done =>
    rintro D ys Wx hD hys ⟨-, hM, hR0, hB, hp⟩ hK
    have c2 := hR0.cell
    have c3 := hR0.frozen
    have HYS := hid (show MMay M from fun k hk => by obtain ⟨p, hm, e⟩ := mem_fst hys hk; have := hp p hm; rw [e] at this; exact this)
    clear hp hys
    go_wp2
    have hK' := (KeepsOthers.setCell Wx ⟨w.heap.size + 1, 0, none⟩ (.int .i64 0)).same D _ hK rfl
    refine ⟨by simp, .inl ⟨_, _, rfl, run_takeDeferred hK', ?_⟩⟩
    have hc5 := cell_kept (hR0.set (.int .i64 0)).cell (grownBy_putObj' _ D (.deferred none)) (fun r e => by cases e; exact ⟨_, hK', rfl⟩)
    refine ⟨.int .i64 0, by simp [results, Try.f26, go_sem, hc5], 0, rfl, hid ⟨fun _ => HYS.out, fun _ => rfl⟩, hid (.inl rfl), hid ((hB.setCell (p := ⟨w.heap.size + 1, 0, none⟩) (Nat.le_succ _) _).trans (belowK_b (w := w) (Nat.le_refl _) _ D _ _ (by have := Hsz.out; have := Hs1.out; omega) hK' rfl rfl))⟩
  case stop =>
    rintro D pre Wx hD ⟨k, hk, hpre⟩ ⟨hN, hR0, hB⟩ hK
    have HN := hid hN
    clear hN hpre
    gi_wp2
    refine ⟨by simp, .inl ⟨_, _, rfl, run_takeDeferred hK, ?_⟩⟩
    have hc5 := cell_kept hR0.cell (grownBy_putObj' _ D (.deferred none)) (fun r e => by cases e; exact ⟨_, hK, rfl⟩)
    refine ⟨.int .i64 8, by simp [results, Try.f26, go_sem, hc5], 8, rfl, hid ⟨fun h => by omega, fun h => absurd h HN.out⟩, hid (.inr rfl), hid (hB.trans (belowK_b (w := w) (Nat.le_refl _) _ D _ _ (by have := Hsz.out; have := Hs1.out; omega) hK rfl rfl))⟩

end Go.Proofs.Ytdcolnipdipkhaa

