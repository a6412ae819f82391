/- Caches: a word for their boxes; the document's New. -/
import Derived.Test.YtdemhghflanncaaCoth
import Derived.Laws.ResultCell
import Derived.Laws.Rows
namespace Go.Proofs.Ytdemhghflanncaa
open Go.RowKit Go.Shelf Go.Lib

/-- Block g is a cache's. -/
def Cbox (w : World) (g : Nat) (o p : Int) (v : Value) : Prop := w.heap[g]? = some (.cells #[.int .i64 o, .int .i64 p, v] 29 (0, 0))
/-- A cache as it is handed over. -/
def cav (o p : Int) (v : Value) : Value := .agg #[.int .i64 o, .int .i64 p, v]
section
variable {w w' : World} {g : Nat} {o p : Int} {v : Value}
theorem Cbox.lt (h : Cbox w g o p v) : g < w.heap.size := lt_of_heap h
theorem Cbox.c0 (h : Cbox w g o p v) : w.cell? ⟨g, 0, none⟩ = some (.int .i64 o) := by rw [cell_of_row w g 0 _ _ (0, 0) h]; rfl
theorem Cbox.c1 (h : Cbox w g o p v) : w.cell? ⟨g, 1, none⟩ = some (.int .i64 p) := by rw [cell_of_row w g 1 _ _ (0, 0) h]; rfl
theorem Cbox.c2 (h : Cbox w g o p v) : w.cell? ⟨g, 2, none⟩ = some v := by rw [cell_of_row w g 2 _ _ (0, 0) h]; rfl
theorem Cbox.below {B : Nat} (h : Cbox w g o p v) (hb : Below B w w') (hg : g < B) : Cbox w' g o p v := (hb.block g hg).trans h
theorem Cbox.alloc (h : Cbox w g o p v) (x : Obj) : Cbox (w.alloc x) g o p v := (Below.heap_alloc w x g h.lt).trans h
theorem Cbox.frozen (h : Cbox w g o p v) (j : Nat) : w.frozen? ⟨g, j, none⟩ = false := frozen_of_row w g j _ _ h
theorem Cbox.drew (h : Cbox w g o p v) : Cbox w.drew g o p v := h
end
/-- The world behind a cache that is stored into its box. -/
def putC (w : World) (g : Nat) (o p : Int) (v : Value) : World := ((w.setCell ⟨g, 0, none⟩ (.int .i64 o)).setCell ⟨g, 1, none⟩ (.int .i64 p)).setCell ⟨g, 2, none⟩ v
theorem Cbox.store {w : World} {g : Nat} {o p o' p' : Int} {v v' : Value} (h : Cbox w g o p v) : Cbox (putC w g o' p' v') g o' p' v' := by
  have h0 := heap_setCell_same w g 0 _ _ (.int .i64 o') h
  have h1 := heap_setCell_same _ g 1 _ _ (.int .i64 p') h0
  exact heap_setCell_same _ g 2 _ _ v' h1
theorem below_putC {B : Nat} {w w' : World} {g : Nat} {o p : Int} {v : Value} (h : Below B w w') (hg : B ≤ g) : Below B w (putC w' g o p v) :=
  ((h.setCell (p := ⟨g, 0, none⟩) hg _).setCell (p := ⟨g, 1, none⟩) hg _).setCell (p := ⟨g, 2, none⟩) hg _
theorem put2_box {w : World} {g : Nat} {o p : Int} {v v' : Value} (h : Cbox w g o p v) : Cbox (w.setCell ⟨g, 2, none⟩ v') g o p v' := heap_setCell_same w g 2 _ _ v' h
theorem cells_agg_tmp {P : Program} {fn : Func} {p u : Tmp} {ty : TypeId} (h : fn.results = #[.cell p ty, .tmp u]) (tmps : Array Value) (w : World) (g : Nat) (t : TypeId) (cs : Array Value) (fr : Nat × Nat) (d : TypeDesc)
    (hp : tmps.getD p undef = .pointer (some ⟨g, 0, none⟩)) (hg : w.heap[g]? = some (.cells cs t fr))
    (hu : P.underlying ty = some d) (hd : (match d with | .struct _ | .array _ _ => true | _ => false) = true) (hi : (P.info? ty).map (·.size) = some cs.size) :
    (results fn tmps).run P w = .ok (.tuple #[.agg cs, tmps.getD u undef]) w := by
  rw [results_cell_tmp h, hp]
  simp [asAddr, Result.andThen, run_loadVar_row w g t ty cs fr d hg hu hd hi]
theorem cells_agg {P : Program} {fn : Func} {p : Tmp} {ty : TypeId} (h : fn.results = #[.cell p ty]) (tmps : Array Value) (w : World) (g : Nat) (t : TypeId) (cs : Array Value) (fr : Nat × Nat) (d : TypeDesc)
    (hp : tmps.getD p undef = .pointer (some ⟨g, 0, none⟩)) (hg : w.heap[g]? = some (.cells cs t fr))
    (hu : P.underlying ty = some d) (hd : (match d with | .struct _ | .array _ _ => true | _ => false) = true) (hi : (P.info? ty).map (·.size) = some cs.size) :
    (results fn tmps).run P w = .ok (.agg cs) w := results_cell_row h tmps w g t cs fr d hp hg hu hd hi
theorem cache_size : (Try.prog.info? 29).map (·.size) = some 3 := by kernel_rfl
theorem ret_cache {fn : Func} {R : Ending → World → Prop} {a : Act} {w : World} {p u : Tmp} {g : Nat} {o q : Int} {v er : Value} (h : fn.results = #[.cell p 29, .tmp u]) (hp : a.tmps.getD p undef = .pointer (some ⟨g, 0, none⟩)) (hu : a.tmps.getD u undef = er)
    (hd : a.defers = []) (hg : Cbox w g o q v) (hR : R (.returned (.tuple #[cav o q v, er])) w) : bodyPost Try.prog fn R .ret a w := by
  refine bodyPost_ret ?_ hd hR
  rw [← hu]
  exact cells_agg_tmp h a.tmps w g _ _ _ _ hp hg Try.underlying29 rfl cache_size
theorem ret_cache1 {fn : Func} {R : Ending → World → Prop} {a : Act} {w : World} {p : Tmp} {g : Nat} {o q : Int} {v : Value} (h : fn.results = #[.cell p 29]) (hp : a.tmps.getD p undef = .pointer (some ⟨g, 0, none⟩))
    (hd : a.defers = []) (hg : Cbox w g o q v) (hR : R (.returned (cav o q v)) w) : bodyPost Try.prog fn R .ret a w :=
  bodyPost_ret (cells_agg h a.tmps w g _ _ _ _ hp hg Try.underlying29 rfl cache_size) hd hR
theorem cache_new (w : World) : Cbox (w.alloc (.cells #[.int .i64 0, .int .i64 0, .slice none 0 0] 29)) w.heap.size 0 0 (.slice none 0 0) := heap_alloc_new w _

/-- What New asks. -/
def NMay (o p : Int) : Prop := 0 ≤ o ∧ o < 8 ∧ 1 ≤ p ∧ p ≤ 6
instance (o p : Int) : Decidable (NMay o p) := by unfold NMay; infer_instance

set_option maxHeartbeats 1600000 in
theorem rnew_any (o p : Int) (w : World) :
    Calls Try.prog 36 #[.int .i64 o, .int .i64 p] w fun e w' => e = .returned (.tuple #[if NMay o p then cav o p (.slice none 0 0) else cav 0 0 (.slice none 0 0), .int .i64 (if NMay o p then 0 else 2)]) ∧ Hid (Below w.heap.size w w') := by
  have HB := hid ((Below.refl w.heap.size w).alloc (Nat.le_refl _) (.cells #[.int .i64 0, .int .i64 0, .slice none 0 0] 29))
  have HX := hid (cache_new w)
  by_cases h : NMay o p
  · rw [if_pos h, if_pos h]
    obtain ⟨h1, h2, h3, h4⟩ := h
    have g1 : ¬ o < 0 := by omega
    have g2 : ¬ o ≥ 8 := by omega
    have g3 : ¬ p < 1 := by omega
    have g4 : ¬ p > 6 := by omega
    go_enter Try.func36, Try.ntmps36
    go_wp2
    refine ret_cache rfl rfl rfl rfl (o := o) (q := p) (v := .slice none 0 0) (heap_alloc_new w _) ?_
    exact ⟨rfl, hid ((Below.refl w.heap.size w).alloc (Nat.le_refl _) _)⟩
  · rw [if_neg h, if_neg h]
    have H := hid h
    clear h
    go_enter Try.func36, Try.ntmps36
    by_cases g1 : o < 0
    · go_wp2
      refine ret_cache rfl rfl rfl rfl HX.out ?_
      exact ⟨rfl, HB⟩
    by_cases g2 : o ≥ 8
    · go_wp2
      refine ret_cache rfl rfl rfl rfl HX.out ?_
      exact ⟨rfl, HB⟩
    by_cases g3 : p < 1
    · go_wp2
      refine ret_cache rfl rfl rfl rfl HX.out ?_
      exact ⟨rfl, HB⟩
    have g4 : p > 6 := by
      refine Int.not_le.1 fun h4 => H.out ⟨by omega, by omega, by omega, h4⟩
    go_wp2
    refine ret_cache rfl rfl rfl rfl HX.out ?_
    exact ⟨rfl, HB⟩
end Go.Proofs.Ytdemhghflanncaa
