/- Ether: the document's Take. -/
import Derived.Test.YtbpijlghdpflgaaDoorYtk
import Derived.Deep.RegionWith
import Derived.Laws.ResultCell
import Derived.Laws.Rows
namespace Go.Proofs.YtbpijlghdpflgaaDoor.Eth
open Go.RowKit Go.Shelf Go.Lib

theorem res3_cell {P : Program} {fn : Func} {b p u : Tmp} {ty : TypeId} (h : fn.results = #[.tmp b, .cell p ty, .tmp u]) (tmps : Array Value) (w : World) (g : Nat) (t : TypeId) (cs : Array Value) (fr : Nat × Nat) (d : TypeDesc)
    (hp : tmps.getD p undef = .pointer (some ⟨g, 0, none⟩)) (hg : w.heap[g]? = some (.cells cs t fr))
    (hu : P.underlying ty = some d) (hd : (match d with | .struct _ | .array _ _ => true | _ => false) = true) (hi : (P.info? ty).map (·.size) = some cs.size) :
    (results fn tmps).run P w = .ok (.tuple #[tmps.getD b undef, .agg cs, tmps.getD u undef]) w := by
  have hp2 : tmps[p]?.getD undef = .pointer (some ⟨g, 0, none⟩) := by simpa using hp
  simp only [results, h]
  simp [Result.andThen, hp2, asAddr, run_loadVar_row w g t ty cs fr d hg hu hd hi]
theorem ret_copy3 {fn : Func} {R : Ending → World → Prop} {a : Act} {w : World} {b p u : Tmp} {g n c : Nat} {x y : Int} {A : Option Addr} {s : Bool} {v er : Value} (h : fn.results = #[.tmp b, .cell p 28, .tmp u]) (hb : a.tmps.getD b undef = v) (hp : a.tmps.getD p undef = .pointer (some ⟨g, 0, none⟩)) (hu : a.tmps.getD u undef = er)
    (hd : a.defers = []) (hg : Cbx w g x y A n c s) (hR : R (.returned (.tuple #[v, .agg #[.int .i64 x, .int .i64 y, .slice A n c, .bool s], er])) w) : bodyPost Tryd.prog fn R .ret a w := by
  refine bodyPost_ret ?_ hd hR
  rw [← hu, ← hb]
  exact res3_cell h a.tmps w g _ _ _ _ hp hg Tryd.underlying28 rfl sizeC
theorem res1_cell {P : Program} {fn : Func} {p : Tmp} {ty : TypeId} (h : fn.results = #[.cell p ty]) (tmps : Array Value) (w : World) (g : Nat) (t : TypeId) (cs : Array Value) (fr : Nat × Nat) (d : TypeDesc)
    (hp : tmps.getD p undef = .pointer (some ⟨g, 0, none⟩)) (hg : w.heap[g]? = some (.cells cs t fr))
    (hu : P.underlying ty = some d) (hd : (match d with | .struct _ | .array _ _ => true | _ => false) = true) (hi : (P.info? ty).map (·.size) = some cs.size) :
    (results fn tmps).run P w = .ok (.agg cs) w := results_cell_row h tmps w g t cs fr d hp hg hu hd hi
theorem ret_copy1 {fn : Func} {R : Ending → World → Prop} {a : Act} {w : World} {p : Tmp} {g n c : Nat} {x y : Int} {A : Option Addr} {s : Bool} (h : fn.results = #[.cell p 28]) (hp : a.tmps.getD p undef = .pointer (some ⟨g, 0, none⟩))
    (hd : a.defers = []) (hg : Cbx w g x y A n c s) (hR : R (.returned (.agg #[.int .i64 x, .int .i64 y, .slice A n c, .bool s])) w) : bodyPost Tryd.prog fn R .ret a w :=
  bodyPost_ret (res1_cell h a.tmps w g _ _ _ _ hp hg Tryd.underlying28 rfl sizeC) hd hR

theorem arr_one (x y : Int) (A : Option Addr) (n c : Nat) (s : Bool) : (#[.int .i64 x, .int .i64 y, .slice A n c, .bool s] : Array Value).all (·.oneCell') = true :=
  all_oneCell_toArray (cs := [.int .i64 x, .int .i64 y, .slice A n c, .bool s]) (by intro v hv; simp at hv; rcases hv with rfl | rfl | rfl | rfl <;> rfl)
/-- A copy stored into its box. -/
def put4 (w : World) (g : Nat) (x y : Int) (A : Option Addr) (n c : Nat) (s : Bool) : World := (((w.setCell ⟨g, 0, none⟩ (.int .i64 x)).setCell ⟨g, 1, none⟩ (.int .i64 y)).setCell ⟨g, 2, none⟩ (.slice A n c)).setCell ⟨g, 3, none⟩ (.bool s)
theorem Cbx.put4 {w : World} {g n c n' c' : Nat} {x y x' y' : Int} {A A' : Option Addr} {s s' : Bool} (h : Cbx w g x y A n c s) : Cbx (put4 w g x' y' A' n' c' s') g x' y' A' n' c' s' := by
  have h0 := heap_setCell_same w g 0 _ _ (.int .i64 x') h
  have h1 := heap_setCell_same _ g 1 _ _ (.int .i64 y') h0
  have h2 := heap_setCell_same _ g 2 _ _ (.slice A' n' c') h1
  exact heap_setCell_same _ g 3 _ _ (.bool s') h2
theorem gq_put4 (w : World) (g : Nat) (x y : Int) (A : Option Addr) (n c : Nat) (s : Bool) : Gq g w (put4 w g x y A n c s) :=
  ⟨rfl, rfl, rfl, by simp [Eth.put4, World.setCell], fun b hb => by
    unfold Eth.put4
    rw [Below.heap_setCell _ _ _ b hb, Below.heap_setCell _ _ _ b hb, Below.heap_setCell _ _ _ b hb, Below.heap_setCell _ _ _ b hb]⟩
/-- A single copy of its own. -/
theorem Cow.one {w : World} {S : Nat → Prop} {A : Option Addr} {c : Nat} {rs : List Cr} {p : Cp} (h : Cow w S A 1 c rs [p]) : ∃ (g o : Nat) (x y : Int) (D : Option Addr) (m d : Nat) (s : Bool), A = some ⟨g, o, none⟩ ∧ S g ∧ g < w.heap.size ∧
    w.cell? ⟨g, o, none⟩ = some (.int .i64 x) ∧ w.cell? ⟨g, o + 1, none⟩ = some (.int .i64 y) ∧ w.cell? ⟨g, o + 2, none⟩ = some (.slice D m d) ∧ w.cell? ⟨g, o + 3, none⟩ = some (.bool s) ∧ Tow w S (x, y, (D, m, d), s) ∧ Crd w w.heap.size (x, y, (D, m, d), s) p := by
  obtain ⟨h1, h2, h3, h4⟩ := h
  obtain ⟨g, o, cur, rfl, hS, hh, _⟩ := h4 (by omega)
  obtain ⟨r, rfl⟩ : ∃ r, rs = [r] := by
    match rs, h2.1 with
    | [r], _ => exact ⟨r, rfl⟩
  obtain ⟨x, y, ⟨D, m, d⟩, s⟩ := r
  have hc := h1.cells
  have e : cellsC [((x, y, (D, m, d), s) : Cr)] = [.int .i64 x, .int .i64 y, .slice D m d, .bool s] := rfl
  rw [e] at hc
  refine ⟨g, o, x, y, D, m, d, s, rfl, hS, lt_of_heap hh, ?_, ?_, ?_, ?_, h3 _ (by simp), h2.2 0 _ _ rfl rfl⟩
  · have := hc 0 _ rfl; rwa [Addr.add_lit] at this
  · have := hc 1 _ rfl; rwa [Addr.add_lit] at this
  · have := hc 2 _ rfl; rwa [Addr.add_lit] at this
  · have := hc 3 _ rfl; rwa [Addr.add_lit] at this
/-- What Take leaves, to be read. -/
def TakR (w : World) (q : Int) (l : List Cp) (p : Cp) (e : Ending) (w' : World) : Prop :=
  ∃ A' n' c' x y D m d s, e = .returned (.tuple #[.slice A' n' c', .agg #[.int .i64 x, .int .i64 y, .slice D m d, .bool s], .int .i64 q]) ∧ Hid (Cls w' w'.heap.size A' n' c' l ∧ Crd w' w'.heap.size (x, y, (D, m, d), s) p ∧ Below w.heap.size w w' ∧ Tow w' (fun k => w.heap.size ≤ k) (x, y, (D, m, d), s))
theorem Crd.zero (w : World) (B : Nat) : Crd w B (0, 0, (none, 0, 0), false) C0 := ⟨rfl, rfl, rfl, Gs.nil' w B 1, by simp [C0]⟩
theorem TakR.none' {w w' : World} {q : Int} (hb : Below w.heap.size w w') : TakR w q [] C0 (.returned (.tuple #[.slice none 0 0, .agg #[.int .i64 0, .int .i64 0, .slice none 0 0, .bool false], .int .i64 q])) w' := ⟨_, _, _, _, _, _, _, _, _, rfl, hid ⟨Cls.nil' _ _, Crd.zero _ _, hb, fun h0 => absurd h0 (Nat.lt_irrefl 0)⟩⟩

end Go.Proofs.YtbpijlghdpflgaaDoor.Eth
