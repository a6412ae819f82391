/- The document's signed bits: words; Minus, In. -/
import Derived.Test.YtnhnddhigbbleaaDoorEmay
import Derived.Test.YtnhnddhigbbleaaDoorRshift
import Derived.Deep.RegionHeld3
import Derived.IntWalk
namespace Go.Proofs.YtnhnddhigbbleaaDoor
open Go.RowKit

/-- Block g is a number of signed bits. -/
def Sbox (w : World) (g : Nat) (s : Bool) (v : Value) : Prop := w.heap[g]? = some (.cells #[.bool s, v] 45 (0, 0))
section
variable {w w' : World} {g : Nat} {s : Bool} {v : Value}
theorem Sbox.lt (h : Sbox w g s v) : g < w.heap.size := lt_of_heap h
theorem Sbox.c0 (h : Sbox w g s v) : w.cell? ⟨g, 0, none⟩ = some (.bool s) := by rw [cell_of_row w g 0 _ _ (0, 0) h]; rfl
theorem Sbox.c1 (h : Sbox w g s v) : w.cell? ⟨g, 1, none⟩ = some v := by rw [cell_of_row w g 1 _ _ (0, 0) h]; rfl
theorem Sbox.frozen (h : Sbox w g s v) (j : Nat) : w.frozen? ⟨g, j, none⟩ = false := frozen_of_row w g j _ _ h
theorem Sbox.below {B : Nat} (h : Sbox w g s v) (hb : Below B w w') (hg : g < B) : Sbox w' g s v := (hb.block g hg).trans h
theorem Sbox.far {k : Nat} (h : Sbox w g s v) (hk : g ≠ k) (j : Nat) (u : Value) : Sbox (w.setCell ⟨k, j, none⟩ u) g s v := (Below.heap_setCell w ⟨k, j, none⟩ u g hk).trans h
theorem Sbox.alloc (h : Sbox w g s v) (o : Obj) : Sbox (w.alloc o) g s v := (Below.heap_alloc w o g h.lt).trans h
end
/-- The world behind signed bits that are stored into their box. -/
def put2 (w : World) (g : Nat) (s : Bool) (v : Value) : World := (w.setCell ⟨g, 0, none⟩ (.bool s)).setCell ⟨g, 1, none⟩ v
theorem Sbox.store {w : World} {g : Nat} {s t : Bool} {v u : Value} (h : Sbox w g s v) : Sbox (put2 w g t u) g t u := by
  have h0 := heap_setCell_same w g 0 _ _ (.bool t) h
  exact heap_setCell_same _ g 1 _ _ u h0
theorem below_put2 {B : Nat} {w w' : World} {g : Nat} {s : Bool} {v : Value} (h : Below B w w') (hg : B ≤ g) : Below B w (put2 w' g s v) :=
  (h.setCell (p := ⟨g, 0, none⟩) hg _).setCell (p := ⟨g, 1, none⟩) hg _
theorem sig_size : (Tryd.prog.info? 45).map (·.size) = some 2 := by kernel_rfl
theorem ret_sig {fn : Func} {R : Ending → World → Prop} {a : Act} {w : World} {p : Tmp} {g : Nat} {s : Bool} {v : Value} (h : fn.results = #[.cell p 45]) (hp : a.tmps.getD p undef = .pointer (some ⟨g, 0, none⟩))
    (hd : a.defers = []) (hg : Sbox w g s v) (hR : R (.returned (.agg #[.bool s, v])) w) : bodyPost Tryd.prog fn R .ret a w :=
  bodyPost_ret (cells_agg h a.tmps w g _ _ _ _ hp hg Tryd.underlying45 rfl sig_size) hd hR
/-- Bits stay when a number's block is written. -/
theorem Bt.stay {w : World} {B V g : Nat} {v u : Value} {s t : Bool} {D : Option Addr} {m d : Nat} (h : Bt w B V v) (hg : Sbox w g s (.slice D m d)) : Bt (put2 w g t u) B V v := by
  obtain ⟨A, n, c, rfl, hr, hl⟩ := h
  refine ⟨A, n, c, rfl, ⟨hr.cap, hr.max, hr.nil, hr.lt, fun hn => ?_⟩, hl⟩
  obtain ⟨b, off, rfl, hB, hc⟩ := hr.at_ hn
  have hne : b ≠ g := by
    rintro rfl
    have h0 := hc 0 hn
    rw [Nat.add_zero, cell_of_row w b off _ _ (0, 0) hg] at h0
    match off, h0 with
    | 0, h0 => simp at h0
    | 1, h0 => simp at h0
    | k + 2, h0 => simp at h0
  refine ⟨b, off, rfl, hB, fun j hj => ?_⟩
  rw [← hc j hj]
  exact World.cell?_of_block ((Below.heap_setCell _ ⟨g, 1, none⟩ u b hne).trans (Below.heap_setCell w ⟨g, 0, none⟩ (.bool t) b hne))
theorem put2_size (w : World) (g : Nat) (s : Bool) (v : Value) : (put2 w g s v).heap.size = w.heap.size := by simp [put2, World.setCell]

theorem Bt.dims {w : World} {B V n c : Nat} {A : Option Addr} (h : Bt w B V (.slice A n c)) : n ≤ c ∧ n ≤ 140737488355328 ∧ (n = 0 → V = 0) ∧ (0 < n → V ≠ 0) := by
  obtain ⟨A', n', c', hv, hr, hl⟩ := h
  injection hv with h1 h2 h3
  subst h1 h2 h3
  refine ⟨hr.cap, hr.max, fun h0 => ?_, fun h0 => ?_⟩
  · subst h0
    exact hr.zero
  · have := hl h0
    have := tw_pos (n - 1)
    omega
/-- Signed bits: the number M, of less than L digits. -/
def Sg (w : World) (L : Nat) (M : Int) (v : Value) : Prop := ∃ s A n c N, v = .agg #[.bool s, .slice A n c] ∧ Bt w w.heap.size N (.slice A n c) ∧ N < tw L ∧ num s N = M
theorem Sg.below {w w' : World} {L : Nat} {M : Int} {v : Value} (h : Sg w L M v) (hb : Below w.heap.size w w') : Sg w' L M v := by
  obtain ⟨s, A, n, c, N, hv, hbt, hN, hM⟩ := h
  exact ⟨s, A, n, c, N, hv, (hbt.below hb).mono hb.size, hN, hM⟩

end Go.Proofs.YtnhnddhigbbleaaDoor
