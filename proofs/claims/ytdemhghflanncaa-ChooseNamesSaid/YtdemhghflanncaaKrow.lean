/- row.put: a descriptor goes ahead of the first one that it is fresher than. -/
import Derived.Test.YtdemhghflanncaaKput
namespace Go.Proofs.Ytdemhghflanncaa
open Go.RowKit Go.Shelf Go.Lib

theorem put1_any {d x : De} {g : Nat} {W : World} (h1 : W.cell? ⟨g, 0, none⟩ = some (.int .i64 d.1)) (h2 : W.cell? ⟨g, 1, none⟩ = some (.int .i64 d.2)) :
    Calls Try.prog 50 #[dv x, .pointer (some ⟨g, 0, none⟩)] W fun e w' => e = .returned (.bool (fr d x)) ∧ Hid (Below W.heap.size W w') := by
  have hg : g < W.heap.size := by
    unfold World.cell? at h1
    rcases Nat.lt_or_ge g W.heap.size with h | h
    · exact h
    · rw [Array.getElem?_eq_none h] at h1; cases h1
  have hne : g ≠ W.heap.size := by omega
  have HC := hid (fun w => fresher_any d x w)
  obtain ⟨d1, d2⟩ := d
  obtain ⟨x1, x2⟩ := x
  change W.cell? ⟨g, 0, none⟩ = some (.int .i64 d1) at h1
  change W.cell? ⟨g, 1, none⟩ = some (.int .i64 d2) at h2
  generalize fr (d1, d2) (x1, x2) = r at HC ⊢
  have HB := hid ((Below.refl _ W).alloc (Nat.le_refl _) (.cells #[.int .i64 x1, .int .i64 x2] 23))
  show Calls Try.prog 50 #[.agg #[.int .i64 x1, .int .i64 x2], .pointer (some ⟨g, 0, none⟩)] W _
  go_enter Try.func50, Try.ntmps50
  go_wp2_with fail
  refine (HC.out _).mono ?_
  rintro e w' ⟨rfl, hb⟩
  go_wp2
  go_ret
  exact ⟨rfl, hid (HB.out.trans (hb.out.mono HB.out.size))⟩

/-- A row (desc.row) in block g, of the call's own from block B on, whose list is l. -/
def RowS (w : World) (B g : Nat) (l : List De) : Prop := ∃ v, w.heap[g]? = some (.cells #[v] 78 (0, 0)) ∧ Od w B v l ∧ B ≤ g ∧ v.ownBlock ≠ some g
theorem own_lt {w : World} {B : Nat} {v : Value} {l : List De} (h : Od w B v l) : ∀ k, v.ownBlock = some k → B ≤ k ∧ k < w.heap.size := h.own.lt
theorem RowS.below {w w' : World} {B g : Nat} {l : List De} (h : RowS w B g l) (hb : Below w.heap.size w w') : RowS w' B g l := by
  obtain ⟨v, h1, h2, h3, h4⟩ := h
  exact ⟨v, (hb.block g (lt_of_heap h1)).trans h1, h2.below hb, h3, h4⟩
theorem heap_setCell_at (w : World) (g : Nat) (v u : Value) (t : TypeId) (h : w.heap[g]? = some (.cells #[v] t (0, 0))) : (w.setCell ⟨g, 0, none⟩ u).heap[g]? = some (.cells #[u] t (0, 0)) := heap_setCell_same w g 0 #[v] t u h
/-- Behind the list's change and the store of the new one. -/
theorem row_store {w w1 : World} {B g : Nat} {v v' : Value} {l' : List De} (hg : w.heap[g]? = some (.cells #[v] 78 (0, 0))) (h3 : B ≤ g) (h4 : v.ownBlock ≠ some g) (hlt : ∀ k, v.ownBlock = some k → B ≤ k) (h : Turned w w1 B v v' l') :
    w1.heap[g]? = some (.cells #[v] 78 (0, 0)) ∧ RowS (w1.setCell ⟨g, 0, none⟩ v') B g l' ∧ Below B w (w1.setCell ⟨g, 0, none⟩ v') := by
  have hgw := lt_of_heap hg
  have h1 : w1.heap[g]? = some (.cells #[v] 78 (0, 0)) := (h.grown.block g hgw (fun e => h4 e.symm)).trans hg
  have hv' : v'.ownBlock ≠ some g := by
    rcases h.at_ with e | e
    · rw [e]; exact h4
    · rw [e]; intro e2; injection e2 with e2; omega
  have hfar : ∀ k, k ≠ g → (w1.setCell ⟨g, 0, none⟩ v').heap[k]? = w1.heap[k]? := fun k hk => Below.heap_setCell w1 ⟨g, 0, none⟩ v' k hk
  refine ⟨h1, ⟨v', heap_setCell_at w1 g v v' _ h1, ⟨?_, h.own.max⟩, h3, hv'⟩, ⟨h.grown.os, h.grown.tape, h.grown.output, ?_, fun k hk => ?_⟩⟩
  · refine h.own.own.kept (row := some g) ⟨rfl, rfl, rfl, by simp [World.setCell], fun k _ hk => hfar k (fun e => hk (by rw [e]))⟩ (.inr hv')
  · exact Nat.le_trans h.grown.size (by simp [World.setCell])
  · rcases Nat.lt_or_ge k w.heap.size with h5 | h5
    · rw [hfar k (by omega)]
      exact h.grown.block k h5 (fun e => by have := hlt k e.symm; omega)
    · omega
end Go.Proofs.Ytdemhghflanncaa
