/- Fresher of both sides; the document's Order and Best. -/
import Derived.Test.YthklhhgkklpbkaaKfir
import Derived.Test.YthklhhgkklpbkaaKsame
namespace Go.Proofs.Ythklhhgkklpbkaa
open Go.RowKit Go.Shelf Go.Lib

/-- What Fresher answers. -/
def frE (a b : De) : Int := if bad a || bad b then 8 else 0
def frB (a b : De) : Bool := !(bad a || bad b) && fr a b

theorem ds_two {X : World} {N : Nat} {a b : De} (h : X.heap[N]? = some (.cells #[.int .i64 a.1, .int .i64 a.2, .int .i64 b.1, .int .i64 b.2] 29 (0, 0))) : Ds X X.heap.size (some ⟨N, 0, none⟩) 2 2 [a, b] :=
  ⟨rfl, Nat.le_refl _, by omega, fun e => (by cases e), fun _ => ⟨N, 0, rfl, lt_of_heap h, fun j d hj => by
    match j, hj with
    | 0, hj =>
      obtain rfl : a = d := by simpa using hj
      rw [cell_of_row X N _ _ _ (0, 0) h, cell_of_row X N _ _ _ (0, 0) h]
      exact ⟨rfl, rfl⟩
    | 1, hj =>
      obtain rfl : b = d := by simpa using hj
      rw [cell_of_row X N _ _ _ (0, 0) h, cell_of_row X N _ _ _ (0, 0) h]
      exact ⟨rfl, rfl⟩
    | j + 2, hj => simp at hj⟩⟩

set_option maxHeartbeats 1600000 in
theorem dFresher_any (a b : De) (w : World) :
    Calls Try.prog 24 #[dv a, dv b] w fun e w' => e = .returned (.tuple #[.bool (frB a b), .int .i64 (frE a b)]) ∧ Hid (Below w.heap.size w w') := by
  obtain ⟨a1, a2⟩ := a
  obtain ⟨b1, b2⟩ := b
  obtain ⟨W, hW⟩ : ∃ W, W = (w.alloc (.cells #[.int .i64 a1, .int .i64 a2] 29)).alloc (.cells #[.int .i64 b1, .int .i64 b2] 29) := ⟨_, rfl⟩
  have B0 := hid (show Below w.heap.size w W from hW ▸ ((Below.refl _ w).alloc (Nat.le_refl _) _).alloc (by simp) _)
  have h0 : W.heap[w.heap.size]? = some (.cells #[.int .i64 a1, .int .i64 a2] 29 (0, 0)) := hW ▸ (Below.heap_alloc _ _ _ (by simp)).trans (heap_alloc_new w _)
  have h1 : W.heap[w.heap.size + 1]? = some (.cells #[.int .i64 b1, .int .i64 b2] 29 (0, 0)) := hW ▸ new_row (by simp)
  have x0 : W.cell? ⟨w.heap.size, 0, none⟩ = some (.int .i64 a1) := (cell_of_row W _ 0 _ _ (0, 0) h0).trans rfl
  have x1 : W.cell? ⟨w.heap.size, 1, none⟩ = some (.int .i64 a2) := (cell_of_row W _ 1 _ _ (0, 0) h0).trans rfl
  have y0 : W.cell? ⟨w.heap.size + 1, 0, none⟩ = some (.int .i64 b1) := (cell_of_row W _ 0 _ _ (0, 0) h1).trans rfl
  have y1 : W.cell? ⟨w.heap.size + 1, 1, none⟩ = some (.int .i64 b2) := (cell_of_row W _ 1 _ _ (0, 0) h1).trans rfl
  have H0 := hid h0
  have H1 := hid h1
  have CB := hid (anyBad_any (w := W.alloc (.cells #[.int .i64 a1, .int .i64 a2, .int .i64 b1, .int .i64 b2] 29)) (ds_two (a := (a1, a2)) (b := (b1, b2)) (heap_alloc_new W _)) (Nat.le_refl _))
  have CF := hid (fun X => fresher_any (a1, a2) (b1, b2) X)
  have HW := hid hW
  have hany : ([(a1, a2), (b1, b2)] : List De).any bad = (bad (a1, a2) || bad (b1, b2)) := by simp
  rw [hany] at CB
  unfold frE frB
  generalize (bad (a1, a2) || bad (b1, b2)) = q at CB ⊢
  generalize fr (a1, a2) (b1, b2) = r at CF ⊢
  have hB1 := hid ((Below.refl W.heap.size W).alloc (Nat.le_refl _) (.cells #[.int .i64 a1, .int .i64 a2, .int .i64 b1, .int .i64 b2] 29))
  have hws : w.heap.size ≤ W.heap.size := B0.out.size
  have hw2 : w.heap.size + 1 < W.heap.size := lt_of_heap h1
  clear hW h0 h1 hany
  show Calls Try.prog 24 #[.agg #[.int .i64 a1, .int .i64 a2], .agg #[.int .i64 b1, .int .i64 b2]] w _
  go_enter Try.func24, Try.ntmps24
  go_upto_region 1 with fail
  rw [← HW.out]
  clear HW
  cases q with
  | true =>
    go_wp2_with (go_at_call 34; refine CB.out.mono ?_; rintro e w1 ⟨rfl, hb⟩)
    go_ret2
    exact ⟨rfl, hid (B0.out.trans ((hB1.out.trans (hb.out.mono hB1.out.size)).mono hws))⟩
  | false =>
    go_wp2_with fail
    refine CB.out.mono ?_
    rintro e w1 ⟨rfl, hb⟩
    have B1 := hid (hB1.out.trans (hb.out.mono hB1.out.size))
    have x0' : w1.cell? ⟨w.heap.size, 0, none⟩ = some (.int .i64 a1) := (B1.out.cell (p := ⟨w.heap.size, 0, none⟩) (by show w.heap.size < _; omega)).trans x0
    have x1' : w1.cell? ⟨w.heap.size, 1, none⟩ = some (.int .i64 a2) := (B1.out.cell (p := ⟨w.heap.size, 1, none⟩) (by show w.heap.size < _; omega)).trans x1
    have y0' : w1.cell? ⟨w.heap.size + 1, 0, none⟩ = some (.int .i64 b1) := (B1.out.cell (p := ⟨w.heap.size + 1, 0, none⟩) hw2).trans y0
    have y1' : w1.cell? ⟨w.heap.size + 1, 1, none⟩ = some (.int .i64 b2) := (B1.out.cell (p := ⟨w.heap.size + 1, 1, none⟩) hw2).trans y1
    clear CB hb
    go_wp2_with (go_at_call 35; refine (CF.out _).mono ?_; rintro e w2 ⟨rfl, hb2⟩)
    go_ret2
    exact ⟨by simp, hid (B0.out.trans ((B1.out.trans (hb2.out.mono B1.out.size)).mono hws))⟩

end Go.Proofs.Ythklhhgkklpbkaa
