/- The queue's Pop; a heap's Push and Pop. -/
import Derived.Test.YtgcmljnjfghagaaTt
namespace Go.Proofs.Ytgcmljnjfghagaa.Tm
open Go.RowKit Go.Shelf Go.Lib
set_option maxRecDepth 100000

/-- The queue is a heap of the timers m. -/
def HeapS (w : World) (B g : Nat) (m : List De) (w' : World) : Prop := ∃ l', Holds w B g l' w' ∧ l'.Perm m ∧ Hn l' l'.length

theorem Od.cut' {w : World} {B n c : Nat} {A : Option Addr} {l : List De} (h : Od w B (.slice A n c) l) {i : Nat} (hi : i ≤ n) : Od w B (.slice A i c) (l.take i) := by
  obtain rfl := h.row_len
  exact Od.cut h hi

set_option maxHeartbeats 3200000 in
theorem hpush_any {w : World} {B g : Nat} {v : Value} {l : List De} {d1 d2 : Int} (h : Qu w B g v l) (hn : l.length < 99999) (hh : Hn l l.length) :
    Calls Try.prog 48 #[.iface 53 (.pointer (some ⟨g, 0, none⟩)), .iface 23 (.agg #[.int .i64 d1, .int .i64 d2])] w fun e w' => e = .returned (.tuple #[]) ∧ Hid (HeapS w B g ((d1, d2) :: l) w') := by
  obtain ⟨N, hN⟩ : ∃ N, N = l.length := ⟨_, rfl⟩
  have CP := hid (push_any (d1 := d1) (d2 := d2) h (by omega))
  have HH := hid hh
  have HN := hid hN
  have hNb : N < 99999 := by omega
  have hB := hid h.size
  clear h hh hn hN
  go_enter Try.func48, Try.ntmps48
  go_wp2_with (first
    | rw [meth_push (by decide)]
    | (go_at_call 47; with_reducible refine CP.out.mono ?_; rintro e w1 ⟨rfl, H1⟩
       obtain ⟨v1, Q1, B1⟩ := H1.out
       obtain ⟨A, n, c, rfl, _, _⟩ := od_letter Q1.od
       obtain rfl : n = N + 1 := (by have := Q1.od.row_len; rw [List.length_append] at this; have h2 := HN.out; simp at this; omega)
       have hc := Q1.c0
       have CL : Hid (Calls Try.prog 49 #[.slice A (N + 1) c] w1 fun e w' => e = .returned (.int .i64 ((N : Int) + 1)) ∧ w1 = w') := hid (len_any (w := w1) (A := A) (n := N + 1) (c := c))
       have CU := hid (up_any (w := w1) Q1 (j := l.length) (by rw [List.length_append]; exact Nat.lt_succ_self _) (up_start HH.out))
       rw [← HN.out] at CU)
    | rw [meth_len (by decide) hc]
    | (go_at_call 49; with_reducible refine CL.out.mono ?_; rintro e w2 ⟨rfl, rfl⟩)
    | (go_at_call 51; with_reducible refine CU.out.mono ?_; rintro e w3 ⟨rfl, H3⟩)
    | fail)
  go_end0
  obtain ⟨l', q1, q2, q3, q4⟩ := H3.out
  refine ⟨rfl, hid ⟨l', ⟨_, q1, B1.trans q4⟩, q2.trans (List.perm_append_comm (l₁ := l) (l₂ := [(d1, d2)])), q3⟩⟩

/-- What a Pop of the queue leaves. -/
def PopS (w : World) (B g : Nat) (v : Value) (l' : List De) (w' : World) : Prop := ∃ v', Qu w' B g v' l' ∧ v'.ownBlock = v.ownBlock ∧ Kp g v.ownBlock w w'

set_option maxHeartbeats 3200000 in
theorem qpop_any {w : World} {B g n : Nat} {v : Value} {l : List De} {t : De} (h : Qu w B g v l) (hn : l.length = n + 1) (ht : l[n]? = some t) :
    Calls Try.prog 71 #[.pointer (some ⟨g, 0, none⟩)] w fun e w' => e = .returned (av t) ∧ Hid (PopS w B g v (l.take n) w') := by
  obtain ⟨A, m, c, rfl, _, _⟩ := od_letter h.od
  obtain rfl : m = n + 1 := by rw [← hn]; exact h.od.row_len.symm
  obtain ⟨a, rfl⟩ : ∃ a, A = some ⟨a, 0, none⟩ := by
    rcases h.od.own.2 with ⟨e, h0⟩ | ⟨a, cap, cur, e, _⟩
    · omega
    · injection e with e1 _ _
      exact ⟨a, e1⟩
  obtain ⟨_, hBa, haw, hcap, _, hcells⟩ := h.od.row
  obtain ⟨c1, c2⟩ := hcells n t ht
  have hm : n + 1 ≤ 100000 := by rw [← hn]; exact h.od.max
  have c0 := h.c0
  have HQ := hid h
  have hc63 : c ≤ 9223372036854775807 := by
    obtain ⟨A', c', e, _, hcm, _⟩ := h.od.form
    injection e with _ _ e3
    subst e3
    unfold maxLen at hcm
    omega
  have CL := hid (len_any (w := w) (A := some ⟨a, 0, none⟩) (n := n + 1) (c := c))
  have HA := hid (And.intro haw h.ne)
  obtain ⟨t1, t2⟩ := t
  change w.cell? ⟨a, n * 2, none⟩ = some (.int .i64 t1) at c1
  change w.cell? ⟨a, n * 2 + 1, none⟩ = some (.int .i64 t2) at c2
  obtain ⟨W1, hW1⟩ : ∃ W1, W1 = w.alloc (.cells #[.int .i64 t1, .int .i64 t2] 23) := ⟨_, rfl⟩
  have B1 : Hid (Below w.heap.size w W1) := hid (hW1 ▸ box1 w t1 t2)
  have X1 : Hid (W1.heap[w.heap.size]? = some (.cells #[.int .i64 t1, .int .i64 t2] 23 (0, 0))) := hid (hW1 ▸ heap_alloc_new w _)
  have Q1 := hid (h.below B1.out)
  have d0 := Q1.out.c0
  have df : W1.frozen? ⟨g, 0, none⟩ = false := frozen_of_row W1 g 0 _ _ Q1.out.box
  have HT := hid ht
  clear h hcells ht hn haw hBa
  have hgs : Hid (g ≠ w.heap.size) := hid (by have := lt_of_heap HQ.out.box; omega)
  have HW1 := hid hW1
  go_enter Try.func71, Try.ntmps71
  go_upto_region 3 with (first
    | (go_at_call 49; with_reducible refine CL.out.mono ?_; rintro e w2 ⟨rfl, rfl⟩)
    | fail)
  rw [← HW1.out]
  clear hW1 HW1
  have x0 : W1.cell? ⟨w.heap.size, 0, none⟩ = some (.int .i64 t1) := (cell_of_row W1 _ 0 _ _ (0, 0) X1.out).trans rfl
  have x1 : W1.cell? ⟨w.heap.size, 1, none⟩ = some (.int .i64 t2) := (cell_of_row W1 _ 1 _ _ (0, 0) X1.out).trans rfl
  have hgs2 := hgs.out
  go_wp2
  go_ret
  have HS := Qu.store (w1 := W1) (l' := l.take n) (v' := .slice (some ⟨a, 0, none⟩) n c) Q1.out ⟨Od.cut' Q1.out.od (Nat.le_succ n), grown_self _ _, .inl rfl⟩
  refine ⟨rfl, hid ⟨_, HS.2.1, rfl, (Kp.bel B1.out).trans ⟨rfl, rfl, rfl, by simp [World.setCell], fun k _ hk _ => Below.heap_setCell W1 ⟨g, 0, none⟩ _ k hk⟩⟩⟩

/-- What a Pop of the heap leaves. -/
def HPopS (w : World) (B g : Nat) (v : Value) (l : List De) : Ending → World → Prop := fun e w' => ∃ x l', e = .returned (av x) ∧ Hid (PopS w B g v l' w' ∧ (x :: l').Perm l ∧ Hn l' l'.length ∧ ∀ y ∈ l, le x y)

set_option maxHeartbeats 3200000 in
theorem hpop_any {w : World} {B g n : Nat} {v : Value} {l : List De} (h : Qu w B g v l) (hn : l.length = n + 1) (hh : Hn l l.length) :
    Calls Try.prog 50 #[.iface 53 (.pointer (some ⟨g, 0, none⟩))] w (HPopS w B g v l) := by
  obtain ⟨A, m, c, rfl, _, _⟩ := od_letter h.od
  obtain rfl : m = n + 1 := by rw [← hn]; exact h.od.row_len.symm
  obtain ⟨x, hx⟩ : ∃ x, l[0]? = some x := ⟨_, List.getElem?_eq_getElem (by omega)⟩
  obtain ⟨y, hy⟩ : ∃ y, l[n]? = some y := ⟨_, List.getElem?_eq_getElem (by omega)⟩
  have c0 := h.c0
  have HQ := hid h
  have hnb : n < 100000 := by have := h.od.max; omega
  have CL : Hid (Calls Try.prog 49 #[.slice A (n + 1) c] w fun e w' => e = .returned (.int .i64 ((n : Int) + 1)) ∧ w = w') := hid (len_any (w := w) (A := A) (n := n + 1) (c := c))
  have CS : Hid (Calls Try.prog 72 #[.slice A (n + 1) c, .int .i64 0, .int .i64 n] w fun e w' => e = .returned (.tuple #[]) ∧ Hid (Od w' B (.slice A (n + 1) c) (sw l 0 n x y) ∧ w.grownBy w' (Value.slice A (n + 1) c).ownBlock)) := hid (swap_any h.od hx hy)
  have HN := hid hn
  have HH := hid hh
  have HX := hid (And.intro hx hy)
  have CE : Hid (∀ X, Qu X B g (.slice A (n + 1) c) (sw l 0 n x y) → Calls Try.prog 52 #[.iface 53 (.pointer (some ⟨g, 0, none⟩)), .int .i64 0, .int .i64 n] X (DownR fun w' => ∃ l', Qu w' B g (.slice A (n + 1) c) l' ∧ l'.Perm (sw l 0 n x y) ∧ Hn l' n ∧ l'[n]? = some x ∧ Kp g (Value.slice A (n + 1) c).ownBlock X w')) := hid fun X hX => down_any hX (by rw [sw_length]; exact hn) (dn_start (hn ▸ hh) hn) (by rw [sw_get _ (by omega) (by omega), if_pos rfl])
  have CF : Hid (∀ X l2, Qu X B g (.slice A (n + 1) c) l2 → l2[n]? = some x → Calls Try.prog 71 #[.pointer (some ⟨g, 0, none⟩)] X fun e w' => e = .returned (av x) ∧ Hid (PopS X B g (.slice A (n + 1) c) (l2.take n) w')) := hid fun X l2 hX hl2 => qpop_any hX hX.od.row_len hl2
  unfold DownR at CE
  clear h hn hh hx hy
  go_enter Try.func50, Try.ntmps50
  go_wp2_with (first
    | rw [meth_len (by decide) c0]
    | (go_at_call 49; with_reducible refine CL.out.mono ?_; rintro e w1 ⟨rfl, rfl⟩)
    | rw [meth_swap (by decide) c0]
    | (go_at_call 72; with_reducible refine CS.out.mono ?_; rintro e w2 ⟨rfl, H2⟩
       have Q2 := hid (HQ.out.turned H2.out.1 H2.out.2)
       have K2 := hid (Kp.grown (g := g) H2.out.2)
       have CE2 := hid (CE.out w2 Q2.out)
       clear CE)
    | (go_at_call 52; with_reducible refine CE2.out.mono ?_; rintro e w3 ⟨d, rfl, H3⟩
       obtain ⟨l3, q3, p3, h3, t3, k3⟩ := H3.out
       have CF2 := hid (CF.out w3 l3 q3 t3)
       have HQ3 := hid (And.intro q3 (And.intro p3 (And.intro h3 (And.intro t3 k3))))
       clear CF q3 p3 h3 t3 k3 H3)
    | rw [meth_pop (by decide)]
    | (go_at_call 71; with_reducible refine CF2.out.mono ?_; rintro e w4 ⟨rfl, H4⟩)
    | fail)
  go_ret
  obtain ⟨q3, p3, h3, t3, k3⟩ := HQ3.out
  obtain ⟨v4, q4, o4, k4⟩ := H4.out
  have hl3 : l3.length = n + 1 := q3.od.row_len
  refine ⟨x, l3.take n, rfl, hid ⟨⟨v4, q4, o4, (K2.out.trans k3).trans k4⟩, ((take_perm hl3 t3).trans p3).trans (sw_perm HX.out.1 HX.out.2), ?_, root HH.out HX.out.1⟩⟩
  exact hn_take h3 (by omega)
end Go.Proofs.Ytgcmljnjfghagaa.Tm
