/- The document's Check, Same and Twin of caches. -/
import Derived.Test.YtdemhghflanncaaCmay
namespace Go.Proofs.Ytdemhghflanncaa
open Go.RowKit Go.Shelf Go.Lib

/-- What Check tells. -/
def cchk (o p : Int) (l : List De) : Int := if CMay o p l then 0 else 8

set_option maxHeartbeats 3200000 in
theorem rcsame_any {w : World} {B C n c m d : Nat} {A D : Option Addr} {l r : List De} (o p o' p' : Int) (h : Ds w B A n c l) (k : Ds w C D m d r) (hB : B ≤ w.heap.size) (hC : C ≤ w.heap.size) :
    Calls Try.prog 20 #[cav o p (.slice A n c), cav o' p' (.slice D m d)] w fun e w' => e = .returned (.bool (decide (o = o' ∧ p = p' ∧ l = r))) ∧ Hid (Below w.heap.size w w') := by
  have B0 := hid (((Below.refl w.heap.size w).alloc (Nat.le_refl _) (.cells #[.int .i64 o, .int .i64 p, .slice A n c] 29)).alloc (by simp) (.cells #[.int .i64 o', .int .i64 p', .slice D m d] 29))
  have CM := hid (rsame_any ((h.mono hB).below B0.out) ((k.mono hC).below B0.out) B0.out.size B0.out.size)
  clear h hB k hC
  unfold cav
  by_cases h1 : o = o'
  case neg =>
    rw [decide_eq_false (show ¬ (o = o' ∧ p = p' ∧ l = r) from fun h => h1 h.1)]
    clear CM
    go_enter Try.func20, Try.ntmps20
    go_wp2_with fail
    go_ret
    exact ⟨rfl, B0⟩
  subst h1
  by_cases h2 : p = p'
  case neg =>
    rw [decide_eq_false (show ¬ (o = o ∧ p = p' ∧ l = r) from fun h => h2 h.2.1)]
    clear CM
    go_enter Try.func20, Try.ntmps20
    go_wp2_with fail
    go_ret
    exact ⟨rfl, B0⟩
  subst h2
  rw [show decide (o = o ∧ p = p ∧ l = r) = decide (l = r) by simp]
  generalize decide (l = r) = q at CM ⊢
  go_enter Try.func20, Try.ntmps20
  go_wp2_with fail
  refine CM.out.mono ?_
  rintro e w1 ⟨rfl, hb⟩
  go_wp2
  go_ret
  exact ⟨rfl, hid (B0.out.trans (hb.out.mono B0.out.size))⟩

theorem Od.set {w : World} {B : Nat} {v : Value} {l : List De} (h : Od w B v l) {a : Addr} (ha : a.block < B) (u : Value) : Od (w.setCell a u) B v l := ⟨ownsRow_setCell_below h.own ha u, h.max⟩
theorem Od.putC {w : World} {B g : Nat} {v u : Value} {l : List De} {o p : Int} (h : Od w B v l) (hg : g < B) : Od (putC w g o p u) B v l := ((h.set (a := ⟨g, 0, none⟩) hg _).set (a := ⟨g, 1, none⟩) hg _).set (a := ⟨g, 2, none⟩) hg _
/-- A cut of an own list. -/
theorem Od.cut {w : World} {B c : Nat} {A : Option Addr} {l : List De} (h : Od w B (.slice A l.length c) l) {k : Nat} (hk : k ≤ l.length) : Od w B (.slice A k c) (l.take k) := by
  obtain ⟨⟨hl, hor⟩, hm⟩ := h
  have hlk : (l.take k).length = k := by rw [List.length_take]; omega
  refine ⟨⟨by rw [cellsD_length], ?_⟩, by rw [hlk]; omega⟩
  rcases hor with ⟨e, h0⟩ | ⟨g, cap, cur, e, hB, hg, hn, hc, hs, ht⟩
  · injection e with e1 e2 e3
    subst e1
    subst e3
    refine .inl ⟨?_, by omega⟩
    rw [show k = 0 by omega]
  · injection e with e1 e2 e3
    subst e1
    subst e3
    refine .inr ⟨g, c, cur, by rw [hlk], hB, hg, by omega, hc, hs, ?_⟩
    rw [hlk, ← cellsD_take, ← ht, List.take_take]
    congr 1
    omega
theorem heap2_0 (w : World) (a b : Obj) : ((w.alloc a).alloc b).heap[w.heap.size]? = some a := (Below.heap_alloc _ b _ (by simp)).trans (heap_alloc_new w a)
theorem heap2_1 (w : World) (a b : Obj) : ((w.alloc a).alloc b).heap[w.heap.size + 1]? = some b := heap_alloc2_new w a b

set_option maxHeartbeats 3200000 in
theorem rctwin_any {w : World} {B n c : Nat} {A : Option Addr} {l : List De} (o p : Int) (h : Ds w B A n c l) (hB : B ≤ w.heap.size) (hn : n ≤ 1000) :
    Calls Try.prog 14 #[cav o p (.slice A n c)] w fun e w' => ∃ v, e = .returned (cav o p v) ∧ Hid (Od w' w.heap.size v l ∧ Below w.heap.size w w') := by
  have H := hid (h.mono hB)
  have HL := hid h.len
  have hcap := h.cap
  clear h hB
  obtain ⟨W, hW⟩ : ∃ W, W = (w.alloc (.cells #[.int .i64 o, .int .i64 p, .slice A n c] 29)).alloc (.cells #[.int .i64 0, .int .i64 0, .slice none 0 0] 29) := ⟨_, rfl⟩
  have B0 := hid (show Below w.heap.size w W from hW ▸ ((Below.refl _ w).alloc (Nat.le_refl _) _).alloc (by simp) _)
  have hz : W.heap.size = w.heap.size + 1 + 1 := by rw [hW]; simp
  have X0 := hid (show Cbox W w.heap.size o p (.slice A n c) from hW ▸ heap2_0 w _ _)
  have X1 := hid (show Cbox W (w.heap.size + 1) 0 0 (.slice none 0 0) from hW ▸ heap2_1 w _ _)
  have HW := hid hW
  clear hW
  have HE := hid (od_at (heap_alloc_new W (.cells #[] 23)) (Nat.le_refl W.heap.size))
  have HD := hid ((H.out.below B0.out).below ((Below.refl w.heap.size W |>.mono (Nat.le_refl _)).alloc (by omega) (.cells #[] 23)))
  have hsz := hid (show W.heap.size ≤ (W.alloc (.cells #[] 23)).heap.size by simp)
  have Y0 := hid (X0.out.alloc (.cells #[] 23))
  have Y1 := hid (X1.out.alloc (.cells #[] 23))
  have BY := hid (B0.out.alloc B0.out.size (.cells #[] 23))
  have x2 := X0.out.c2
  rw [hz] at HE hsz
  unfold cav
  go_enter Try.func14, Try.ntmps14
  go_upto_region 1 with fail
  rw [← HW.out]
  clear HW
  go_upto_region 2 with (at_builtin; refine list_appD rfl (.tmp 3) (.tmp 5) rfl (v := .slice (some ⟨w.heap.size + 1 + 1, 0, none⟩) 0 0) (B := w.heap.size + 1 + 1) (l := []) (r := l) rfl rfl HE.out HD.out (by have := HL.out; simp only [List.length_nil]; omega) hsz.out ?_; intro v6 w6 HT; have HO := hid (show Od w6 (w.heap.size + 1 + 1) v6 l from HT.out.own); have BT := hid (HT.out.below (own_new (Nat.le_refl _)) hsz.out); clear HT; obtain ⟨A6, c6, rfl, hD6, _, _⟩ := HO.out.form; clear hD6; have X6 := hid (Y0.out.below BT.out (by omega)); have Y6 := hid (Y1.out.below BT.out (by omega)); have B6 := hid (BY.out.trans (BT.out.mono (by omega))); have x62 := X6.out.c2; have f62 := X6.out.frozen 2)
  clear HE HD Y0 Y1 BY B0 X0 X1 x2 hsz H
  have X7 := hid (put2_box (v' := .slice A6 l.length c6) X6.out)
  have Y7 := hid (show Cbox (w6.setCell ⟨w.heap.size, 2, none⟩ (.slice A6 l.length c6)) (w.heap.size + 1) 0 0 (.slice none 0 0) from (Below.heap_setCell w6 ⟨w.heap.size, 2, none⟩ _ (w.heap.size + 1) (by show w.heap.size + 1 ≠ w.heap.size; omega)).trans Y6.out)
  have B7 := hid (B6.out.setCell (p := ⟨w.heap.size, 2, none⟩) (Nat.le_refl _) (.slice A6 l.length c6))
  have HO7 := hid (HO.out.set (a := ⟨w.heap.size, 2, none⟩) (by show w.heap.size < _; omega) (.slice A6 l.length c6))
  generalize w6.setCell ⟨w.heap.size, 2, none⟩ (.slice A6 l.length c6) = W7 at X7 Y7 B7 HO7 ⊢
  have x0 := X7.out.c0
  have x1 := X7.out.c1
  have x2 := X7.out.c2
  have y0 := Y7.out.c0
  have y1 := Y7.out.c1
  have y2 := Y7.out.c2
  have z0 := Y7.out.frozen 0
  have z1 := Y7.out.frozen 1
  have z2 := Y7.out.frozen 2
  go_wp2
  refine ret_cache1 (g := w.heap.size + 1) (o := o) (q := p) (v := .slice A6 l.length c6) rfl rfl rfl Y7.out.store ?_
  exact ⟨_, rfl, hid ⟨(HO7.out.putC (by omega)).mono (by omega), below_putC B7.out (by omega)⟩⟩
end Go.Proofs.Ytdemhghflanncaa
