/- Ether, the program: bytes.Clone, twin, bad. -/
import Derived.Test.YtbpijlghdpflgaaDoorYlo
namespace Go.Proofs.YtbpijlghdpflgaaDoor.Eth
open Go.RowKit Go.Shelf Go.Lib

/-- What Clone leaves: the same bytes in a row of the call's own. -/
def ClnR (w : World) (n : Nat) (t : List Nat) (e : Ending) (w' : World) : Prop := ∃ A' c', e = .returned (.slice A' n c') ∧ Hid (Gw w' w.heap.size 5 1 (.slice A' n c') n (cellsB t) ∧ Below w.heap.size w w')
set_option maxHeartbeats 1600000 in
set_option maxRecDepth 100000 in
theorem clone_any {w : World} {B n c : Nat} {A : Option Addr} {t : List Nat} (h : Gs w B A n c 1 (cellsB t)) (hB : B ≤ w.heap.size) (hn : n ≤ 50000) :
    Calls Tryd.prog 44 #[.slice A n c] w (ClnR w n t) := by
  have H := hid (h.mono hB)
  clear hB
  cases A with
  | none =>
    obtain ⟨rfl, rfl⟩ := h.nil rfl
    have ht : t = [] := by have := h.blen; exact List.length_eq_zero_iff.1 (by omega)
    subst ht
    have heq : ∀ w, (binOp .eql 26 (.slice none 0 0) (.slice none 0 0)).run Tryd.prog w = .ok (.bool true) w := fun w => Lib.run_eql_slice_nil w 26 5 none 0 0 0 0 Tryd.underlying26
    clear h
    go_enter Tryd.func44, Tryd.ntmps44
    go_wp2_with (simp only [heq])
    go_ret
    exact ⟨none, 0, rfl, hid ⟨Gw.nil _ _ _ _, Below.refl _ _⟩⟩
  | some a =>
    clear h
    have hcap := H.out.cap
    have heq : ∀ w, (binOp .eql 26 (.slice (some a) n c) (.slice none 0 0)).run Tryd.prog w = .ok (.bool false) w := fun w => Lib.run_eql_slice_nil w 26 5 (some a) n c 0 0 Tryd.underlying26
    obtain ⟨W1, hW1⟩ : ∃ W1, W1 = w.alloc (.cells #[] 5) := ⟨_, rfl⟩
    have b1 := hid (show Below w.heap.size w W1 from hW1 ▸ (Below.refl _ w).alloc (Nat.le_refl _) _)
    have r1 := hid (show W1.heap[w.heap.size]? = some (.cells #[] 5 (0, 0)) from hW1 ▸ heap_alloc_new w _)
    have O1 := hid (show Gw W1 w.heap.size 5 1 (.slice (some ⟨w.heap.size, 0, none⟩) 0 0) 0 [] from Gw.none' r1.out (Nat.le_refl _) (by unfold maxLen; omega) rfl)
    have H1 := hid (H.out.below b1.out)
    have HW1 := hid hW1
    clear hW1
    go_enter Tryd.func44, Tryd.ntmps44
    go_wp2_with (first
      | simp only [heq]
      | (at_builtin
         rw [← HW1.out]
         refine list_appB (v := .slice (some ⟨w.heap.size, 0, none⟩) 0 0) rfl _ _ rfl rfl rfl O1.out H1.out (by omega) b1.out.size ?_
         intro v2 w2 T2
         rw [Nat.zero_add, List.nil_append] at T2
         have b2 := hid (b1.out.trans (T2.out.below O1.out b1.out.size))
         have O2 := hid T2.out.own
         obtain ⟨A2, c2', rfl, g2, m2, a2, o2⟩ := T2.out.own.form
         clear g2 m2 a2 o2)
      | fail)
    go_ret
    exact ⟨_, _, rfl, hid ⟨O2.out, b2.out⟩⟩

/-- An own text, as the copy's text. -/
theorem own_tow {w : World} {B n c : Nat} {A : Option Addr} {t : List Nat} {x y : Int} {s : Bool} (h : Gw w B 5 1 (.slice A n c) n (cellsB t)) (hf : ∀ b ∈ t, b < 256) :
    Tow w (fun k => B ≤ k) (x, y, (A, n, c), s) ∧ Crd w w.heap.size (x, y, (A, n, c), s) (x, y, t, s) := by
  have hT : Tow w (fun k => B ≤ k) (x, y, (A, n, c), s) := fun h0 => by
    rcases h.own.2 with ⟨e, e0⟩ | ⟨b, cap, cur, e, hB, hh, hm, _, hs, _⟩
    · exact absurd h0 (by rw [e0]; exact Nat.lt_irrefl 0)
    · injection e with e1 e2 e3
      subst e1 e3
      exact ⟨b, 0, cur, rfl, hB, hh, by show 0 + n ≤ _; omega⟩
  obtain ⟨A', c', e, hG, _⟩ := h.form
  injection e with e1 e2 e3
  subst e1 e3
  exact ⟨hT, Crd.in_ hG hf⟩
/-- What twin leaves. -/
def TwcR (w : World) (n : Nat) (x y : Int) (t : List Nat) (s : Bool) (e : Ending) (w' : World) : Prop := ∃ A' c', e = .returned (.agg #[.int .i64 x, .int .i64 y, .slice A' n c', .bool s]) ∧
  Hid (Tow w' (fun k => w.heap.size ≤ k) (x, y, (A', n, c'), s) ∧ Crd w' w'.heap.size (x, y, (A', n, c'), s) (x, y, t, s) ∧ Below w.heap.size w w')
set_option maxHeartbeats 3200000 in
set_option maxRecDepth 100000 in
theorem tw_any {w : World} {B n c : Nat} {x y : Int} {A : Option Addr} {t : List Nat} {s : Bool} (h : Gs w B A n c 1 (cellsB t)) (hf : ∀ b ∈ t, b < 256) (hB : B ≤ w.heap.size) (hn : n ≤ 50000) :
    Calls Tryd.prog 39 #[.agg #[.int .i64 x, .int .i64 y, .slice A n c, .bool s]] w (TwcR w n x y t s) := by
  obtain ⟨W, hW⟩ : ∃ W, W = (w.alloc (.cells #[.int .i64 x, .int .i64 y, .slice A n c, .bool s] 28)).alloc (.cells #[.int .i64 0, .int .i64 0, .slice none 0 0, .bool false] 28) := ⟨_, rfl⟩
  have B0 := hid (show Below w.heap.size w W from hW ▸ below_two w _ _)
  have X0 := hid (show Cbx W w.heap.size x y A n c s from hW ▸ (heap_two w _ _).1)
  have Y0 := hid (show Cbx W (w.heap.size + 1) 0 0 none 0 0 false from hW ▸ (heap_two w _ _).2)
  have Z0 := hid (show W.heap.size = w.heap.size + 1 + 1 by rw [hW]; simp)
  have x2 := X0.out.c2
  have HC := hid (clone_any ((h.mono hB).below B0.out) B0.out.size hn)
  have HF := hid hf
  have HW := hid hW
  clear hW h hf hB
  go_enter Tryd.func39, Tryd.ntmps39
  go_upto_region 1 with fail
  rw [← HW.out]
  go_wp2_with (first
    | (go_at_call 44
       refine HC.out.mono ?_
       rintro e w1 ⟨A1, c1, rfl, h1⟩
       have B1 := hid (gbelow_on B0.out (Nat.le_refl _) h1.out.2)
       have X1 := hid (X0.out.below h1.out.2 X0.out.lt)
       have Y1 := hid (Y0.out.below h1.out.2 Y0.out.lt)
       have O1 := hid h1.out.1
       clear h1)
    | (refine gput_cell (P := Tryd.prog) rfl _ (.tmp 6) (.tmp 5) rfl w.heap.size 2 (.slice A1 n c1) 28 _ #[.int .i64 x, .int .i64 y, .slice A1 n c1, .bool s] rfl rfl rfl sizeB8 X1.out (show (2 : Nat) < 4 by decide) rfl ?_
       intro w3 x3 q3
       have X3 := hid (show Cbx w3 w.heap.size x y A1 n c1 s from x3)
       have d0 := X3.out.c0
       have d1 := X3.out.c1
       have d2 := X3.out.c2
       have d3 := X3.out.c3
       have Y3 := hid (show Cbx w3 (w.heap.size + 1) 0 0 none 0 0 false from q3.at Y1.out (by omega))
       have B3 := hid (q3.bel B1.out (Nat.le_refl _))
       have K3 := hid (own_text (x := x) (y := y) (s := s) O1.out q3 (show w.heap.size < W.heap.size by have := Z0.out; omega) HF.out)
       clear x3 q3)
    | (refine gput_row (P := Tryd.prog) rfl _ (.tmp 2) (.tmp 7) rfl (w.heap.size + 1) 28 _ #[.int .i64 x, .int .i64 y, .slice A1 n c1, .bool s] rfl rfl Y3.out rfl sizeC (arr_one _ _ _ _ _ _) ?_
       intro w4 x4 q4
       have B4 := hid (q4.bel B3.out (Nat.le_succ _))
       have K4 := hid (show Keep8 (fun k => W.heap.size ≤ k) w3 w4 from ⟨Nat.le_of_eq q4.size, fun k cur hk _ => q4.block k (fun e => by have h1 := Z0.out; have h2 : W.heap.size ≤ k := hk; omega)⟩)
       have T4 := hid ((K3.out.1.kept K4.out).mono (T := fun k => w.heap.size ≤ k) (fun q (hq : W.heap.size ≤ q) => Nat.le_trans B0.out.size hq))
       have C4 := hid (K3.out.1.crd K3.out.2 K4.out))
    | fail)
  refine ret_copy1 (g := w.heap.size + 1) (x := x) (y := y) (A := A1) (n := n) (c := c1) (s := s) rfl rfl rfl x4 ?_
  exact ⟨_, _, rfl, hid ⟨T4.out, C4.out, B4.out⟩⟩

set_option maxHeartbeats 3200000 in
set_option maxRecDepth 100000 in
theorem bad_any {w : World} {B n c : Nat} {x y : Int} {A : Option Addr} {t : List Nat} {s : Bool} (h : Gs w B A n c 1 (cellsB t)) :
    Calls Tryd.prog 21 #[.agg #[.int .i64 x, .int .i64 y, .slice A n c, .bool s]] w fun e w' => e = .returned (.bool (decide (¬ MayC (x, y, t, s)))) ∧ Hid (Below w.heap.size w w') := by
  have hl := hid h.blen
  clear h
  obtain ⟨W, hW⟩ : ∃ W, W = w.alloc (.cells #[.int .i64 x, .int .i64 y, .slice A n c, .bool s] 28) := ⟨_, rfl⟩
  have B0 := hid (show Below w.heap.size w W from hW ▸ (Below.refl _ w).alloc (Nat.le_refl _) _)
  have X0 := hid (show Cbx W w.heap.size x y A n c s from hW ▸ Cbx.new w x y A n c s)
  have x0 := X0.out.c0
  have x1 := X0.out.c1
  have x2 := X0.out.c2
  have HW := hid hW
  clear hW
  by_cases z1 : x < 0
  case pos =>
    rw [decide_eq_true (show ¬ MayC (x, y, t, s) from fun h => by obtain ⟨⟨a1, a2⟩, ⟨a3, a4⟩, a5, a6⟩ := h; have := hl.out; simp only at a1 a2 a3 a4 a5 a6; omega)]
    go_enter Tryd.func21, Tryd.ntmps21
    go_upto_region 1 with fail
    rw [← HW.out]
    go_wp2
    go_ret
    exact ⟨rfl, B0⟩
  by_cases z2 : x > 1048575
  case pos =>
    rw [decide_eq_true (show ¬ MayC (x, y, t, s) from fun h => by obtain ⟨⟨a1, a2⟩, ⟨a3, a4⟩, a5, a6⟩ := h; have := hl.out; simp only at a1 a2 a3 a4 a5 a6; omega)]
    go_enter Tryd.func21, Tryd.ntmps21
    go_upto_region 1 with fail
    rw [← HW.out]
    go_wp2
    go_ret
    exact ⟨rfl, B0⟩
  by_cases z3 : y < 0
  case pos =>
    rw [decide_eq_true (show ¬ MayC (x, y, t, s) from fun h => by obtain ⟨⟨a1, a2⟩, ⟨a3, a4⟩, a5, a6⟩ := h; have := hl.out; simp only at a1 a2 a3 a4 a5 a6; omega)]
    go_enter Tryd.func21, Tryd.ntmps21
    go_upto_region 1 with fail
    rw [← HW.out]
    go_wp2
    go_ret
    exact ⟨rfl, B0⟩
  by_cases z4 : y ≥ 8
  case pos =>
    rw [decide_eq_true (show ¬ MayC (x, y, t, s) from fun h => by obtain ⟨⟨a1, a2⟩, ⟨a3, a4⟩, a5, a6⟩ := h; have := hl.out; simp only at a1 a2 a3 a4 a5 a6; omega)]
    go_enter Tryd.func21, Tryd.ntmps21
    go_upto_region 1 with fail
    rw [← HW.out]
    go_wp2
    go_ret
    exact ⟨rfl, B0⟩
  by_cases z5 : (n : Int) < 1
  case pos =>
    rw [decide_eq_true (show ¬ MayC (x, y, t, s) from fun h => by obtain ⟨⟨a1, a2⟩, ⟨a3, a4⟩, a5, a6⟩ := h; have := hl.out; simp only at a1 a2 a3 a4 a5 a6; omega)]
    go_enter Tryd.func21, Tryd.ntmps21
    go_upto_region 1 with fail
    rw [← HW.out]
    go_wp2
    go_ret
    exact ⟨rfl, B0⟩
  by_cases z6 : (n : Int) > 4105
  case pos =>
    rw [decide_eq_true (show ¬ MayC (x, y, t, s) from fun h => by obtain ⟨⟨a1, a2⟩, ⟨a3, a4⟩, a5, a6⟩ := h; have := hl.out; simp only at a1 a2 a3 a4 a5 a6; omega)]
    go_enter Tryd.func21, Tryd.ntmps21
    go_upto_region 1 with fail
    rw [← HW.out]
    go_wp2
    go_ret
    exact ⟨rfl, B0⟩
  rw [decide_eq_false (show ¬ ¬ MayC (x, y, t, s) from fun h => h ⟨⟨by show 0 ≤ x; omega, by show x ≤ 1048575; omega⟩, ⟨by show 0 ≤ y; omega, by show y < 8; omega⟩, by have := hl.out; show 1 ≤ t.length; omega, by have := hl.out; show t.length ≤ 4105; omega⟩)]
  go_enter Tryd.func21, Tryd.ntmps21
  go_upto_region 1 with fail
  rw [← HW.out]
  go_wp2
  go_ret
  exact ⟨rfl, B0⟩
end Go.Proofs.YtbpijlghdpflgaaDoor.Eth
