/- Best: one descriptor. -/
/- Best: of each node's descriptors the first one in order. -/
/- append of a list of descriptors onto one of the call's own. -/
/- The document's Sorted. -/
/- The document's Firsts. -/
/- Same of both sides. -/
/- Fresher of both sides; the document's Order and Best. -/
/- The laws' own helpers: four, alive. -/
/- A mail as it lies: its cells, its box; what is loaded out of it. -/
/- Words of mails: which may be, and which are the same. -/
/- The document's mails: edges, tags, and what is 0. -/
/- The document's May of a mail. -/
/- The document's Same of two mails: words. -/
/- Sums (CRC-32) as plain arithmetic: whole texts as one number, and what turned bits do to them. No code is walked here. -/
/- Package field: numbers and dyads as bytes, the highest digit first. No code is walked here. -/
import Derived.Test.YtbankbehfjogpaaGreatVad
import Derived.Deep.RegionHeld3
import Derived.Deep.DeepBigQuietO
import Derived.Laws.BitsLemmas
import Derived.Test.YtbankbehfjogpaaGreatVaa
namespace Go.Proofs.YtbankbehfjogpaaGreat
open Go.RowKit Go.Shelf Go.Lib
open Go.RowKit Go.Shelf Go.Lib
open Go.RowKit Go.Shelf Go.Lib
theorem Ds.cells {w : World} {B n c : Nat} {A : Option Addr} {l : List De} (h : Ds w B A n c l) {b off : Nat} (hA : A = some ⟨b, off, none⟩) : ∀ j u, (cellsD l)[j]? = some u → w.cell? ((⟨b, off, none⟩ : Addr).add j) = some u := by
  intro j u hj
  have hjl := (List.getElem?_eq_some_iff.1 hj).1
  rw [cellsD_length, h.len] at hjl
  obtain ⟨b', off', e, _, hc⟩ := h.at_ (by omega)
  rw [hA] at e
  injection e with e
  injection e with e1 e2
  subst e1
  subst e2
  obtain ⟨d, hd⟩ := h.get (show j / 2 < n by omega)
  obtain ⟨c1, c2⟩ := hc _ d hd
  obtain ⟨g1, g2⟩ := cellsD_get hd
  rw [Addr.add_lit]
  rcases Nat.mod_two_eq_zero_or_one j with h0 | h0
  · have e : j / 2 * 2 = j := by omega
    rw [e] at c1 g1
    rw [hj] at g1
    injection g1 with g1
    rw [g1]
    exact c1
  · have e : j / 2 * 2 + 1 = j := by omega
    rw [Nat.add_assoc, e] at c2
    rw [e] at g2
    rw [hj] at g2
    injection g2 with g2
    rw [g2]
    exact c2
theorem run_appD {w : World} {B C m c : Nat} {v : Value} {A : Option Addr} {l r : List De} (ty : TypeId) (hO : Od w B v l) (hD : Ds w C A m c r) (hn : l.length + m ≤ 100000) (hB : B ≤ w.heap.size) :
    ∃ v' w', (Builtin.append_ #[27, 27] ty #[v, .slice A m c]).run Tryz.prog w = .ok v' w' ∧ Turned w w' B v v' (l ++ r) := by
  obtain ⟨i0, hi0, hz0, hzs, hzb⟩ := info_parts infoD
  rcases Nat.eq_zero_or_pos m with h0 | h0
  · subst h0
    obtain rfl := List.length_eq_zero_iff.1 hD.len
    refine ⟨v, w, ?_, ⟨by rw [List.append_nil]; exact hO, ⟨rfl, rfl, rfl, Nat.le_refl _, fun _ _ _ => rfl⟩, .inl rfl⟩⟩
    obtain ⟨D, d, rfl, hF, _⟩ := hO.form
    have hc := hF.cap
    cases D with
    | none =>
      obtain ⟨e1, e2⟩ := hF.nil rfl
      rw [e1, e2]
      cases A <;> simp [Builtin.append_, run_underlying Tryz.underlying27, sizeOf, typeInfo, hi0, Builtin.lenOf, Builtin.firstCells, loadCells, loadCellsFrom]
    | some a =>
      cases A <;> simp [Builtin.append_, run_underlying Tryz.underlying27, sizeOf, typeInfo, hi0, Builtin.lenOf, Builtin.firstCells, loadCells, loadCellsFrom, storeCells, hc]
  · obtain ⟨b, off, rfl, _, _⟩ := hD.at_ h0
    obtain ⟨v', w', hr, h2, h3, _, h5⟩ := run_append_own_at (P := Tryz.prog) w B 27 ty 73 i0 _ 2 16 Tryz.underlying27 hi0 hz0 hzs hzb rfl (by decide) v l.length _ hO.own ⟨b, off, none⟩ m c (cellsD r) (by rw [cellsD_length, hD.len]) (hD.cells rfl) (cellsD_one_cell r) (by unfold maxLen; omega) (by omega) hB
    refine ⟨v', w', hr, ⟨⟨?_, by rw [List.length_append, hD.len]; exact hn⟩, h3, h5⟩⟩
    rw [List.length_append, hD.len, cellsD_append]
    exact h2
theorem list_appD {w : World} {ops : Array Oper} {rest : List Oper} {o : Oper} {a : Act} {Q : Exit → Act → World → Prop} (hgd : o.guard = none) (s x : Operand)
    (ho : o.op = .call { callee := .builtin .append, args := #[s, x], argTypes := #[27, 27] }) {B C m c : Nat} {v : Value} {A : Option Addr} {l r : List De} (hs : a.eval s = v) (hx : a.eval x = .slice A m c)
    (hO : Od w B v l) (hD : Ds w C A m c r) (hn : l.length + m ≤ 100000) (hB : B ≤ w.heap.size)
    (h : ∀ v' w', Hid (Turned w w' B v v' (l ++ r)) → wpList Tryz.prog ops Q rest (a.put o.dst v') w') : wpList Tryz.prog ops Q (o :: rest) a w := by
  obtain ⟨v', w', hr, hT⟩ := run_appD o.type hO hD hn hB
  exact Lib.wpList_append_run w hgd s x _ _ ho _ _ hs hx v' w' hr (h v' w' (hid hT))
open Go.RowKit Go.Shelf Go.Lib
theorem od_at {X : World} {B N : Nat} (h : X.heap[N]? = some (.cells #[] 73 (0, 0))) (hB : B ≤ N) : Od X B (.slice (some ⟨N, 0, none⟩) 0 0) [] :=
  ⟨⟨by simp [cellsD], .inr ⟨N, 0, #[], rfl, hB, h, Nat.le_refl _, by unfold maxLen; omega, rfl, rfl⟩⟩, by simp⟩
theorem ds_at {X : World} {N : Nat} {d1 d2 : Int} (h : X.heap[N]? = some (.cells #[.int .i64 d1, .int .i64 d2] 73 (0, 0))) : Ds X X.heap.size (some ⟨N, 0, none⟩) 1 1 [(d1, d2)] :=
  ⟨rfl, Nat.le_refl _, by omega, fun e => (by cases e), fun _ => ⟨N, 0, rfl, lt_of_heap h, fun j d hj => by
    match j, hj with
    | 0, hj =>
      obtain rfl : (d1, d2) = d := by simpa using hj
      rw [cell_of_row X N _ _ _ (0, 0) h, cell_of_row X N _ _ _ (0, 0) h]
      exact ⟨rfl, rfl⟩
    | j + 1, hj => simp at hj⟩⟩
open Go.RowKit Go.Shelf Go.Lib
set_option maxRecDepth 100000
open Go.RowKit Go.Shelf
theorem neqD (d1 d2 e1 e2 : Int) (w : World) : Sem.run Tryz.prog (binOp .neq 73 (.agg #[.int .i64 d1, .int .i64 d2]) (.agg #[.int .i64 e1, .int .i64 e2])) w = .ok (.bool (!decide ((d1, d2) = (e1, e2)))) w := by
  have u3 := Tryz.underlying3
  have a3 := Tryz.isAgg3
  have z3 := Tryz.sizeOf3
  have hS : Tryz.prog.underlying 73 = some (.struct (Tryz.prog.fieldsOf 73)) := by kernel_rfl
  have hp : Tryz.prog.stoodInHeld 73 = false := by kernel_rfl
  rw [run_neq_struct, show (10000 : Nat) = 9999 + 1 from rfl, run_equalIn_agg w 9999 73 _ _ hS hp]
  simp only [Program.fieldsOf, Tryz.underlying73]
  go_simp
  by_cases h1 : d1 = e1 <;> by_cases h2 : d2 = e2 <;> simp [h1, h2]
theorem grdD (op : BinOp) (x y : Operand) (xs ys : Array Value) (w : World) : Sem.run Tryz.prog (eqGuard op 73 x y (.agg xs) (.agg ys)) w = .ok () w := run_eqGuard_agg w op 73 x y xs ys (by kernel_rfl)
theorem dec_ne {l m : List De} {k : Nat} {d e : De} (h1 : l[k]? = some d) (h2 : m[k]? = some e) (h : d ≠ e) : decide (l = m) = false := by
  rw [decide_eq_false_iff_not]
  intro hl
  rw [hl, h2] at h1
  injection h1 with h1
  exact h h1.symm
set_option maxHeartbeats 3200000 in
set_option maxRecDepth 100000 in
theorem krsame_any {w : World} {B C n c m d : Nat} {A D : Option Addr} {l r : List De} (h : Ds w B A n c l) (k : Ds w C D m d r) (hB : B ≤ w.heap.size) (hC : C ≤ w.heap.size) :
    Calls Tryz.prog 39 #[.slice A n c, .slice D m d] w fun e w' => e = .returned (.bool (decide (l = r))) ∧ Hid (Below w.heap.size w w') := by
  have H := hid (h.mono hB)
  have K := hid (k.mono hC)
  have hl := h.len
  have hr := k.len
  have hm := h.max
  have hm2 := k.max
  have hcap := h.cap
  have hcap2 := k.cap
  clear h k
  by_cases hnm : n = m
  case neg =>
    have hne : ¬ (n : Int) = (m : Int) := by omega
    have hd : decide (l = r) = false := by
      rw [decide_eq_false_iff_not]
      intro e
      rw [e] at hl
      omega
    rw [hd]
    go_enter Tryz.func39, Tryz.ntmps39
    go_wp2
    go_ret
    exact ⟨rfl, hid (Below.refl _ _)⟩
  subst hnm
  clear hm2
  have HL := hid hl
  have HR := hid hr
  clear hl hr
  go_enter Tryz.func39, Tryz.ntmps39
  go_wp2
  go_loopg [5] n (fun gg s5 wr => ∃ kk : Nat, kk ≤ n ∧ n - kk ≤ gg ∧ s5 = .int .i64 kk ∧ Hid (Below w.heap.size w wr) ∧ Hid (∀ j, j < kk → l[j]? = r[j]?))
  case atStart => exact ⟨0, Nat.zero_le _, by omega, rfl, hid (Below.refl _ w), hid (fun j hj => absurd hj (Nat.not_lt_zero _))⟩
  case round =>
    obtain ⟨kk, hkk, hg, rfl, BW, HA⟩ := hrel
    by_cases hlt : kk < n
    · have hltz : (kk : Int) < (n : Int) := by omega
      obtain ⟨x, hx⟩ := H.out.get hlt
      obtain ⟨y, hy⟩ := K.out.get hlt
      obtain ⟨b, off, rfl, _, hc⟩ := (H.out.below BW.out).at_ (by omega)
      obtain ⟨b', off', rfl, _, hc'⟩ := (K.out.below BW.out).at_ (by omega)
      obtain ⟨c1, c2⟩ := hc kk x hx
      obtain ⟨c3, c4⟩ := hc' kk y hy
      have Hx := hid hx
      have Hy := hid hy
      clear hc hc' hx hy
      obtain ⟨x1, x2⟩ := x
      obtain ⟨y1, y2⟩ := y
      change wr.cell? ⟨b, off + kk * 2, none⟩ = some (.int .i64 x1) at c1
      change wr.cell? ⟨b, off + kk * 2 + 1, none⟩ = some (.int .i64 x2) at c2
      change wr.cell? ⟨b', off' + kk * 2, none⟩ = some (.int .i64 y1) at c3
      change wr.cell? ⟨b', off' + kk * 2 + 1, none⟩ = some (.int .i64 y2) at c4
      have hgd := grdD
      have mixed : Tryz.prog.follows .mixedOrders = true := by kernel_rfl
      by_cases hxy : (x1, x2) = (y1, y2)
      · have hq : ∀ W, Sem.run Tryz.prog (binOp .neq 73 (.agg #[.int .i64 x1, .int .i64 x2]) (.agg #[.int .i64 y1, .int .i64 y2])) W = .ok (.bool false) W := fun W => by rw [neqD, decide_eq_true hxy]; rfl
        have HX := hid hxy
        clear hxy
        go_wp2_with fail
        go_quiet_o (fail)
        go_wp2
        go_roundg (n - (kk + 1))
        case measure => omega
        case rel =>
          refine ⟨kk + 1, by omega, by omega, by go_num, hid (below_drewN BW.out _), hid (fun j hj => ?_)⟩
          by_cases hjk : j = kk
          · subst hjk
            rw [Hx.out, Hy.out, HX.out]
          · exact HA.out j (by omega)
      · have hq : ∀ W, Sem.run Tryz.prog (binOp .neq 73 (.agg #[.int .i64 x1, .int .i64 x2]) (.agg #[.int .i64 y1, .int .i64 y2])) W = .ok (.bool true) W := fun W => by rw [neqD, decide_eq_false hxy]; rfl
        have HX := hid hxy
        clear hxy
        go_wp2_with fail
        go_quiet_o (fail)
        go_wp2
        go_ret
        refine ⟨?_, hid (below_drewN BW.out _)⟩
        rw [dec_ne Hx.out Hy.out HX.out]
        rfl
    · have hltz : ¬ (kk : Int) < (n : Int) := by omega
      obtain rfl : kk = n := by omega
      go_wp2
      go_ret
      refine ⟨?_, BW⟩
      rw [decide_eq_true (show l = r from List.ext_getElem? fun j => by
        rcases Nat.lt_or_ge j kk with h | h
        · exact HA.out j h
        · rw [List.getElem?_eq_none (by rw [HL.out]; exact h), List.getElem?_eq_none (by rw [HR.out]; exact h)])]
      rfl
set_option maxHeartbeats 3200000 in
set_option maxRecDepth 100000 in
theorem kequal_any {w : World} {B C n c m d : Nat} {A D : Option Addr} {l r : List De} (h : Ds w B A n c l) (k : Ds w C D m d r) (hB : B ≤ w.heap.size) (hC : C ≤ w.heap.size) :
    Calls Tryz.prog 85 #[.slice A n c, .slice D m d] w fun e w' => e = .returned (.bool (decide (l = r))) ∧ Hid (Below w.heap.size w w') := by
  have H := hid (h.mono hB)
  have K := hid (k.mono hC)
  have hl := h.len
  have hr := k.len
  have hm := h.max
  have hm2 := k.max
  have hcap := h.cap
  have hcap2 := k.cap
  clear h k
  by_cases hnm : n = m
  case neg =>
    have hne : ¬ (n : Int) = (m : Int) := by omega
    have hd : decide (l = r) = false := by
      rw [decide_eq_false_iff_not]
      intro e
      rw [e] at hl
      omega
    rw [hd]
    go_enter Tryz.func85, Tryz.ntmps85
    go_wp2
    go_ret
    exact ⟨rfl, hid (Below.refl _ _)⟩
  subst hnm
  clear hm2
  have HL := hid hl
  have HR := hid hr
  clear hl hr
  go_enter Tryz.func85, Tryz.ntmps85
  go_wp2
  go_loopg [5, 13] n (fun gg _ s5 wr => ∃ kk : Nat, kk ≤ n ∧ n - kk ≤ gg ∧ s5 = .int .i64 kk ∧ Hid (Below w.heap.size w wr) ∧ Hid (∀ j, j < kk → l[j]? = r[j]?))
  case atStart => exact ⟨0, Nat.zero_le _, by omega, rfl, hid (Below.refl _ w), hid (fun j hj => absurd hj (Nat.not_lt_zero _))⟩
  case round =>
    obtain ⟨kk, hkk, hg, rfl, BW, HA⟩ := hrel
    by_cases hlt : kk < n
    · have hltz : (kk : Int) < (n : Int) := by omega
      obtain ⟨x, hx⟩ := H.out.get hlt
      obtain ⟨y, hy⟩ := K.out.get hlt
      obtain ⟨b, off, rfl, _, hc⟩ := (H.out.below BW.out).at_ (by omega)
      obtain ⟨b', off', rfl, _, hc'⟩ := (K.out.below BW.out).at_ (by omega)
      obtain ⟨c1, c2⟩ := hc kk x hx
      obtain ⟨c3, c4⟩ := hc' kk y hy
      have Hx := hid hx
      have Hy := hid hy
      clear hc hc' hx hy
      obtain ⟨x1, x2⟩ := x
      obtain ⟨y1, y2⟩ := y
      change wr.cell? ⟨b, off + kk * 2, none⟩ = some (.int .i64 x1) at c1
      change wr.cell? ⟨b, off + kk * 2 + 1, none⟩ = some (.int .i64 x2) at c2
      change wr.cell? ⟨b', off' + kk * 2, none⟩ = some (.int .i64 y1) at c3
      change wr.cell? ⟨b', off' + kk * 2 + 1, none⟩ = some (.int .i64 y2) at c4
      have hgd := grdD
      have mixed : Tryz.prog.follows .mixedOrders = true := by kernel_rfl
      by_cases hxy : (x1, x2) = (y1, y2)
      · have hq : ∀ W, Sem.run Tryz.prog (binOp .neq 73 (.agg #[.int .i64 x1, .int .i64 x2]) (.agg #[.int .i64 y1, .int .i64 y2])) W = .ok (.bool false) W := fun W => by rw [neqD, decide_eq_true hxy]; rfl
        have HX := hid hxy
        clear hxy
        go_wp2_with fail
        go_quiet_o (fail)
        go_wp2
        go_roundg (n - (kk + 1))
        case measure => omega
        case rel =>
          refine ⟨kk + 1, by omega, by omega, by go_num, hid (below_drewN BW.out _), hid (fun j hj => ?_)⟩
          by_cases hjk : j = kk
          · subst hjk
            rw [Hx.out, Hy.out, HX.out]
          · exact HA.out j (by omega)
      · have hq : ∀ W, Sem.run Tryz.prog (binOp .neq 73 (.agg #[.int .i64 x1, .int .i64 x2]) (.agg #[.int .i64 y1, .int .i64 y2])) W = .ok (.bool true) W := fun W => by rw [neqD, decide_eq_false hxy]; rfl
        have HX := hid hxy
        clear hxy
        go_wp2_with fail
        go_quiet_o (fail)
        go_wp2
        go_ret
        refine ⟨?_, hid (below_drewN BW.out _)⟩
        rw [dec_ne Hx.out Hy.out HX.out]
        rfl
    · have hltz : ¬ (kk : Int) < (n : Int) := by omega
      obtain rfl : kk = n := by omega
      go_wp2
      go_ret
      refine ⟨?_, BW⟩
      rw [decide_eq_true (show l = r from List.ext_getElem? fun j => by
        rcases Nat.lt_or_ge j kk with h | h
        · exact HA.out j h
        · rw [List.getElem?_eq_none (by rw [HL.out]; exact h), List.getElem?_eq_none (by rw [HR.out]; exact h)])]
      rfl
theorem kdsame_any {w : World} {B C n c m d : Nat} {A D : Option Addr} {l r : List De} (h : Ds w B A n c l) (k : Ds w C D m d r) (hB : B ≤ w.heap.size) (hC : C ≤ w.heap.size) :
    Calls Tryz.prog 42 #[.slice A n c, .slice D m d] w fun e w' => e = .returned (.bool (decide (l = r))) ∧ Hid (Below w.heap.size w w') := by
  have HC := hid (kequal_any h k hB hC)
  generalize decide (l = r) = q at HC ⊢
  clear h k
  go_enter Tryz.func42, Tryz.ntmps42
  go_wp2_with (go_at_call 85; refine HC.out.mono ?_; rintro e w' ⟨rfl, hb⟩)
  go_ret
  exact ⟨rfl, hb⟩
open Go.RowKit Go.Shelf Go.Lib
def frE (a b : De) : Int := if bad a || bad b then 8 else 0
def frB (a b : De) : Bool := !(bad a || bad b) && fr a b
open Go.RowKit Go.Shelf Go.Lib
def fourL : List De := [(1, 5), (0, 5), (2, 9), (1, 7)]
open Go.RowKit Go.Shelf Go.Lib
structure Md where
  kd : Nat
  fr : Int
  tu : Int
  ep : Int
  nu : Int
  ab : Int
  D : Nat → Dy
  wa : Bool
  A : Option Addr
  n : Nat
  c : Nat
  ha : Bool
  mn : Int
  mx : Int
  T : Option Addr
  k : Nat
  d : Nat
def mdc (m : Md) : Array Value := #[.int .u8 (m.kd : Int), .int .i64 m.fr, .int .i64 m.tu, .int .i64 m.ep, .int .i64 m.nu, .int .i64 m.ab, .bool (m.D 0).s, .slice (m.D 0).A (m.D 0).n (m.D 0).c, .int .i64 (m.D 0).x, .bool (m.D 1).s, .slice (m.D 1).A (m.D 1).n (m.D 1).c, .int .i64 (m.D 1).x, .bool (m.D 2).s, .slice (m.D 2).A (m.D 2).n (m.D 2).c, .int .i64 (m.D 2).x, .bool (m.D 3).s, .slice (m.D 3).A (m.D 3).n (m.D 3).c, .int .i64 (m.D 3).x, .bool m.wa, .slice m.A m.n m.c, .bool m.ha, .int .i64 m.mn, .int .i64 m.mx, .slice m.T m.k m.d]
def Pbox (w : World) (g : Nat) (m : Md) : Prop := w.heap[g]? = some (.cells (mdc m) 31 (0, 0))
section
variable {w w' : World} {g B : Nat} {m : Md}
theorem Pbox.lt (h : Pbox w g m) : g < w.heap.size := lt_of_heap h
theorem Pbox.below (h : Pbox w g m) (hb : Below B w w') (hg : g < B) : Pbox w' g m := (hb.block g hg).trans h
theorem Pbox.alloc (h : Pbox w g m) (x : Obj) : Pbox (w.alloc x) g m := (Below.heap_alloc w x g h.lt).trans h
theorem Pbox.frozen (h : Pbox w g m) (j : Nat) : w.frozen? ⟨g, j, none⟩ = false := frozen_of_row w g j _ _ h
theorem Pbox.c0 (h : Pbox w g m) : w.cell? ⟨g, 0, none⟩ = some (.int .u8 (m.kd : Int)) := by rw [cell_of_row w g 0 _ _ (0, 0) h]; rfl
theorem Pbox.c1 (h : Pbox w g m) : w.cell? ⟨g, 1, none⟩ = some (.int .i64 m.fr) := by rw [cell_of_row w g 1 _ _ (0, 0) h]; rfl
theorem Pbox.c2 (h : Pbox w g m) : w.cell? ⟨g, 2, none⟩ = some (.int .i64 m.tu) := by rw [cell_of_row w g 2 _ _ (0, 0) h]; rfl
theorem Pbox.c3 (h : Pbox w g m) : w.cell? ⟨g, 3, none⟩ = some (.int .i64 m.ep) := by rw [cell_of_row w g 3 _ _ (0, 0) h]; rfl
theorem Pbox.c4 (h : Pbox w g m) : w.cell? ⟨g, 4, none⟩ = some (.int .i64 m.nu) := by rw [cell_of_row w g 4 _ _ (0, 0) h]; rfl
theorem Pbox.c5 (h : Pbox w g m) : w.cell? ⟨g, 5, none⟩ = some (.int .i64 m.ab) := by rw [cell_of_row w g 5 _ _ (0, 0) h]; rfl
theorem Pbox.c6 (h : Pbox w g m) : w.cell? ⟨g, 6, none⟩ = some (.bool (m.D 0).s) := by rw [cell_of_row w g 6 _ _ (0, 0) h]; rfl
theorem Pbox.c7 (h : Pbox w g m) : w.cell? ⟨g, 7, none⟩ = some (.slice (m.D 0).A (m.D 0).n (m.D 0).c) := by rw [cell_of_row w g 7 _ _ (0, 0) h]; rfl
theorem Pbox.c8 (h : Pbox w g m) : w.cell? ⟨g, 8, none⟩ = some (.int .i64 (m.D 0).x) := by rw [cell_of_row w g 8 _ _ (0, 0) h]; rfl
theorem Pbox.c9 (h : Pbox w g m) : w.cell? ⟨g, 9, none⟩ = some (.bool (m.D 1).s) := by rw [cell_of_row w g 9 _ _ (0, 0) h]; rfl
theorem Pbox.c10 (h : Pbox w g m) : w.cell? ⟨g, 10, none⟩ = some (.slice (m.D 1).A (m.D 1).n (m.D 1).c) := by rw [cell_of_row w g 10 _ _ (0, 0) h]; rfl
theorem Pbox.c11 (h : Pbox w g m) : w.cell? ⟨g, 11, none⟩ = some (.int .i64 (m.D 1).x) := by rw [cell_of_row w g 11 _ _ (0, 0) h]; rfl
theorem Pbox.c12 (h : Pbox w g m) : w.cell? ⟨g, 12, none⟩ = some (.bool (m.D 2).s) := by rw [cell_of_row w g 12 _ _ (0, 0) h]; rfl
theorem Pbox.c13 (h : Pbox w g m) : w.cell? ⟨g, 13, none⟩ = some (.slice (m.D 2).A (m.D 2).n (m.D 2).c) := by rw [cell_of_row w g 13 _ _ (0, 0) h]; rfl
theorem Pbox.c14 (h : Pbox w g m) : w.cell? ⟨g, 14, none⟩ = some (.int .i64 (m.D 2).x) := by rw [cell_of_row w g 14 _ _ (0, 0) h]; rfl
theorem Pbox.c15 (h : Pbox w g m) : w.cell? ⟨g, 15, none⟩ = some (.bool (m.D 3).s) := by rw [cell_of_row w g 15 _ _ (0, 0) h]; rfl
theorem Pbox.c16 (h : Pbox w g m) : w.cell? ⟨g, 16, none⟩ = some (.slice (m.D 3).A (m.D 3).n (m.D 3).c) := by rw [cell_of_row w g 16 _ _ (0, 0) h]; rfl
theorem Pbox.c17 (h : Pbox w g m) : w.cell? ⟨g, 17, none⟩ = some (.int .i64 (m.D 3).x) := by rw [cell_of_row w g 17 _ _ (0, 0) h]; rfl
theorem Pbox.c18 (h : Pbox w g m) : w.cell? ⟨g, 18, none⟩ = some (.bool m.wa) := by rw [cell_of_row w g 18 _ _ (0, 0) h]; rfl
theorem Pbox.c19 (h : Pbox w g m) : w.cell? ⟨g, 19, none⟩ = some (.slice m.A m.n m.c) := by rw [cell_of_row w g 19 _ _ (0, 0) h]; rfl
theorem Pbox.c20 (h : Pbox w g m) : w.cell? ⟨g, 20, none⟩ = some (.bool m.ha) := by rw [cell_of_row w g 20 _ _ (0, 0) h]; rfl
theorem Pbox.c21 (h : Pbox w g m) : w.cell? ⟨g, 21, none⟩ = some (.int .i64 m.mn) := by rw [cell_of_row w g 21 _ _ (0, 0) h]; rfl
theorem Pbox.c22 (h : Pbox w g m) : w.cell? ⟨g, 22, none⟩ = some (.int .i64 m.mx) := by rw [cell_of_row w g 22 _ _ (0, 0) h]; rfl
theorem Pbox.c23 (h : Pbox w g m) : w.cell? ⟨g, 23, none⟩ = some (.slice m.T m.k m.d) := by rw [cell_of_row w g 23 _ _ (0, 0) h]; rfl
end
theorem Pbox.mass {w : World} {g : Nat} {m : Md} (h : Pbox w g m) : w.rangeAt g 6 [.bool (m.D 0).s, .slice (m.D 0).A (m.D 0).n (m.D 0).c, .int .i64 (m.D 0).x, .bool (m.D 1).s, .slice (m.D 1).A (m.D 1).n (m.D 1).c, .int .i64 (m.D 1).x, .bool (m.D 2).s, .slice (m.D 2).A (m.D 2).n (m.D 2).c, .int .i64 (m.D 2).x, .bool (m.D 3).s, .slice (m.D 3).A (m.D 3).n (m.D 3).c, .int .i64 (m.D 3).x] := fun j v hv => by
  match j, hv with
  | 0, hv => injection hv with hv; subst hv; exact h.c6
  | 1, hv => injection hv with hv; subst hv; exact h.c7
  | 2, hv => injection hv with hv; subst hv; exact h.c8
  | 3, hv => injection hv with hv; subst hv; exact h.c9
  | 4, hv => injection hv with hv; subst hv; exact h.c10
  | 5, hv => injection hv with hv; subst hv; exact h.c11
  | 6, hv => injection hv with hv; subst hv; exact h.c12
  | 7, hv => injection hv with hv; subst hv; exact h.c13
  | 8, hv => injection hv with hv; subst hv; exact h.c14
  | 9, hv => injection hv with hv; subst hv; exact h.c15
  | 10, hv => injection hv with hv; subst hv; exact h.c16
  | 11, hv => injection hv with hv; subst hv; exact h.c17
  | j + 12, hv => simp at hv
theorem Pbox.dyad0 {w : World} {g : Nat} {m : Md} (h : Pbox w g m) : w.rangeAt g 6 [.bool (m.D 0).s, .slice (m.D 0).A (m.D 0).n (m.D 0).c, .int .i64 (m.D 0).x] := fun j v hv => by
  match j, hv with
  | 0, hv => injection hv with hv; subst hv; exact h.c6
  | 1, hv => injection hv with hv; subst hv; exact h.c7
  | 2, hv => injection hv with hv; subst hv; exact h.c8
  | j + 3, hv => simp at hv
theorem Pbox.dyad1 {w : World} {g : Nat} {m : Md} (h : Pbox w g m) : w.rangeAt g 9 [.bool (m.D 1).s, .slice (m.D 1).A (m.D 1).n (m.D 1).c, .int .i64 (m.D 1).x] := fun j v hv => by
  match j, hv with
  | 0, hv => injection hv with hv; subst hv; exact h.c9
  | 1, hv => injection hv with hv; subst hv; exact h.c10
  | 2, hv => injection hv with hv; subst hv; exact h.c11
  | j + 3, hv => simp at hv
theorem Pbox.dyad2 {w : World} {g : Nat} {m : Md} (h : Pbox w g m) : w.rangeAt g 12 [.bool (m.D 2).s, .slice (m.D 2).A (m.D 2).n (m.D 2).c, .int .i64 (m.D 2).x] := fun j v hv => by
  match j, hv with
  | 0, hv => injection hv with hv; subst hv; exact h.c12
  | 1, hv => injection hv with hv; subst hv; exact h.c13
  | 2, hv => injection hv with hv; subst hv; exact h.c14
  | j + 3, hv => simp at hv
theorem Pbox.dyad3 {w : World} {g : Nat} {m : Md} (h : Pbox w g m) : w.rangeAt g 15 [.bool (m.D 3).s, .slice (m.D 3).A (m.D 3).n (m.D 3).c, .int .i64 (m.D 3).x] := fun j v hv => by
  match j, hv with
  | 0, hv => injection hv with hv; subst hv; exact h.c15
  | 1, hv => injection hv with hv; subst hv; exact h.c16
  | 2, hv => injection hv with hv; subst hv; exact h.c17
  | j + 3, hv => simp at hv
theorem Pbox.edge {w : World} {g : Nat} {m : Md} (h : Pbox w g m) : w.rangeAt g 20 [.bool m.ha, .int .i64 m.mn, .int .i64 m.mx] := fun j v hv => by
  match j, hv with
  | 0, hv => injection hv with hv; subst hv; exact h.c20
  | 1, hv => injection hv with hv; subst hv; exact h.c21
  | 2, hv => injection hv with hv; subst hv; exact h.c22
  | j + 3, hv => simp at hv
theorem edge_size : (Tryz.prog.info? 29).map (·.size) = some 3 := by kernel_rfl
theorem mail_size : (Tryz.prog.info? 31).map (·.size) = some 24 := by kernel_rfl
section
variable {ops : Array Oper} {rest : List Oper} {o : Oper} {a : Act} {w : World} {Q : Exit → Act → World → Prop}
theorem wp_gmass (hw : Region.wanted o (yielded ops a.tmps) = true) (x : Operand) (ho : o.op = .load 26 x)
    (g : Nat) (m : Md) (hx : a.eval x = .pointer (some ⟨g, 6, none⟩)) (hg : Pbox w g m) (h : wpList Tryz.prog ops Q rest (a.put o.dst (.agg (mcells m.D))) w) : wpList Tryz.prog ops Q (o :: rest) a w :=
  wpList_step fun _ hK => by
    rw [if_pos hw]
    exact wp_load_mid _ x ho g 6 hx (mcells m.D).toList _ hg.mass Tryz.underlying26 rfl (mass_size) (hK _ _ h)
theorem wp_gedge (hw : Region.wanted o (yielded ops a.tmps) = true) (x : Operand) (ho : o.op = .load 29 x)
    (g : Nat) (m : Md) (hx : a.eval x = .pointer (some ⟨g, 20, none⟩)) (hg : Pbox w g m) (h : wpList Tryz.prog ops Q rest (a.put o.dst (.agg #[.bool m.ha, .int .i64 m.mn, .int .i64 m.mx])) w) : wpList Tryz.prog ops Q (o :: rest) a w :=
  wpList_step fun _ hK => by
    rw [if_pos hw]
    exact wp_load_mid _ x ho g 20 hx _ _ hg.edge Tryz.underlying29 rfl edge_size (hK _ _ h)
theorem wp_gmail (hw : Region.wanted o (yielded ops a.tmps) = true) (x : Operand) (ho : o.op = .load 31 x)
    (g : Nat) (m : Md) (hx : a.eval x = .pointer (some ⟨g, 0, none⟩)) (hg : Pbox w g m) (h : wpList Tryz.prog ops Q rest (a.put o.dst (.agg (mdc m))) w) : wpList Tryz.prog ops Q (o :: rest) a w :=
  wpList_step fun _ hK => by
    rw [if_pos hw]
    exact wp_load_row _ x ho g hx _ _ _ _ hg Tryz.underlying31 rfl mail_size (hK _ _ h)
theorem wp_gdyad0 (hw : Region.wanted o (yielded ops a.tmps) = true) (x : Operand) (ho : o.op = .load 24 x)
    (g : Nat) (m : Md) (hx : a.eval x = .pointer (some ⟨g, 6, none⟩)) (hg : Pbox w g m) (h : wpList Tryz.prog ops Q rest (a.put o.dst (.agg #[.bool (m.D 0).s, .slice (m.D 0).A (m.D 0).n (m.D 0).c, .int .i64 (m.D 0).x])) w) : wpList Tryz.prog ops Q (o :: rest) a w :=
  wpList_step fun _ hK => by
    rw [if_pos hw]
    exact wp_load_mid _ x ho g 6 hx _ _ hg.dyad0 Tryz.underlying24 rfl (dyad_size_ (m.D 0)) (hK _ _ h)
theorem wp_gdyad1 (hw : Region.wanted o (yielded ops a.tmps) = true) (x : Operand) (ho : o.op = .load 24 x)
    (g : Nat) (m : Md) (hx : a.eval x = .pointer (some ⟨g, 9, none⟩)) (hg : Pbox w g m) (h : wpList Tryz.prog ops Q rest (a.put o.dst (.agg #[.bool (m.D 1).s, .slice (m.D 1).A (m.D 1).n (m.D 1).c, .int .i64 (m.D 1).x])) w) : wpList Tryz.prog ops Q (o :: rest) a w :=
  wpList_step fun _ hK => by
    rw [if_pos hw]
    exact wp_load_mid _ x ho g 9 hx _ _ hg.dyad1 Tryz.underlying24 rfl (dyad_size_ (m.D 1)) (hK _ _ h)
theorem wp_gdyad2 (hw : Region.wanted o (yielded ops a.tmps) = true) (x : Operand) (ho : o.op = .load 24 x)
    (g : Nat) (m : Md) (hx : a.eval x = .pointer (some ⟨g, 12, none⟩)) (hg : Pbox w g m) (h : wpList Tryz.prog ops Q rest (a.put o.dst (.agg #[.bool (m.D 2).s, .slice (m.D 2).A (m.D 2).n (m.D 2).c, .int .i64 (m.D 2).x])) w) : wpList Tryz.prog ops Q (o :: rest) a w :=
  wpList_step fun _ hK => by
    rw [if_pos hw]
    exact wp_load_mid _ x ho g 12 hx _ _ hg.dyad2 Tryz.underlying24 rfl (dyad_size_ (m.D 2)) (hK _ _ h)
theorem wp_gdyad3 (hw : Region.wanted o (yielded ops a.tmps) = true) (x : Operand) (ho : o.op = .load 24 x)
    (g : Nat) (m : Md) (hx : a.eval x = .pointer (some ⟨g, 15, none⟩)) (hg : Pbox w g m) (h : wpList Tryz.prog ops Q rest (a.put o.dst (.agg #[.bool (m.D 3).s, .slice (m.D 3).A (m.D 3).n (m.D 3).c, .int .i64 (m.D 3).x])) w) : wpList Tryz.prog ops Q (o :: rest) a w :=
  wpList_step fun _ hK => by
    rw [if_pos hw]
    exact wp_load_mid _ x ho g 15 hx _ _ hg.dyad3 Tryz.underlying24 rfl (dyad_size_ (m.D 3)) (hK _ _ h)
end
structure Prd (w : World) (B : Nat) (m : Md) (l : List De) (t : Nat → Nat) : Prop where
  kd : m.kd < 256
  ms : Mrd w B m.D
  ls : Ds w B m.A m.n m.c l
  tg : Rd w B m.T m.k m.d t
theorem Prd.below {w w' : World} {B : Nat} {m : Md} {l : List De} {t : Nat → Nat} (h : Prd w B m l t) (hb : Below B w w') : Prd w' B m l t := ⟨h.kd, fun k hk => (h.ms k hk).below hb, h.ls.below hb, h.tg.below hb⟩
theorem Prd.mono {w : World} {B C : Nat} {m : Md} {l : List De} {t : Nat → Nat} (h : Prd w B m l t) (hb : B ≤ C) : Prd w C m l t := ⟨h.kd, fun k hk => (h.ms k hk).mono hb, h.ls.mono hb, h.tg.mono hb⟩
theorem Prd.on {w w' : World} {m : Md} {l : List De} {t : Nat → Nat} (h : Prd w w.heap.size m l t) (hb : Below w.heap.size w w') : Prd w' w'.heap.size m l t := (h.below hb).mono hb.size
open Go.RowKit Go.Shelf Go.Lib
def EMay (ha : Bool) (mn mx : Int) : Prop := if ha = true then -2147483647 ≤ mn ∧ mn ≤ mx ∧ mx ≤ 2147483647 else mn = 0 ∧ mx = 0
instance (ha : Bool) (mn mx : Int) : Decidable (EMay ha mn mx) := by unfold EMay; infer_instance
def LMay (n : Nat) (t : Nat → Nat) : Prop := n ≤ 8 ∧ ∀ j, j + 1 < n → t j < t (j + 1)
def Zd (d : Dy) : Prop := d.s = false ∧ d.x = 0 ∧ d.n = 0
def IMay (m : Md) : Prop := (0 ≤ m.fr ∧ m.fr < 8) ∧ (0 ≤ m.tu ∧ m.tu < 8) ∧ (0 ≤ m.ep ∧ m.ep ≤ 65535) ∧ (0 ≤ m.nu ∧ m.nu ≤ 1048575) ∧ (0 ≤ m.ab ∧ m.ab ≤ 1048575)
def PMay (m : Md) (l : List De) (t : Nat → Nat) : Prop :=
  (1 ≤ m.kd ∧ m.kd ≤ 6) ∧ IMay m ∧ (m.kd = 3 ∨ m.kd = 4 ∨ m.ab = 0) ∧ MMay m.D ∧ kchk l = 0 ∧ EMay m.ha m.mn m.mx ∧ LMay m.k t ∧
    (m.kd = 1 ∨ (Zd (m.D 0) ∧ Zd (m.D 1))) ∧ (m.kd = 2 ∨ m.kd = 3 ∨ (Zd (m.D 2) ∧ Zd (m.D 3))) ∧ (m.kd = 5 ∨ (m.wa = false ∧ m.n = 0)) ∧ (m.kd = 6 ∨ (m.ha = false ∧ m.k = 0))
theorem eqlE (a b : Bool) (c d e f : Int) (w : World) : Sem.run Tryz.prog (binOp .eql 29 (.agg #[.bool a, .int .i64 c, .int .i64 d]) (.agg #[.bool b, .int .i64 e, .int .i64 f])) w = .ok (.bool (decide (a = b ∧ c = e ∧ d = f))) w := by
  have u3 := Tryz.underlying3
  have a3 := Tryz.isAgg3
  have z3 := Tryz.sizeOf3
  have u4 := Tryz.underlying4
  have a4 := Tryz.isAgg4
  have z4 := Tryz.sizeOf4
  have hS : Tryz.prog.underlying 29 = some (.struct (Tryz.prog.fieldsOf 29)) := by kernel_rfl
  have hp : Tryz.prog.stoodInHeld 29 = false := by kernel_rfl
  rw [run_eql_struct, show (10000 : Nat) = 9999 + 1 from rfl, run_equalIn_agg w 9999 29 _ _ hS hp]
  simp only [Program.fieldsOf, Tryz.underlying29]
  go_simp
  by_cases h1 : a = b <;> by_cases h2 : c = e <;> by_cases h3 : d = f <;> simp [h1, h2, h3]
theorem grdE (op : BinOp) (x y : Operand) (xs ys : Array Value) (w : World) : Sem.run Tryz.prog (eqGuard op 29 x y (.agg xs) (.agg ys)) w = .ok () w := run_eqGuard_agg w op 29 x y xs ys (by kernel_rfl)
theorem pheap0 (w : World) (a b : Obj) : ((w.alloc a).alloc b).heap[w.heap.size]? = some a := (Below.heap_alloc _ _ _ (by simp)).trans (World.alloc_heap_new w _)
theorem pheap1 (w : World) (a b : Obj) : ((w.alloc a).alloc b).heap[w.heap.size + 1]? = some b := by
  have := World.alloc_heap_new (w.alloc a) b
  rwa [World.size_alloc] at this
def ISm (m o : Md) : Prop := m.kd = o.kd ∧ m.fr = o.fr ∧ m.tu = o.tu ∧ m.ep = o.ep ∧ m.nu = o.nu ∧ m.ab = o.ab
def PSm (m o : Md) (l r : List De) (t u : Nat → Nat) : Prop :=
  ISm m o ∧ (∀ k, k < 4 → Dsm (m.D k) (o.D k)) ∧ m.wa = o.wa ∧ l = r ∧ (m.ha = o.ha ∧ m.mn = o.mn ∧ m.mx = o.mx) ∧ (m.k = o.k ∧ ∀ j, t j = u j)
open Go.RowKit Go.Shelf Go.Lib
set_option maxHeartbeats 1600000 in
theorem emayedge_any (ha : Bool) (mn mx : Int) (w : World) :
    Calls Tryz.prog 58 #[.agg #[.bool ha, .int .i64 mn, .int .i64 mx]] w fun e w' => e = .returned (.bool (decide (EMay ha mn mx))) ∧ Hid (Below w.heap.size w w') := by
  have B0 := hid ((Below.refl w.heap.size w).alloc (Nat.le_refl _) (.cells #[.bool ha, .int .i64 mn, .int .i64 mx] 29))
  cases ha with
  | false =>
    have hq : decide (EMay false mn mx) = decide (mn = 0 ∧ mx = 0) := rfl
    rw [hq]
    by_cases h1 : mn = 0
    · by_cases h2 : mx = 0
      · subst h1 h2
        go_enter Tryz.func58, Tryz.ntmps58
        go_wp2
        go_ret
        exact ⟨rfl, B0⟩
      · rw [decide_eq_false (fun h => h2 h.2)]
        subst h1
        go_enter Tryz.func58, Tryz.ntmps58
        go_wp2
        go_ret
        exact ⟨by first | rfl | simp_all, B0⟩
    · rw [decide_eq_false (fun h => h1 h.1)]
      go_enter Tryz.func58, Tryz.ntmps58
      go_wp2
      go_ret
      exact ⟨by first | rfl | simp_all, B0⟩
  | true =>
    have hq : decide (EMay true mn mx) = decide (-2147483647 ≤ mn ∧ mn ≤ mx ∧ mx ≤ 2147483647) := rfl
    rw [hq]
    by_cases h1 : -2147483647 ≤ mn
    · by_cases h2 : mn ≤ mx
      · by_cases h3 : mx ≤ 2147483647
        · rw [decide_eq_true ⟨h1, h2, h3⟩]
          go_enter Tryz.func58, Tryz.ntmps58
          go_wp2
          go_ret
          exact ⟨by first | rfl | simp_all, B0⟩
        · rw [decide_eq_false (fun h => h3 h.2.2)]
          go_enter Tryz.func58, Tryz.ntmps58
          go_wp2
          go_ret
          exact ⟨by first | rfl | simp_all, B0⟩
      · rw [decide_eq_false (fun h => h2 h.2.1)]
        go_enter Tryz.func58, Tryz.ntmps58
        go_wp2
        go_ret
        exact ⟨by first | rfl | simp_all, B0⟩
    · rw [decide_eq_false (fun h => h1 h.1)]
      go_enter Tryz.func58, Tryz.ntmps58
      go_wp2
      go_ret
      exact ⟨by first | rfl | simp_all, B0⟩
set_option maxHeartbeats 1600000 in
theorem emayleast_any {w : World} {B n c : Nat} {A : Option Addr} {t : Nat → Nat} (h : Rd w B A n c t) (hB : B ≤ w.heap.size) :
    Calls Tryz.prog 59 #[.slice A n c] w (Says w (LMay n t)) := by
  have mixed : Tryz.prog.follows .mixedOrders = true := by kernel_rfl
  have H := hid (h.mono hB)
  have hcap := h.cap
  have hmax := h.max
  clear h
  go_enter Tryz.func59, Tryz.ntmps59
  go_wp2
  go_loopg [3] (n + 1) (fun gg s3 wr => ∃ i : Nat, 1 ≤ i ∧ n - i < gg ∧ s3 = .int .i64 i ∧ Hid (i ≤ n + 1) ∧ Hid (Below w.heap.size w wr) ∧ Hid (∀ j, j + 1 < i → j + 1 < n → t j < t (j + 1)))
  case atStart => exact ⟨1, Nat.le_refl _, by omega, rfl, hid (by omega), hid (Below.refl _ w), hid (fun j h1 => by omega)⟩
  case round =>
    obtain ⟨i, hi, hg, rfl, HI, BW, HJ⟩ := hrel
    by_cases hlt : i < n
    · have hltz : (i : Int) < (n : Int) := by omega
      obtain ⟨b, off, rfl, hb, hc⟩ := H.out.at_ (by omega)
      have c0 := (BW.out.cell (p := ⟨b, off + i, none⟩) hb).trans (hc i hlt)
      have c1 := (BW.out.cell (p := ⟨b, off + (i - 1), none⟩) hb).trans (hc (i - 1) (by omega))
      have hw1 : IntKind.i64.wrap ((i : Int) - 1) = ((i - 1 : Nat) : Int) := by rw [IntKind.wrap_i64]; omega
      have hz1 : ((i - 1 : Nat) : Int) < (n : Int) := by omega
      obtain ⟨y, hy⟩ : ∃ y, y = t i := ⟨_, rfl⟩
      obtain ⟨x, hx⟩ : ∃ x, x = t (i - 1) := ⟨_, rfl⟩
      obtain ⟨k, hk⟩ : ∃ k, k = i - 1 := ⟨_, rfl⟩
      rw [← hy] at c0
      rw [← hk] at hx
      rw [← hk] at c1 hw1 hz1
      rw [← hx] at c1
      have HXY := hid (And.intro hy (And.intro hx hk))
      clear hc hx hy hk
      by_cases hxy : y ≤ x
      · have hxz : (y : Int) ≤ (x : Int) := by omega
        go_wp2_with fail
        go_quiet_o (fail)
        go_wp2
        go_ret
        exact ⟨false, rfl, hid ⟨(fun h => by cases h), fun hl => by
          obtain ⟨e1, e2, e3⟩ := HXY.out
          have := hl.2 k (by omega)
          rw [show k + 1 = i by omega] at this
          omega⟩, hid (below_drewN BW.out _)⟩
      · have hxz : ¬ (y : Int) ≤ (x : Int) := by omega
        go_wp2_with fail
        go_quiet_o (fail)
        go_wp2
        go_roundg (n - i)
        case measure => omega
        case rel =>
          refine ⟨i + 1, by omega, by omega, by go_num, hid (by omega), hid (below_drewN BW.out _), hid (fun j h1 h2 => ?_)⟩
          obtain ⟨e1, e2, e3⟩ := HXY.out
          by_cases hj : j + 1 = i
          · obtain rfl : j = k := by omega
            rw [hj, ← e1, ← e2]
            omega
          · exact HJ.out j (by omega) h2
    · have hltz : ¬ (i : Int) < (n : Int) := by omega
      by_cases h8 : n ≤ 8
      · have h8z : (n : Int) ≤ 8 := by omega
        go_wp2
        go_ret
        exact ⟨true, rfl, hid ⟨fun _ => ⟨h8, fun j hj => HJ.out j (by have := HI.out; omega) hj⟩, fun _ => rfl⟩, BW⟩
      · have h8z : ¬ (n : Int) ≤ 8 := by omega
        go_wp2
        go_ret
        exact ⟨false, rfl, hid ⟨(fun h => by cases h), fun hl => absurd hl.1 h8⟩, BW⟩
set_option maxHeartbeats 1600000 in
theorem ezero_any {w : World} {d : Dy} (h : Rd w w.heap.size d.A d.n d.c d.f) :
    Calls Tryz.prog 60 #[.agg #[.bool d.s, .slice d.A d.n d.c, .int .i64 d.x]] w (Says w (Zd d)) := by
  obtain ⟨s, A, n, c, x, f⟩ := d
  dsimp only at h ⊢
  have B0 := hid ((Below.refl w.heap.size w).alloc (Nat.le_refl _) (.cells #[.bool s, .slice A n c, .int .i64 x] 24))
  have P0 : Hid (Dbox _ w.heap.size s (.slice A n c) x) := heap_alloc_new w (.cells #[.bool s, .slice A n c, .int .i64 x] 24)
  have HP : Hid (Zd ⟨s, A, n, c, x, f⟩ ↔ (s = false ∧ x = 0 ∧ n = 0 ∧ ∀ j, f j = 0)) := hid ⟨fun ⟨a, b, e⟩ => ⟨a, b, e, fun j => h.out j (by rw [show n = 0 from e]; exact Nat.zero_le _)⟩, fun ⟨a, b, e, _⟩ => ⟨a, b, e⟩⟩
  have C := hid (esame_raw (P := Zd ⟨s, A, n, c, x, f⟩) ((h.below B0.out).mono B0.out.size) (Rd.nil _ _) (s := s) (x := x) (t := false) (y := 0) HP)
  have b0 := P0.out.c0
  have b1 := P0.out.c1
  have b2 := P0.out.c2
  clear h
  go_enter Tryz.func60, Tryz.ntmps60
  go_wp2_with fail
  refine C.out.mono ?_
  rintro e w1 ⟨r, rfl, hr, hb⟩
  go_wp2
  go_ret
  exact ⟨r, rfl, hr, hid (B0.out.trans (hb.out.mono B0.out.size))⟩
theorem eflag_any (b : Bool) (w : World) : Calls Tryz.prog 99 #[.bool b] w fun e w' => e = .returned (.int .u64 ((if b = true then 1 else 0 : Nat) : Int)) ∧ w' = w := by
  cases b <;>
  · go_enter Tryz.func99, Tryz.ntmps99
    go_wp2
    go_ret
    exact ⟨rfl, rfl⟩
set_option maxHeartbeats 3200000 in
theorem esametags_any {w : World} {B C n c m d : Nat} {A D : Option Addr} {f h : Nat → Nat} (ha : Rd w B A n c f) (hb : Rd w C D m d h) (hB : B ≤ w.heap.size) (hC : C ≤ w.heap.size) {P : Prop} (HP : Hid (P ↔ n = m ∧ ∀ j, f j = h j)) :
    Calls Tryz.prog 40 #[.slice A n c, .slice D m d] w (Says w P) := by
  have mixed : Tryz.prog.follows .mixedOrders = true := by kernel_rfl
  have H := hid (ha.mono hB)
  have K := hid (hb.mono hC)
  have hcap := ha.cap
  have hmax := ha.max
  have hcap2 := hb.cap
  have hmax2 := hb.max
  clear ha hb
  by_cases hnm : n = m
  case neg =>
    have hz : ¬ (n : Int) = (m : Int) := by omega
    go_enter Tryz.func40, Tryz.ntmps40
    go_wp2
    go_ret
    exact ⟨false, rfl, hid ⟨(fun h => by cases h), fun h => absurd (HP.out.1 h).1 hnm⟩, hid (Below.refl _ _)⟩
  subst hnm
  go_enter Tryz.func40, Tryz.ntmps40
  go_wp2
  go_loopg [5] n (fun gg s5 wr => ∃ i : Nat, i ≤ n ∧ n - i ≤ gg ∧ s5 = .int .i64 i ∧ Hid (Below w.heap.size w wr) ∧ Hid (∀ j, j < i → f j = h j))
  case atStart => exact ⟨0, Nat.zero_le _, by omega, rfl, hid (Below.refl _ w), hid (fun j h1 => by omega)⟩
  case round =>
    obtain ⟨i, hi, hg, rfl, BW, HJ⟩ := hrel
    by_cases hlt : i < n
    · have hltz : (i : Int) < (n : Int) := by omega
      obtain ⟨b, off, rfl, hb, hc⟩ := H.out.at_ (by omega)
      obtain ⟨b', off', rfl, hb', hc'⟩ := K.out.at_ (by omega)
      have c0 := (BW.out.cell (p := ⟨b, off + i, none⟩) hb).trans (hc i hlt)
      have c1 := (BW.out.cell (p := ⟨b', off' + i, none⟩) hb').trans (hc' i hlt)
      obtain ⟨y, hy⟩ : ∃ y, y = f i := ⟨_, rfl⟩
      obtain ⟨x, hx⟩ : ∃ x, x = h i := ⟨_, rfl⟩
      rw [← hy] at c0
      rw [← hx] at c1
      have HXY := hid (And.intro hy hx)
      clear hc hc' hx hy
      by_cases hxy : y = x
      · have hxz : (y : Int) = (x : Int) := by omega
        have HX := hid hxy
        clear hxy
        go_wp2_with fail
        go_quiet_o (fail)
        go_wp2
        go_roundg (n - (i + 1))
        case measure => omega
        case rel =>
          refine ⟨i + 1, by omega, by omega, by go_num, hid (below_drewN BW.out _), hid (fun j h1 => ?_)⟩
          obtain ⟨e1, e2⟩ := HXY.out
          by_cases hj : j = i
          · subst hj
            rw [← e1, ← e2, HX.out]
          · exact HJ.out j (by omega)
      · have hxz : ¬ (y : Int) = (x : Int) := by omega
        have HX := hid hxy
        clear hxy
        go_wp2_with fail
        go_quiet_o (fail)
        go_wp2
        go_ret
        exact ⟨false, rfl, hid ⟨(fun h => by cases h), fun hl => by
          obtain ⟨e1, e2⟩ := HXY.out
          exact absurd (e1.trans (((HP.out.1 hl).2 i).trans e2.symm)) HX.out⟩, hid (below_drewN BW.out _)⟩
    · have hltz : ¬ (i : Int) < (n : Int) := by omega
      obtain rfl : i = n := by omega
      go_wp2
      go_ret
      exact ⟨true, rfl, hid ⟨fun _ => HP.out.2 ⟨by trivial, fun j => by
        rcases Nat.lt_or_ge j i with hj | hj
        · exact HJ.out j hj
        · rw [H.out.out j hj, K.out.out j hj]⟩, fun _ => rfl⟩, BW⟩
theorem emayedge_says (ha : Bool) (mn mx : Int) (w : World) : Calls Tryz.prog 58 #[.agg #[.bool ha, .int .i64 mn, .int .i64 mx]] w (Says w (EMay ha mn mx)) :=
  (emayedge_any ha mn mx w).mono fun _ _ ⟨he, hb⟩ => ⟨_, he, hid decide_eq_true_iff, hb⟩
theorem rcheck_any' {w : World} {n c : Nat} {A : Option Addr} {l : List De} (h : Ds w w.heap.size A n c l) :
    Calls Tryz.prog 57 #[.slice A n c] w fun e w' => ∃ r : Int, e = .returned (.int .i64 r) ∧ Hid (r = kchk l) ∧ Hid (Below w.heap.size w w') :=
  (rcheck_any h (Nat.le_refl _)).mono fun _ _ ⟨he, hb⟩ => ⟨_, he, hid rfl, hb⟩
open Go.RowKit Go.Shelf Go.Lib
open Go.RowKit Go.Shelf Go.Lib
theorem krsame_says {w : World} {n c m d : Nat} {A D : Option Addr} {l r : List De} (h : Ds w w.heap.size A n c l) (k : Ds w w.heap.size D m d r) {P : Prop} (HP : Hid (P ↔ l = r)) :
    Calls Tryz.prog 39 #[.slice A n c, .slice D m d] w (Says w P) :=
  (krsame_any h k (Nat.le_refl _) (Nat.le_refl _)).mono fun _ _ ⟨he, hb⟩ => ⟨_, he, hid (decide_eq_true_iff.trans HP.out.symm), hb⟩
def c1 (s : Nat) : Nat := s / 2 ^^^ (if s % 2 = 1 then 3988292384 else 0)
def cn : Nat → Nat → Nat
  | 0, s => s
  | k + 1, s => cn k (c1 s)
theorem xor_div2 (a b : Nat) : (a ^^^ b) / 2 = a / 2 ^^^ b / 2 := by
  apply Nat.eq_of_testBit_eq
  intro i
  rw [Nat.testBit_xor, ← Nat.testBit_succ, ← Nat.testBit_succ, ← Nat.testBit_succ, Nat.testBit_xor]
theorem xor_mod2 (a b : Nat) : (a ^^^ b) % 2 = (a % 2 + b % 2) % 2 := by
  have h := Nat.testBit_xor a b 0
  simp only [Nat.testBit_zero] at h
  rcases Nat.mod_two_eq_zero_or_one a with ha | ha <;> rcases Nat.mod_two_eq_zero_or_one b with hb | hb <;> rcases Nat.mod_two_eq_zero_or_one (a ^^^ b) with hc | hc <;> simp [ha, hb, hc] at h ⊢
theorem xor_four (a b c d : Nat) : (a ^^^ b) ^^^ (c ^^^ d) = (a ^^^ c) ^^^ (b ^^^ d) := by
  rw [Nat.xor_assoc, Nat.xor_assoc, ← Nat.xor_assoc b, ← Nat.xor_assoc c, Nat.xor_comm b c]
theorem c1_xor (a b : Nat) : c1 (a ^^^ b) = c1 a ^^^ c1 b := by
  unfold c1
  rw [xor_div2, xor_mod2]
  rcases Nat.mod_two_eq_zero_or_one a with ha | ha <;> rcases Nat.mod_two_eq_zero_or_one b with hb | hb <;> simp only [ha, hb, Nat.reduceAdd, Nat.reduceMod, Nat.zero_ne_one, if_true, if_false, Nat.xor_zero]
  · rw [Nat.xor_assoc]
  · rw [Nat.xor_assoc, Nat.xor_assoc, Nat.xor_comm (b / 2)]
  · rw [xor_four, Nat.xor_self, Nat.xor_zero]
theorem cn_xor : ∀ (k a b : Nat), cn k (a ^^^ b) = cn k a ^^^ cn k b
  | 0, _, _ => rfl
  | k + 1, a, b => by show cn k (c1 _) = cn k (c1 a) ^^^ cn k (c1 b); rw [c1_xor, cn_xor k]
theorem cn_add : ∀ (j k s : Nat), cn (j + k) s = cn k (cn j s)
  | 0, k, s => by rw [Nat.zero_add]; rfl
  | j + 1, k, s => by rw [Nat.add_right_comm]; exact cn_add j k (c1 s)
theorem c1_lt {s : Nat} (h : s < 4294967296) : c1 s < 4294967296 := by
  unfold c1
  refine Nat.xor_lt_two_pow (n := 32) (by omega) ?_
  split <;> omega
theorem cn_lt : ∀ {k s : Nat}, s < 4294967296 → cn k s < 4294967296
  | 0, _, h => h
  | k + 1, s, h => show cn k (c1 s) < _ from cn_lt (c1_lt h)
def nm : List Nat → Nat
  | [] => 0
  | x :: xs => x + 256 * nm xs
def bys (V : Nat) : Nat → List Nat
  | 0 => []
  | k + 1 => V % 256 :: bys (V / 256) k
theorem bys_length (V : Nat) : ∀ k, (bys V k).length = k := by
  intro k
  induction k generalizing V with
  | zero => rfl
  | succ k ih => show (bys (V / 256) k).length + 1 = _; rw [ih]
theorem nm_bys {k V : Nat} (h : V < 256 ^ k) : nm (bys V k) = V := by
  induction k generalizing V with
  | zero => rw [Nat.pow_zero] at h; show 0 = V; omega
  | succ k ih =>
    show V % 256 + 256 * nm (bys (V / 256) k) = V
    rw [ih (Nat.div_lt_of_lt_mul (by rw [Nat.pow_succ, Nat.mul_comm] at h; exact h))]
    omega
theorem nm_lt : ∀ {xs : List Nat}, (∀ x ∈ xs, x < 256) → nm xs < 256 ^ xs.length
  | [], _ => by show 0 < 1; omega
  | x :: xs, h => by
    have h1 := nm_lt (xs := xs) (fun y hy => h y (List.mem_cons_of_mem _ hy))
    have h2 := h x List.mem_cons_self
    show x + 256 * nm xs < 256 ^ (xs.length + 1)
    rw [Nat.pow_succ]
    omega
theorem bys_nm : ∀ {xs : List Nat}, (∀ x ∈ xs, x < 256) → bys (nm xs) xs.length = xs
  | [], _ => rfl
  | x :: xs, h => by
    have h1 := bys_nm (xs := xs) (fun y hy => h y (List.mem_cons_of_mem _ hy))
    have h2 := h x List.mem_cons_self
    show (x + 256 * nm xs) % 256 :: bys ((x + 256 * nm xs) / 256) xs.length = _
    rw [show (x + 256 * nm xs) % 256 = x by omega, show (x + 256 * nm xs) / 256 = nm xs by omega, h1]
theorem bys_at {k V j : Nat} (h : j < k) : (bys V k)[j]? = some (V / 256 ^ j % 256) := by
  induction k generalizing V j with
  | zero => omega
  | succ k ih =>
    cases j with
    | zero => show some (V % 256) = _; rw [Nat.pow_zero, Nat.div_one]
    | succ j =>
      show (bys (V / 256) k)[j]? = _
      rw [ih (by omega), Nat.div_div_eq_div_mul, Nat.pow_succ, Nat.mul_comm 256]
theorem nm_append : ∀ (xs ys : List Nat), nm (xs ++ ys) = nm xs + 256 ^ xs.length * nm ys
  | [], ys => by show nm ys = 0 + 256 ^ 0 * nm ys; rw [Nat.pow_zero]; omega
  | x :: xs, ys => by
    show x + 256 * nm (xs ++ ys) = x + 256 * nm xs + 256 ^ (xs.length + 1) * nm ys
    rw [nm_append xs ys, Nat.pow_succ, Nat.mul_add, Nat.mul_comm (256 ^ xs.length) 256, Nat.mul_assoc]
    omega
def cb (s x : Nat) : Nat := cn 8 (s ^^^ x)
def crc (xs : List Nat) : Nat := xs.foldl cb 4294967295 ^^^ 4294967295
theorem cb_lt {s x : Nat} (hs : s < 4294967296) (hx : x < 256) : cb s x < 4294967296 := cn_lt (Nat.xor_lt_two_pow (n := 32) hs (by omega))
theorem fold_lt : ∀ (xs : List Nat) (s : Nat), (∀ x ∈ xs, x < 256) → s < 4294967296 → xs.foldl cb s < 4294967296
  | [], _, _, h => h
  | x :: xs, _, hx, h => fold_lt xs _ (fun y hy => hx y (List.mem_cons_of_mem _ hy)) (cb_lt h (hx x List.mem_cons_self))
theorem crc_lt {xs : List Nat} (h : ∀ x ∈ xs, x < 256) : crc xs < 4294967296 := Nat.xor_lt_two_pow (n := 32) (fold_lt _ _ h (by omega)) (by omega)
def be (V k : Nat) : List Nat := (bys V k).reverse
def bn (xs : List Nat) : Nat := nm xs.reverse
theorem be_length (V k : Nat) : (be V k).length = k := by simp [be, bys_length]
theorem bn_be {V k : Nat} (h : V < 256 ^ k) : bn (be V k) = V := by
  unfold bn be
  rw [List.reverse_reverse, nm_bys h]
theorem be_bn {xs : List Nat} (h : ∀ x ∈ xs, x < 256) : be (bn xs) xs.length = xs := by
  have e := bys_nm (xs := xs.reverse) (fun x hx => h x (List.mem_reverse.1 hx))
  rw [List.length_reverse] at e
  unfold be bn
  rw [e, List.reverse_reverse]
theorem bn_snoc (xs : List Nat) (x : Nat) : bn (xs ++ [x]) = 256 * bn xs + x := by
  unfold bn
  rw [List.reverse_append]
  show x + 256 * nm xs.reverse = _
  omega
theorem bn_lt {xs : List Nat} (h : ∀ x ∈ xs, x < 256) : bn xs < 256 ^ xs.length := by
  have e := nm_lt (xs := xs.reverse) (fun x hx => h x (List.mem_reverse.1 hx))
  rwa [List.length_reverse] at e
theorem bn_take {xs : List Nat} {k x : Nat} (h : xs[k]? = some x) : bn (xs.take (k + 1)) = 256 * bn (xs.take k) + x := by
  rw [List.take_add_one, h]
  exact bn_snoc _ _
theorem bn_nil : bn [] = 0 := rfl
theorem be_at {V k j : Nat} (h : j < k) : (be V k)[j]? = some (V / 256 ^ (k - 1 - j) % 256) := by
  unfold be
  rw [List.getElem?_reverse (by rw [bys_length]; exact h), bys_length, bys_at (by omega)]
theorem be_take {V k j : Nat} (h : j < k) : (be V k).take (j + 1) = (be V k).take j ++ [V / 256 ^ (k - 1 - j) % 256] := by
  rw [List.take_add_one, be_at h]
  rfl
theorem be_all (V k : Nat) : (be V k).take k = be V k := List.take_of_length_le (by rw [be_length]; exact Nat.le_refl _)
def lms (f : Nat → Nat) : Nat → List Nat
  | 0 => []
  | n + 1 => lms f n ++ be (f n) 4
theorem lms_length (f : Nat → Nat) : ∀ n, (lms f n).length = 4 * n
  | 0 => rfl
  | n + 1 => by
    show (lms f n ++ be (f n) 4).length = _
    rw [List.length_append, lms_length f n, be_length]
    omega
def dtx (s : Bool) (n : Nat) (f : Nat → Nat) (x : Nat) : List Nat := be (if s then 1 else 0) 1 ++ be x 2 ++ be n 1 ++ lms f n
theorem dtx_length (s : Bool) (n : Nat) (f : Nat → Nat) (x : Nat) : (dtx s n f x).length = 4 + 4 * n := by
  unfold dtx
  simp only [List.length_append, be_length, lms_length]
def lof (ys : List Nat) (n j : Nat) : Nat := if j < n then bn ((ys.drop (4 * j)).take 4) else 0
theorem take_mem {ys : List Nat} {i k y : Nat} (h : ∀ x ∈ ys, x < 256) (hy : y ∈ (ys.drop i).take k) : y < 256 := h y (List.mem_of_mem_drop (List.mem_of_mem_take hy))
theorem lof_lt {ys : List Nat} {n : Nat} (h : ∀ x ∈ ys, x < 256) (j : Nat) : lof ys n j < 4294967296 := by
  unfold lof
  split
  · have a := bn_lt (xs := (ys.drop (4 * j)).take 4) (fun x hx => take_mem h hx)
    have b : (256 : Nat) ^ ((ys.drop (4 * j)).take 4).length ≤ 256 ^ 4 := Nat.pow_le_pow_right (by omega) (by rw [List.length_take]; omega)
    have c : (256 : Nat) ^ 4 = 4294967296 := by decide
    omega
  · omega
theorem lof_out {ys : List Nat} {n j : Nat} (h : n ≤ j) : lof ys n j = 0 := if_neg (by omega)
theorem lms_part {f : Nat → Nat} {j : Nat} : ∀ {n : Nat}, j < n → ((lms f n).drop (4 * j)).take 4 = be (f j) 4
  | 0, h => absurd h (Nat.not_lt_zero _)
  | n + 1, h => by
    show ((lms f n ++ be (f n) 4).drop (4 * j)).take 4 = _
    have hl := lms_length f n
    rcases Nat.lt_or_ge j n with h1 | h1
    · rw [List.drop_append_of_le_length (by omega), List.take_append_of_le_length (by rw [List.length_drop]; omega)]
      exact lms_part h1
    · obtain rfl : j = n := by omega
      rw [← hl, List.drop_left, List.take_of_length_le (by rw [be_length]; exact Nat.le_refl _)]
theorem lof_lms {f : Nat → Nat} {n : Nat} (rest : List Nat) (hf : ∀ j, f j < 4294967296) (ho : ∀ j, n ≤ j → f j = 0) (j : Nat) : lof (lms f n ++ rest) n j = f j := by
  rcases Nat.lt_or_ge j n with h | h
  · unfold lof
    rw [if_pos h, List.drop_append_of_le_length (by rw [lms_length]; omega), List.take_append_of_le_length (by rw [List.length_drop, lms_length]; omega), lms_part h]
    exact bn_be (Nat.lt_of_lt_of_le (hf j) (by decide))
  · rw [lof_out h, ho j h]
theorem lms_lof {ys : List Nat} (h : ∀ x ∈ ys, x < 256) : ∀ {n m : Nat}, n ≤ m → 4 * m ≤ ys.length → lms (lof ys m) n = ys.take (4 * n)
  | 0, _, _, _ => rfl
  | n + 1, m, h1, h2 => by
    show lms (lof ys m) n ++ be (lof ys m n) 4 = _
    rw [lms_lof h (by omega) h2]
    unfold lof
    rw [if_pos (by omega)]
    have e := be_bn (xs := (ys.drop (4 * n)).take 4) (fun x hx => take_mem h hx)
    rw [show ((ys.drop (4 * n)).take 4).length = 4 by rw [List.length_take, List.length_drop]; omega] at e
    rw [e, show 4 * (n + 1) = 4 * n + 4 by omega, List.take_add]
end Go.Proofs.YtbankbehfjogpaaGreat
