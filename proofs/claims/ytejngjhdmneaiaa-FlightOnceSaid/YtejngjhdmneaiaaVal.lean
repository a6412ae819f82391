/- Flight: the document's Place, SameOne. -/
/- Flight: a load in its box; the document's SameOne. -/
/- Stores into rows, as steps of a walk that leaves a new world each. -/
/- Loads of a call's own memory. -/
import Derived.Test.YtejngjhdmneaiaaVaf
import Derived.Test.YtejngjhdmneaiaaMref
import Derived.Deep.DeepBigQuietO
import Derived.Deep.RegionHeld3
import Derived.Deep.QuietTactic
import Derived.Laws.Cover3
import Derived.Test.YtejngjhdmneaiaaGs
import Derived.Deep.MidRow
import Derived.Test.YtejngjhdmneaiaaVaj

namespace Go.Proofs.Ytejngjhdmneaiaa.Fli
set_option maxRecDepth 100000
open Go.RowKit Go.Shelf Go.Lib

/-- Where a Number stands. -/
def Plc (l : List (Ld Pm)) (x i : Int) : Prop := (i = -1 ∧ ∀ (j : Nat) (p : Ld Pm), l[j]? = some p → p.1 ≠ x) ∨ ∃ (j : Nat) (p : Ld Pm), i = (j : Int) ∧ l[j]? = some p ∧ p.1 = x
set_option maxHeartbeats 3200000 in
set_option maxRecDepth 100000 in
theorem place_any {w : World} {B n c : Nat} {x : Int} {A : Option Addr} {l : List (Ld Pm)} (h : Lls w B A n c l) (hB : B ≤ w.heap.size) :
    Calls Try.prog 39 #[.slice A n c, .int .i64 x] w fun e w' => ∃ i, e = .returned (.int .i64 i) ∧ Hid (Plc l x i) ∧ Hid (Below w.heap.size w w') := by
  have H := hid (h.mono hB)
  have hl := hid h.len
  have hcap := h.cap
  have hmax := h.max
  clear h hB
  go_enter Try.func39, Try.ntmps39
  go_wp2
  go_loopg [5] n (fun gg s5 wr => ∃ kk : Nat, kk ≤ n ∧ n - kk ≤ gg ∧ s5 = .int .i64 kk ∧ Hid (Below w.heap.size w wr) ∧ Hid (∀ (j : Nat) (p : Ld Pm), j < kk → l[j]? = some p → p.1 ≠ x))
  case atStart => exact ⟨0, Nat.zero_le _, by omega, rfl, hid (Below.refl _ _), hid (fun j p hj => absurd hj (Nat.not_lt_zero _))⟩
  case round =>
    obtain ⟨kk, hkk, hg, rfl, BW, HA⟩ := hrel
    by_cases hlt : kk < n
    · have hltz : (kk : Int) < (n : Int) := by omega
      obtain ⟨b, off, r, p, rfl, hb, hp, hr, hc⟩ := (H.out.below BW.out).get hlt
      obtain ⟨r1, r2, r3, rD⟩ := r
      have c0 : wr.cell? ⟨b, off + kk * 15, none⟩ = some (.int .i64 r1) := hc 0 _ rfl
      have HP := hid hp
      have hnu : r1 = p.1 := hr.nu
      have HN := hid hnu
      clear hp hc hr hnu
      by_cases hm : r1 = x
      · have HM := hid hm
        subst hm
        go_wp2_with fail
        go_ret
        exact ⟨_, rfl, hid (.inr ⟨kk, p, by go_num, HP.out, HN.out.symm⟩), BW⟩
      · have HM := hid hm
        go_wp2_with fail
        go_roundg (n - (kk + 1))
        case measure => omega
        case rel =>
          refine ⟨kk + 1, by omega, by omega, by go_num, BW, hid (fun j q hj hq => ?_)⟩
          by_cases hjk : j = kk
          · subst hjk
            rw [HP.out] at hq
            injection hq with hq
            subst hq
            rw [← HN.out]
            exact HM.out
          · exact HA.out j q (by omega) hq
    · have hltz : ¬ (kk : Int) < (n : Int) := by omega
      obtain rfl : kk = n := by omega
      go_wp2
      go_ret
      refine ⟨_, rfl, hid (.inl ⟨by go_num, fun j p hj => HA.out j p ?_ hj⟩), BW⟩
      rw [← hl.out]
      exact (List.getElem?_eq_some_iff.1 hj).1
end Go.Proofs.Ytejngjhdmneaiaa.Fli


namespace Go.Proofs.Ytejngjhdmneaiaa.Fli
set_option maxRecDepth 100000
open Go.RowKit Go.Shelf Go.Lib

/-- The cells of a load. -/
abbrev lcells (x y z : Int) (M : Nat → Dy) : Array Value := #[.int .i64 x, .int .i64 y, .int .i64 z, .bool (M 0).s, .slice (M 0).A (M 0).n (M 0).c, .int .i64 (M 0).x, .bool (M 1).s, .slice (M 1).A (M 1).n (M 1).c, .int .i64 (M 1).x, .bool (M 2).s, .slice (M 2).A (M 2).n (M 2).c, .int .i64 (M 2).x, .bool (M 3).s, .slice (M 3).A (M 3).n (M 3).c, .int .i64 (M 3).x]
theorem enc_lcells (x y z : Int) (M : Nat → Dy) : (encL (x, y, z, M)).toArray = lcells x y z M := rfl
/-- A load in its box. -/
def Lbx (w : World) (g : Nat) (x y z : Int) (M : Nat → Dy) : Prop := w.heap[g]? = some (.cells (lcells x y z M) 40 (0, 0))
section
variable {w w' : World} {g : Nat} {x y z : Int} {M : Nat → Dy}
theorem Lbx.lt (h : Lbx w g x y z M) : g < w.heap.size := lt_of_heap h
theorem Lbx.c0 (h : Lbx w g x y z M) : w.cell? ⟨g, 0, none⟩ = some (.int .i64 x) := by rw [cell_of_row w g _ _ _ (0, 0) h]; rfl
theorem Lbx.c1 (h : Lbx w g x y z M) : w.cell? ⟨g, 1, none⟩ = some (.int .i64 y) := by rw [cell_of_row w g _ _ _ (0, 0) h]; rfl
theorem Lbx.c2 (h : Lbx w g x y z M) : w.cell? ⟨g, 2, none⟩ = some (.int .i64 z) := by rw [cell_of_row w g _ _ _ (0, 0) h]; rfl
theorem Lbx.mass (h : Lbx w g x y z M) : w.rangeAt g 3 (mcells M).toList := fun j v hv => by
  rw [cell_of_row w g _ _ _ (0, 0) h]
  have hj : j < 12 := (List.getElem?_eq_some_iff.1 hv).1
  have e : (lcells x y z M)[3 + j]? = (mcells M)[j]? := by
    have hc : j = 0 ∨ j = 1 ∨ j = 2 ∨ j = 3 ∨ j = 4 ∨ j = 5 ∨ j = 6 ∨ j = 7 ∨ j = 8 ∨ j = 9 ∨ j = 10 ∨ j = 11 := by omega
    rcases hc with rfl | rfl | rfl | rfl | rfl | rfl | rfl | rfl | rfl | rfl | rfl | rfl <;> rfl
  rw [e]
  simpa using hv
theorem Lbx.frozen (h : Lbx w g x y z M) (k : Nat) : w.frozen? ⟨g, k, none⟩ = false := frozen_of_row w g k _ _ h
theorem Lbx.below {B : Nat} (h : Lbx w g x y z M) (hb : Below B w w') (hg : g < B) : Lbx w' g x y z M := (hb.block g hg).trans h
theorem Lbx.alloc (h : Lbx w g x y z M) (o : Obj) : Lbx (w.alloc o) g x y z M := (Below.heap_alloc w o g h.lt).trans h
theorem Lbx.new (w : World) (x y z : Int) (M : Nat → Dy) : Lbx (w.alloc (.cells (lcells x y z M) 40)) w.heap.size x y z M := heap_alloc_new w _
end
theorem mass_size_ (D : Nat → Dy) : (Try.prog.info? 27).map (·.size) = some (mcells D).toList.length := by kernel_rfl
/-- The mass of a load is loaded out of the load's box. -/
theorem wp_lm {ops : Array Oper} {rest : List Oper} {o : Oper} {a : Act} {w : World} {Q : Exit → Act → World → Prop} (hgd : o.guard = none) (x : Operand) (ho : o.op = .load 27 x)
    (b off : Nat) (D : Nat → Dy) (hx : a.eval x = .pointer (some ⟨b, off, none⟩)) (hg : w.rangeAt b off (mcells D).toList) (h : wpList Try.prog ops Q rest (a.put o.dst (.agg (mcells D))) w) : wpList Try.prog ops Q (o :: rest) a w :=
  wpList_load_mid hgd _ x ho b off hx (mcells D).toList _ hg Try.underlying27 rfl (mass_size_ D) h
theorem wp_lmg {ops : Array Oper} {rest : List Oper} {o : Oper} {a : Act} {w : World} {Q : Exit → Act → World → Prop} (hw : Region.wanted o (yielded ops a.tmps) = true) (x : Operand) (ho : o.op = .load 27 x)
    (b off : Nat) (D : Nat → Dy) (hx : a.eval x = .pointer (some ⟨b, off, none⟩)) (hg : w.rangeAt b off (mcells D).toList) (h : wpList Try.prog ops Q rest (a.put o.dst (.agg (mcells D))) w) : wpList Try.prog ops Q (o :: rest) a w :=
  wpList_step fun _ hK => by
    rw [if_pos hw]
    exact wp_load_mid _ x ho b off hx (mcells D).toList _ hg Try.underlying27 rfl (mass_size_ D) (hK _ _ h)

set_option maxHeartbeats 3200000 in
set_option maxRecDepth 100000 in
theorem sameOne_any {w : World} {x y z x' y' z' : Int} {D E : Nat → Dy} (h : Mrd w w.heap.size D) (k : Mrd w w.heap.size E) :
    Calls Try.prog 19 #[.agg (lcells x y z D), .agg (lcells x' y' z' E)] w (Says w (x = x' ∧ y = y' ∧ z = z' ∧ ∀ k, k < 4 → Dsm (D k) (E k))) := by
  obtain ⟨W, hW⟩ : ∃ W, W = (w.alloc (.cells (lcells x y z D) 40)).alloc (.cells (lcells x' y' z' E) 40) := ⟨_, rfl⟩
  have B0 := hid (show Below w.heap.size w W from hW ▸ below_two w _ _)
  have X0 := hid (show Lbx W w.heap.size x y z D from hW ▸ (heap_two w _ _).1)
  have Y0 := hid (show Lbx W (w.heap.size + 1) x' y' z' E from hW ▸ (heap_two w _ _).2)
  have x0 := X0.out.c0
  have x1 := X0.out.c1
  have x2 := X0.out.c2
  have xm := hid X0.out.mass
  have y0 := Y0.out.c0
  have y1 := Y0.out.c1
  have y2 := Y0.out.c2
  have ym := hid Y0.out.mass
  have CS := hid (emsame_raw (w := W) (D := D) (E := E) (P := ∀ k, k < 4 → Dsm (D k) (E k)) ((h.below B0.out).mono B0.out.size) ((k.below B0.out).mono B0.out.size) (hid Iff.rfl))
  have HW := hid hW
  clear hW h k
  by_cases e1 : x = x'
  case neg =>
    have e1b : (x == x') = false := beq_eq_false_iff_ne.2 e1
    clear CS
    go_enter Try.func19, Try.ntmps19
    go_upto_region 1 with fail
    rw [← HW.out]
    go_wp2
    go_ret
    exact ⟨false, rfl, ⟨(fun h => by cases h), fun h => h.elim⟩, B0.out⟩
  by_cases e2 : y = y'
  case neg =>
    have e2b : (y == y') = false := beq_eq_false_iff_ne.2 e2
    subst e1
    clear CS
    go_enter Try.func19, Try.ntmps19
    go_upto_region 1 with fail
    rw [← HW.out]
    go_wp2
    go_ret
    exact ⟨false, rfl, ⟨(fun h => by cases h), fun h => h.elim⟩, B0.out⟩
  by_cases e3 : z = z'
  case neg =>
    have e3b : (z == z') = false := beq_eq_false_iff_ne.2 e3
    subst e1 e2
    clear CS
    go_enter Try.func19, Try.ntmps19
    go_upto_region 1 with fail
    rw [← HW.out]
    go_wp2
    go_ret
    exact ⟨false, rfl, ⟨(fun h => by cases h), fun h => h.elim⟩, B0.out⟩
  subst e1 e2 e3
  go_enter Try.func19, Try.ntmps19
  go_upto_region 1 with fail
  rw [← HW.out]
  go_wp2_with (first
    | (with_reducible refine wp_lmg (by kernel_rfl) (.tmp 25) rfl w.heap.size 3 D rfl xm.out ?_)
    | (with_reducible refine wp_lmg (by kernel_rfl) (.tmp 27) rfl (w.heap.size + 1) 3 E rfl ym.out ?_)
    | fail)
  refine CS.out.mono ?_
  rintro e w0 ⟨r, rfl, Hr, hb⟩
  have B1 := hid (gbelow_on B0.out (Nat.le_refl _) hb.out)
  cases r with
  | false =>
    go_wp2
    go_ret
    exact ⟨false, rfl, ⟨(fun h => by cases h), fun hp => Hr.out.2 hp.2.2.2⟩, B1.out⟩
  | true =>
    go_wp2
    go_ret
    exact ⟨true, rfl, ⟨fun _ => by first | exact ⟨trivial, trivial, trivial, Hr.out.1 (by trivial)⟩, fun _ => rfl⟩, B1.out⟩
end Go.Proofs.Ytejngjhdmneaiaa.Fli


namespace Go.Proofs.Ytejngjhdmneaiaa
open Go.RowKit Go.Shelf Go.Lib
set_option maxRecDepth 100000

theorem gheap_setCells (g : Nat) (t : TypeId) : ∀ (vs : List Value) (o : Nat) (w : World) (cs : Array Value), w.heap[g]? = some (.cells cs t (0, 0)) →
    ∃ cs' : Array Value, (w.setCells g o vs).heap[g]? = some (.cells cs' t (0, 0)) ∧ cs'.size = cs.size ∧ ∀ j, j < cs.size → cs'[j]? = if o ≤ j ∧ j < o + vs.length then vs[j - o]? else cs[j]?
  | [], o, w, cs, h => ⟨cs, h, rfl, fun j _ => by rw [if_neg (by simp <;> omega)]⟩
  | v :: vs, o, w, cs, h => by
    rw [World.setCells]
    obtain ⟨cs', h1, h2, h3⟩ := gheap_setCells g t vs (o + 1) (w.setCell ⟨g, o, none⟩ v) _ (heap_setCell_same w g o cs t v h)
    refine ⟨cs', h1, by rw [h2, Array.size_setIfInBounds], fun j hj => ?_⟩
    rw [h3 j (by rw [Array.size_setIfInBounds]; exact hj), List.length_cons]
    by_cases h4 : o + 1 ≤ j ∧ j < o + 1 + vs.length
    · rw [if_pos h4, if_pos (by omega), show j - o = (j - (o + 1)) + 1 by omega, List.getElem?_cons_succ]
    · rw [if_neg h4, Array.getElem?_setIfInBounds]
      by_cases h5 : o = j
      · subst h5
        rw [if_pos rfl, if_pos hj, if_pos (by omega), Nat.sub_self, List.getElem?_cons_zero]
      · rw [if_neg h5, if_neg (by omega)]
theorem gq_setC (g : Nat) : ∀ (vs : List Value) (o : Nat) (w : World), (w.setCells g o vs).os = w.os ∧ (w.setCells g o vs).tape = w.tape ∧ (w.setCells g o vs).output = w.output ∧ w.heap.size = (w.setCells g o vs).heap.size ∧ ∀ b, b ≠ g → (w.setCells g o vs).heap[b]? = w.heap[b]?
  | [], _, _ => ⟨rfl, rfl, rfl, rfl, fun _ _ => rfl⟩
  | v :: vs, o, w => by
    obtain ⟨h1, h2, h3, h4, h5⟩ := gq_setC g vs (o + 1) (w.setCell ⟨g, o, none⟩ v)
    exact ⟨h1, h2, h3, (show w.heap.size = (w.setCell ⟨g, o, none⟩ v).heap.size by simp [World.setCell]).trans h4, fun b hb => (h5 b hb).trans (Below.heap_setCell _ _ _ b hb)⟩
/-- Block g alone may have changed. -/
structure Gq (g : Nat) (X X' : World) : Prop where
  os : X'.os = X.os
  tape : X'.tape = X.tape
  output : X'.output = X.output
  size : X.heap.size = X'.heap.size
  block : ∀ b, b ≠ g → X'.heap[b]? = X.heap[b]?
theorem Gq.set (g : Nat) (vs : List Value) (o : Nat) (w : World) : Gq g w (w.setCells g o vs) := by
  obtain ⟨h1, h2, h3, h4, h5⟩ := gq_setC g vs o w
  exact ⟨h1, h2, h3, h4, h5⟩
theorem Gq.bel {g B : Nat} {w X Y : World} (h : Gq g X Y) (hx : Below B w X) (hg : B ≤ g) : Below B w Y :=
  ⟨h.os.trans hx.os, h.tape.trans hx.tape, h.output.trans hx.output, Nat.le_trans hx.size (Nat.le_of_eq h.size), fun b hb => (h.block b (by omega)).trans (hx.block b hb)⟩
/-- A row of one-cell values is stored into a block of as many cells. -/
theorem gput_row {P : Program} {ops : Array Oper} {rest : List Oper} {o : Oper} {a : Act} {w : World} {Q : Exit → Act → World → Prop} (hgd : o.guard = none) (ty : TypeId) (x y : Operand) (ho : o.op = .store ty x y)
    (g : Nat) (t : TypeId) (old cs : Array Value) (hx : a.eval x = .pointer (some ⟨g, 0, none⟩)) (hy : a.eval y = .agg cs) (hg : w.heap[g]? = some (.cells old t (0, 0))) (hs : old.size = cs.size) (hi : (P.info? ty).map (·.size) = some cs.size) (h1 : cs.all (·.oneCell') = true)
    (h : ∀ w', w'.heap[g]? = some (.cells cs t (0, 0)) → Gq g w w' → wpList P ops Q rest (a.put o.dst undef) w') : wpList P ops Q (o :: rest) a w := by
  refine wpList_store_mid hgd ty x y ho g 0 cs hx hy (fun j hj => ?_) hi h1 (h _ ?_ (Gq.set g cs.toList 0 w))
  · rw [Nat.zero_add]
    refine ⟨?_, frozen_of_row w g j _ _ hg⟩
    rw [cell_of_row w g j _ _ (0, 0) hg]
    have : j < old.size := by omega
    simp [this]
  · obtain ⟨cs', e1, e2, e3⟩ := gheap_setCells g _ cs.toList 0 w _ hg
    have e : cs' = cs := by
      apply Array.ext_getElem?
      intro j
      by_cases hj : j < cs.size
      · rw [e3 j (by omega), if_pos ⟨Nat.zero_le _, by simpa using hj⟩, Nat.sub_zero, Array.getElem?_toList]
      · rw [Array.getElem?_eq_none (by omega), Array.getElem?_eq_none (by omega)]
    rw [e] at e1
    exact e1
theorem Gq.at {g b : Nat} {X Y : World} {o : Option Obj} (h : Gq g X Y) (hp : X.heap[b]? = o) (hn : b ≠ g) : Y.heap[b]? = o := (h.block b hn).trans hp
/-- One cell of a block. -/
theorem gput_cell {P : Program} {ops : Array Oper} {rest : List Oper} {o : Oper} {a : Act} {w : World} {Q : Exit → Act → World → Prop} (hgd : o.guard = none) (ty : TypeId) (x y : Operand) (ho : o.op = .store ty x y)
    (g j : Nat) (v : Value) (t : TypeId) (old cs : Array Value) (hx : a.eval x = .pointer (some ⟨g, j, none⟩)) (hy : a.eval y = v) (h1 : v.oneCell' = true) (hi : (P.info? ty).map (·.size) = some 1) (hg : w.heap[g]? = some (.cells old t (0, 0))) (hj : j < old.size)
    (e : old.setIfInBounds j v = cs) (h : ∀ w', w'.heap[g]? = some (.cells cs t (0, 0)) → Gq g w w' → wpList P ops Q rest (a.put o.dst undef) w') : wpList P ops Q (o :: rest) a w :=
  wpList_plain hgd fun _ hK => by
    have hc : v.cells = #[v] := by cases v <;> first | rfl | cases h1
    have hs := run_storeCells_cells (P := P) g j [v] 0 w (fun k hk => by
      obtain rfl : k = 0 := by simpa using hk
      rw [cell_of_row w g _ _ _ (0, 0) hg]
      simp only [Nat.add_zero]
      rw [Array.getElem?_eq_getElem hj]
      rfl) (fun k hk => frozen_of_row w g _ _ _ hg) (fun u hu => by obtain rfl : u = v := by simpa using hu
                                                                    exact h1)
    simp only [Nat.add_zero] at hs
    have hv : (storeVar ty ⟨g, j, none⟩ v).run P w = .ok () (w.setCells g j [v]) := by
      cases hq : P.info? ty with
      | none => simp [hq] at hi
      | some i =>
        have hz : i.size = 1 := by simpa [hq] using hi
        simp [storeVar, sizeOf, typeInfo, hq, hc, hz, hs]
    unfold Oper.wp execOp
    simp only [ho, hx, hy, Instr.storeAt, Instr.sureAddr, Sem.run_bind, Sem.run_pure, Result.andThen_ok, hv]
    refine hK _ _ (h _ ?_ (Gq.set g [v] j w))
    have hh := heap_setCell_same w g j _ _ v hg
    rw [e] at hh
    exact hh
/-- A row of cells within a block. -/
theorem gput_mid {P : Program} {ops : Array Oper} {rest : List Oper} {o : Oper} {a : Act} {w : World} {Q : Exit → Act → World → Prop} (hgd : o.guard = none) (ty : TypeId) (x y : Operand) (ho : o.op = .store ty x y)
    (g j : Nat) (t : TypeId) (old vs cs : Array Value) (hx : a.eval x = .pointer (some ⟨g, j, none⟩)) (hy : a.eval y = .agg vs) (hg : w.heap[g]? = some (.cells old t (0, 0))) (hj : j + vs.size ≤ old.size) (hi : (P.info? ty).map (·.size) = some vs.size) (h1 : vs.all (·.oneCell') = true)
    (hcs : cs.size = old.size) (e : ∀ k, k < old.size → cs[k]? = if j ≤ k ∧ k < j + vs.size then vs[k - j]? else old[k]?)
    (h : ∀ w', w'.heap[g]? = some (.cells cs t (0, 0)) → Gq g w w' → wpList P ops Q rest (a.put o.dst undef) w') : wpList P ops Q (o :: rest) a w := by
  refine wpList_store_mid hgd ty x y ho g j vs hx hy (fun k hk => ?_) hi h1 (h _ ?_ (Gq.set g vs.toList j w))
  · refine ⟨?_, frozen_of_row w g (j + k) _ _ hg⟩
    rw [cell_of_row w g (j + k) _ _ (0, 0) hg]
    have : j + k < old.size := by omega
    simp [this]
  · obtain ⟨cs', e1, e2, e3⟩ := gheap_setCells g _ vs.toList j w _ hg
    have e4 : cs' = cs := by
      apply Array.ext_getElem?
      intro k
      by_cases hk : k < old.size
      · rw [e3 k (by omega), e k hk, Array.length_toList]
        split
        · rw [Array.getElem?_toList]
        · rfl
      · rw [Array.getElem?_eq_none (by omega), Array.getElem?_eq_none (by omega)]
    rw [e4] at e1
    exact e1
end Go.Proofs.Ytejngjhdmneaiaa


namespace Go.Proofs.Ytejngjhdmneaiaa.Fli
open Go.RowKit Go.Shelf Go.Lib

theorem infoLd : (Try.prog.info? 40).map (fun i => (i.zero, i.size, i.bytes)) = some (some (.agg (lcells 0 0 0 D0)), 15, 184) := by kernel_rfl
theorem sizeLd : (Try.prog.info? 40).map (·.size) = some 15 := by kernel_rfl
/-- A load of the call's own: its limbs lie from block B on. -/
structure Low (B : Nat) (w : World) (r : Lr) (p : Ld Pm) : Prop where
  nu : r.1 = p.1
  ep : r.2.1 = p.2.1
  cp : r.2.2.1 = p.2.2.1
  pl : pmd r.2.2.2 = p.2.2.2
  lim : ∀ k, k < 4 → Mk w 75 B (r.2.2.2 k).A (r.2.2.2 k).n (r.2.2.2 k).c (r.2.2.2 k).f
section
variable {w w' : World} {B : Nat} {r : Lr} {p : Ld Pm}
theorem Low.lrd (h : Low B w r p) : Lrd w w.heap.size r p := ⟨h.nu, h.ep, h.cp, h.pl, fun k hk => (h.lim k hk).rd, fun k hk => (h.lim k hk).nil_of⟩
theorem Low.below (h : Low B w r p) (hb : Below w.heap.size w w') : Low B w' r p := ⟨h.nu, h.ep, h.cp, h.pl, fun k hk => (h.lim k hk).below hb (Nat.le_refl _)⟩
theorem Low.mono {C : Nat} (h : Low B w r p) (hC : C ≤ B) : Low C w r p := ⟨h.nu, h.ep, h.cp, h.pl, fun k hk => (h.lim k hk).mono hC⟩
end
/-- Rows of cells of uint32 stay. -/
def Keep32 (B : Nat) (w w' : World) : Prop := ∀ g cs, B ≤ g → w.heap[g]? = some (.cells cs 75 (0, 0)) → w'.heap[g]? = w.heap[g]?
theorem Keep32.below {B : Nat} {w w' : World} (h : Below w.heap.size w w') : Keep32 B w w' := fun g _ _ hg => h.block g (lt_of_heap hg)
theorem Mk.keep32 {w w' : World} {B n c : Nat} {A : Option Addr} {f : Nat → Nat} (h : Mk w 75 B A n c f) (k : Keep32 B w w') : Mk w' 75 B A n c f := by
  refine ⟨h.cap, h.max, h.lt, h.out, ?_⟩
  rcases h.own with h0 | ⟨g, cs, hA, hg, hc, hs⟩
  · exact .inl h0
  · exact .inr ⟨g, cs, hA, hg, (k g cs hg hc).trans hc, hs⟩
theorem Low.keep {w w' : World} {B : Nat} {r : Lr} {p : Ld Pm} (h : Low B w r p) (k : Keep32 B w w') : Low B w' r p := ⟨h.nu, h.ep, h.cp, h.pl, fun j hj => Mk.keep32 (h.lim j hj) k⟩
theorem Gw.blk {w : World} {B k n : Nat} {e : TypeId} {v : Value} {cs : List Value} (h : Gw w B e k v n cs) : ∀ q, v.ownBlock = some q → ∃ cur, w.heap[q]? = some (.cells cur e (0, 0)) := by
  obtain ⟨⟨hl, hor⟩, hm⟩ := h
  intro q hq
  rcases hor with ⟨rfl, h0⟩ | ⟨g, cap, cur, rfl, hB, hg, hn, hc, hs, ht⟩
  · cases hq
  · injection hq with hq
    subst hq
    exact ⟨cur, hg⟩
/-- A change of a row of loads leaves limbs alone. -/
theorem Keep32.grown {B C n : Nat} {w w' : World} {v : Value} {cs : List Value} (hO : Gw w C 40 15 v n cs) (h : w.grownBy w' v.ownBlock) : Keep32 B w w' := fun g cur _ hg =>
  h.block g (lt_of_heap hg) (fun e => by
    obtain ⟨cur', hc⟩ := Gw.blk hO g e.symm
    rw [hg] at hc
    injection hc with hc
    injection hc with _ ht _
    exact absurd ht (by decide))
/-- Loads of the call's own, one by one. -/
def PairO (B : Nat) (w : World) (rs : List Lr) (l : List (Ld Pm)) : Prop := rs.length = l.length ∧ ∀ (j : Nat) (r : Lr) (p : Ld Pm), rs[j]? = some r → l[j]? = some p → Low B w r p
section
variable {w w' : World} {B : Nat} {rs : List Lr} {l : List (Ld Pm)}
theorem PairO.nil (B : Nat) (w : World) : PairO B w [] [] := ⟨rfl, by simp⟩
theorem PairO.keep (h : PairO B w rs l) (k : Keep32 B w w') : PairO B w' rs l := ⟨h.1, fun j r p h1 h2 => (h.2 j r p h1 h2).keep k⟩
theorem PairO.below (h : PairO B w rs l) (hb : Below w.heap.size w w') : PairO B w' rs l := h.keep (Keep32.below hb)
theorem PairO.mono {C : Nat} (h : PairO B w rs l) (hC : C ≤ B) : PairO C w rs l := ⟨h.1, fun j r p h1 h2 => (h.2 j r p h1 h2).mono hC⟩
theorem PairO.pair (h : PairO B w rs l) : PairL w w.heap.size rs l := ⟨h.1, fun j r p h1 h2 => (h.2 j r p h1 h2).lrd⟩
theorem PairO.snoc {r : Lr} {p : Ld Pm} (h : PairO B w rs l) (k : Low B w r p) : PairO B w (rs ++ [r]) (l ++ [p]) := by
  refine ⟨by rw [List.length_append, List.length_append, h.1]; rfl, fun j a b ha hb => ?_⟩
  rcases Nat.lt_or_ge j rs.length with hj | hj
  · rw [List.getElem?_append_left hj] at ha
    rw [List.getElem?_append_left (by rw [← h.1]; exact hj)] at hb
    exact h.2 j a b ha hb
  · have hj1 := (List.getElem?_eq_some_iff.1 ha).1
    simp at hj1
    obtain rfl : j = rs.length := by omega
    rw [List.getElem?_append_right (Nat.le_refl _), Nat.sub_self] at ha
    rw [List.getElem?_append_right (by rw [h.1]; exact Nat.le_refl _), h.1, Nat.sub_self] at hb
    simp at ha hb
    subst ha hb
    exact k
end
/-- A slice of loads of the call's own, from block B on. -/
structure Lof (B : Nat) (w : World) (v : Value) (rs : List Lr) (l : List (Ld Pm)) : Prop where
  row : Gw w B 40 15 v l.length (cellsL rs)
  pair : PairO B w rs l
section
variable {w w' : World} {B : Nat} {v : Value} {rs : List Lr} {l : List (Ld Pm)}
theorem Lof.nil (B : Nat) (w : World) : Lof B w (.slice none 0 0) [] [] := ⟨Gw.nil _ _ _ _, PairO.nil _ _⟩
theorem Lof.below (h : Lof B w v rs l) (hb : Below w.heap.size w w') : Lof B w' v rs l := ⟨h.row.below hb, h.pair.below hb⟩
theorem Lof.mono {C : Nat} (h : Lof B w v rs l) (hC : C ≤ B) : Lof C w v rs l := ⟨h.row.mono hC, h.pair.mono hC⟩
theorem Lof.form (h : Lof B w v rs l) : ∃ A c, v = .slice A l.length c ∧ Lls w w.heap.size A l.length c l := by
  obtain ⟨A, c, e, hg, _⟩ := h.row.form
  exact ⟨A, c, e, rs, hg, h.pair.pair⟩
/-- One more load of its own is appended. -/
theorem Lof.snoc {v' : Value} {r : Lr} {p : Ld Pm} (h : Lof B w v rs l) (ht : TurnG w w' B 40 15 v v' (l.length + 1) (cellsL rs ++ cellsL [r])) (k : Low B w r p) : Lof B w' v' (rs ++ [r]) (l ++ [p]) := by
  have hk : Keep32 B w w' := Keep32.grown h.row ht.grown
  refine ⟨?_, (h.pair.keep hk).snoc (k.keep hk)⟩
  have := ht.own
  rw [← cellsL_append] at this
  rwa [List.length_append]
end
end Go.Proofs.Ytejngjhdmneaiaa.Fli

