/- MailNames, walked. -/
import Derived.Test.YtbankbehfjogpaaWbak

namespace Go.Proofs.Ytbankbehfjogpaa
open Go.RowKit Go.Shelf Go.Lib
set_option maxRecDepth 100000

theorem Wr.pbox {g b : Nat} {X Y : World} {m : Md} (h : Wr g X Y) (hp : Pbox X b m) (hn : b ≠ g) : Pbox Y b m := (h.block b hn).trans hp
theorem Wr.bel {g B : Nat} {w X Y : World} (h : Wr g X Y) (hx : Below B w X) (hg : B ≤ g) : Below B w Y :=
  ⟨h.os.trans hx.os, h.tape.trans hx.tape, h.output.trans hx.output, Nat.le_trans hx.size (Nat.le_of_eq h.size), fun b hb => (h.block b (by omega)).trans (hx.block b hb)⟩
theorem Wr.mkl {g B : Nat} {X Y : World} {A : Option Addr} {n c : Nat} {f : Nat → Nat} (h : Wr g X Y) (hm : Mk X 34 B A n c f) (hg : g < B) : Mk Y 34 B A n c f :=
  ⟨hm.cap, hm.max, hm.lt, hm.out, hm.own.imp id (by
    rintro ⟨b, cs, hA, hb, hh, hs, hc⟩
    exact ⟨b, cs, hA, hb, (h.block b (by omega)).trans hh, hs, hc⟩)⟩
theorem wp_pstore_k {ops : Array Oper} {rest : List Oper} {o : Oper} {a : Act} {w : World} {Q : Exit → Act → World → Prop} (hgd : o.guard = none) (x y : Operand) (ho : o.op = .store 31 x y)
    (g : Nat) (p m : Md) (hx : a.eval x = .pointer (some ⟨g, 0, none⟩)) (hy : a.eval y = .agg (mdc m)) (hg : Pbox w g p) (h : ∀ w', Pbox w' g m → Wr g w w' → wpList Try.prog ops Q rest (a.put o.dst undef) w') : wpList Try.prog ops Q (o :: rest) a w :=
  wp_pstore hgd x y ho g p m hx hy hg (h _ (hg.store m) (wr_pstore w g m))
theorem wp_pdyad_k {ops : Array Oper} {rest : List Oper} {o : Oper} {a : Act} {w : World} {Q : Exit → Act → World → Prop} (hgd : o.guard = none) (x y : Operand) (ho : o.op = .store 24 x y)
    (g j : Nat) (s : Bool) (A : Option Addr) (n c : Nat) (z : Int) (p m : Md) (hx : a.eval x = .pointer (some ⟨g, j, none⟩)) (hy : a.eval y = .agg #[.bool s, .slice A n c, .int .i64 z]) (hg : Pbox w g p) (hj : j + 3 ≤ 24)
    (e : (((mdc p).setIfInBounds j (.bool s)).setIfInBounds (j + 1) (.slice A n c)).setIfInBounds (j + 2) (.int .i64 z) = mdc m)
    (h : ∀ w', Pbox w' g m → Wr g w w' → wpList Try.prog ops Q rest (a.put o.dst undef) w') : wpList Try.prog ops Q (o :: rest) a w :=
  wpList_store_mid hgd _ x y ho g j #[.bool s, .slice A n c, .int .i64 z] hx hy (fun i hi => by
    refine ⟨?_, hg.frozen (j + i)⟩
    rw [cell_of_row w g (j + i) _ _ (0, 0) hg]
    have h1 : j + i < (mdc p).size := by have : i < 3 := hi; show j + i < 24; omega
    simp [h1]) (by kernel_rfl) (all_oneCell_toArray (cs := [.bool s, .slice A n c, .int .i64 z]) (by intro v hv; simp only [List.mem_cons, List.not_mem_nil, or_false] at hv; rcases hv with rfl | rfl | rfl <;> rfl)) (h _ (hg.put3 j (j + 1) (j + 2) _ _ _ m e) (wr_setCells g _ j w))
theorem wp_pcell_k {ops : Array Oper} {rest : List Oper} {o : Oper} {a : Act} {w : World} {Q : Exit → Act → World → Prop} (hgd : o.guard = none) (ty : TypeId) (x y : Operand) (ho : o.op = .store ty x y)
    (g j : Nat) (v : Value) (p m : Md) (hx : a.eval x = .pointer (some ⟨g, j, none⟩)) (hy : a.eval y = v) (h1 : v.oneCell' = true) (hi : (Try.prog.info? ty).map (·.size) = some 1) (hg : Pbox w g p) (hj : j < 24)
    (e : (mdc p).setIfInBounds j v = mdc m) (h : ∀ w', Pbox w' g m → Wr g w w' → wpList Try.prog ops Q rest (a.put o.dst undef) w') : wpList Try.prog ops Q (o :: rest) a w :=
  wpList_plain hgd fun _ hK => by
    have hc : v.cells = #[v] := by cases v <;> first | rfl | cases h1
    have hs := run_storeCells_cells (P := Try.prog) g j [v] 0 w (fun k hk => by
      obtain rfl : k = 0 := by simpa using hk
      rw [cell_of_row w g _ _ _ (0, 0) hg]
      have h24 : (mdc p).size = 24 := rfl
      simp only [Nat.add_zero]
      rw [Array.getElem?_eq_getElem (by omega)]
      rfl) (fun k hk => hg.frozen _) (fun u hu => by obtain rfl : u = v := by simpa using hu
                                                     exact h1)
    simp only [Nat.add_zero] at hs
    have hv : (storeVar ty ⟨g, j, none⟩ v).run Try.prog w = .ok () (w.setCell ⟨g, j, none⟩ v) := by
      cases hq : Try.prog.info? ty with
      | none => simp [hq] at hi
      | some i =>
        have hz : i.size = 1 := by simpa [hq] using hi
        simp [storeVar, sizeOf, typeInfo, hq, hc, hz, hs]
        rfl
    unfold Oper.wp execOp
    simp only [ho, hx, hy, Instr.storeAt, Instr.sureAddr, Sem.run_bind, Sem.run_pure, Result.andThen_ok, hv]
    exact hK _ _ (h _ (hg.put1 j v m e) (Wr.set g w j v))

/-- The telling mail's content. -/
def tellM : Ml := ⟨6, 0, 0, 0, 0, 0, d0z, d0z, d0z, d0z, false, [], true, -2147483647, 2147483647, [0, 4294967295]⟩
def two (a b j : Nat) : Nat := if j = 0 then a else if j = 1 then b else 0
def tellD (A : Option Addr) : Md := ⟨6, 0, 0, 0, 0, 0, D0, false, none, 0, 0, true, -2147483647, 2147483647, A, 2, 2⟩
theorem tell_ml (A : Option Addr) : mlOf (tellD A) [] (two 0 4294967295) = tellM := rfl
def tellC : List Nat := [0, 0, 0, 0, 0, 0, 0, 1, 0, 0, 0, 1, 255, 255, 255, 255, 2, 0, 0, 0, 0, 255, 255, 255, 255]
theorem tell_cont : cont tellM = tellC := by decide
theorem tell_may : MayM tellM := by
  refine ⟨⟨⟨by decide, by decide, by decide, by decide, by decide, by decide, fun _ _ => rfl, d0_fit, d0_fit, d0_fit, d0_fit, fun _ => ⟨rfl, rfl⟩, fun _ _ => ⟨rfl, rfl⟩, fun d hd => (by cases hd), by decide, fun _ => ⟨rfl, rfl⟩, fun h => (by cases h), by decide, ?_, by decide, fun h => absurd rfl h⟩,
    d0_may, d0_may, d0_may, d0_may⟩, by decide, by decide, ?_⟩
  · intro d hd
    have : d = 0 ∨ d = 4294967295 := by simpa [tellM] using hd
    omega
  · intro j h
    have : j = 0 := by have : j + 1 < 2 := h; omega
    subst this
    decide
theorem rd_two (w : World) (a b : Nat) (_ : a < 4294967296) (_ : b < 4294967296) : Mk (w.alloc (.cells #[.int .u32 (a : Int), .int .u32 (b : Int)] 34)) 34 w.heap.size (some ⟨w.heap.size, 0, none⟩) 2 2 (two a b) :=
  ⟨Nat.le_refl _, by omega, fun j => by unfold two; split <;> (try split) <;> omega, fun j hj => by unfold two; rw [if_neg (by omega), if_neg (by omega)], .inr ⟨w.heap.size, _, rfl, Nat.le_refl _, heap_alloc_new w _, Nat.le_refl _, fun j hj => by
    have hc : j = 0 ∨ j = 1 := by omega
    rcases hc with rfl | rfl <;> rfl⟩⟩
theorem prd_six {w : World} {t : Nat → Nat} (m : Md) (hk : m.kd < 256) (hD : m.D = D0) (h0 : m.A = none ∧ m.n = 0 ∧ m.c = 0) (ht : Rd w w.heap.size m.T m.k m.d t) : Prd w w.heap.size m [] t := by
  refine ⟨hk, ?_, ?_, ht⟩
  · rw [hD]; exact fun _ _ => Rd.nil _ _
  · rw [h0.1, h0.2.1, h0.2.2]; exact Ds.nil' _ _

/-- The mails that may not be. -/
def naA (A : Option Addr) (c : Nat) (B : Option Addr) (d : Nat) : Md := ⟨0, 1, 2, 3, 4, 0, of4 ⟨false, A, 1, c, 0, sole 6⟩ ⟨false, B, 1, d, 0, sole 1⟩ d0 d0, false, none, 0, 0, false, 0, 0, none, 0, 0⟩
def naB (A : Option Addr) (c : Nat) (B : Option Addr) (d : Nat) : Md := ⟨1, 1, 8, 3, 4, 0, of4 ⟨false, A, 1, c, 0, sole 6⟩ ⟨false, B, 1, d, 0, sole 1⟩ d0 d0, false, none, 0, 0, false, 0, 0, none, 0, 0⟩
def naC (A : Option Addr) (c : Nat) (B : Option Addr) (d : Nat) : Md := ⟨1, 1, 2, 65536, 4, 0, of4 ⟨false, A, 1, c, 0, sole 6⟩ ⟨false, B, 1, d, 0, sole 1⟩ d0 d0, false, none, 0, 0, false, 0, 0, none, 0, 0⟩
def naD (A : Option Addr) (c : Nat) (B : Option Addr) (d : Nat) (E : Option Addr) (e : Nat) : Md := ⟨1, 1, 2, 3, 4, 0, of4 ⟨false, A, 1, c, 0, sole 6⟩ ⟨false, B, 1, d, 0, sole 1⟩ ⟨false, E, 1, e, 0, sole 1⟩ d0, false, none, 0, 0, false, 0, 0, none, 0, 0⟩
def naE (A : Option Addr) : Md := ⟨6, 0, 0, 0, 0, 0, D0, false, none, 0, 0, false, 0, 0, A, 2, 2⟩
def naF : Md := ⟨6, 0, 0, 0, 0, 0, D0, false, none, 0, 0, false, 1, 0, none, 0, 0⟩
def naG : Md := ⟨2, 0, 0, 0, 0, 1, D0, false, none, 0, 0, false, 0, 0, none, 0, 0⟩
theorem naA_no (A : Option Addr) (c : Nat) (B : Option Addr) (d : Nat) : ¬ PMay (naA A c B d) [] (fun _ => 0) := fun h => absurd h.1.1 (by show ¬ 1 ≤ 0; omega)
theorem naB_no (A : Option Addr) (c : Nat) (B : Option Addr) (d : Nat) : ¬ PMay (naB A c B d) [] (fun _ => 0) := fun h => absurd h.2.1.2.1.2 (by show ¬ (8 : Int) < 8; omega)
theorem naC_no (A : Option Addr) (c : Nat) (B : Option Addr) (d : Nat) : ¬ PMay (naC A c B d) [] (fun _ => 0) := fun h => absurd h.2.1.2.2.1.2 (by show ¬ (65536 : Int) ≤ 65535; omega)
theorem naD_no (A : Option Addr) (c : Nat) (B : Option Addr) (d : Nat) (E : Option Addr) (e : Nat) : ¬ PMay (naD A c B d E e) [] (fun _ => 0) := fun h => by
  obtain ⟨_, _, _, _, _, _, _, _, h, _⟩ := h
  rcases h with h | h | h
  · exact absurd h (by show ¬ 1 = 2; omega)
  · exact absurd h (by show ¬ 1 = 3; omega)
  · exact absurd h.1.2.2 (by show ¬ 1 = 0; omega)
theorem naE_no (A : Option Addr) : ¬ PMay (naE A) [] (two 3 3) := fun h => by
  obtain ⟨_, _, _, _, _, _, h, _⟩ := h
  exact absurd (h.2 0 (by show 0 + 1 < 2; omega)) (by show ¬ 3 < 3; omega)
theorem naF_no : ¬ PMay naF [] (fun _ => 0) := fun h => by
  obtain ⟨_, _, _, _, _, h, _⟩ := h
  exact absurd h (by decide)
theorem naG_no : ¬ PMay naG [] (fun _ => 0) := fun h => by
  obtain ⟨_, _, h, _⟩ := h
  exact absurd h (by decide)
theorem prd_pu {w : World} {L : Nat} {A B E : Option Addr} {c d e n : Nat} {f : Nat → Nat} (m : Md) (hk : m.kd < 256) (hD : m.D = of4 ⟨false, A, 1, c, 0, sole 6⟩ ⟨false, B, 1, d, 0, sole 1⟩ ⟨false, E, n, e, 0, f⟩ d0) (h0 : m.A = none ∧ m.n = 0 ∧ m.c = 0 ∧ m.T = none ∧ m.k = 0 ∧ m.d = 0)
    (hA : Mk w 34 L A 1 c (sole 6)) (hB : Mk w 34 L B 1 d (sole 1)) (hE : Mk w 34 L E n e f) : Prd w w.heap.size m [] (fun _ => 0) := by
  refine ⟨hk, fun k hk => ?_, ?_, ?_⟩
  · rw [hD]
    have hc : k = 0 ∨ k = 1 ∨ k = 2 ∨ k = 3 := by omega
    rcases hc with rfl | rfl | rfl | rfl
    · exact hA.rd
    · exact hB.rd
    · exact hE.rd
    · exact Rd.nil _ _
  · rw [h0.1, h0.2.1, h0.2.2.1]; exact Ds.nil' _ _
  · rw [h0.2.2.2.1, h0.2.2.2.2.1, h0.2.2.2.2.2]; exact Rd.nil _ _
theorem mk_un {w : World} {A : Option Addr} {n c : Nat} {f : Nat → Nat} {B : Nat} (h : Mk w 34 B A n c f) : Mk w 34 0 A n c f := h.mono (Nat.zero_le _)
/-- Four boxes that are made in a row. -/
def four (w : World) : World := (((w.alloc (.cells (mdc (Mz 0)) 31)).alloc (.cells (mdc (Mz 0)) 31)).alloc (.cells (mdc (Mz 0)) 31)).alloc (.cells (mdc (Mz 0)) 31)
theorem four_new (w : World) : Pbox (four w) w.heap.size (Mz 0) ∧ Pbox (four w) (w.heap.size + 1) (Mz 0) ∧ Pbox (four w) (w.heap.size + 1 + 1) (Mz 0) ∧ Pbox (four w) (w.heap.size + 1 + 1 + 1) (Mz 0) ∧ Below w.heap.size w (four w) ∧ (four w).heap.size = w.heap.size + 4 := by
  unfold four
  refine ⟨?_, ?_, ?_, ?_, ?_, by simp⟩
  · exact (((show Pbox (w.alloc (.cells (mdc (Mz 0)) 31)) w.heap.size (Mz 0) from heap_alloc_new w _).alloc _).alloc _).alloc _
  · have h : Pbox ((w.alloc (.cells (mdc (Mz 0)) 31)).alloc (.cells (mdc (Mz 0)) 31)) (w.heap.size + 1) (Mz 0) := by
      have := heap_alloc_new (w.alloc (.cells (mdc (Mz 0)) 31)) (.cells (mdc (Mz 0)) 31)
      rwa [World.size_alloc] at this
    exact (h.alloc _).alloc _
  · have h : Pbox (((w.alloc (.cells (mdc (Mz 0)) 31)).alloc (.cells (mdc (Mz 0)) 31)).alloc (.cells (mdc (Mz 0)) 31)) (w.heap.size + 1 + 1) (Mz 0) := by
      have := heap_alloc_new ((w.alloc (.cells (mdc (Mz 0)) 31)).alloc (.cells (mdc (Mz 0)) 31)) (.cells (mdc (Mz 0)) 31)
      rwa [World.size_alloc, World.size_alloc] at this
    exact h.alloc _
  · have := heap_alloc_new (((w.alloc (.cells (mdc (Mz 0)) 31)).alloc (.cells (mdc (Mz 0)) 31)).alloc (.cells (mdc (Mz 0)) 31)) (.cells (mdc (Mz 0)) 31)
    rwa [World.size_alloc, World.size_alloc, World.size_alloc] at this
  · exact ((((Below.refl _ w).alloc (Nat.le_refl _) _).alloc (by simp) _).alloc (by simp <;> omega) _).alloc (by simp <;> omega) _

set_option maxHeartbeats 51200000 in
theorem mnames_walk {w : World} : Calls Try.prog 3 #[] w fun e w' => e = .returned (.bool true) ∧ Below w.heap.size w w' := by
  have CP := hid (fun X => push_any X)
  go_enter Try.func3, Try.ntmps3
  go_upto_region 1 with fail
  go_wp2_with fail
  refine (CP.out _).mono ?_
  rintro e w1 ⟨A1, c1, B1, d1, rfl, hA1, hB1, hb1⟩
  have B0 := hid hb1.out
  replace hA1 := hid (mk_un hA1.out)
  replace hB1 := hid (mk_un hB1.out)
  clear hb1
  go_wp2_with fail
  refine (CP.out _).mono ?_
  rintro e w2 ⟨A2, c2, B2, d2, rfl, hA2, hB2, hb2⟩
  replace B0 := hid (B0.out.trans (hb2.out.mono B0.out.size))
  replace hA2 := hid (mk_un hA2.out)
  replace hB2 := hid (mk_un hB2.out)
  replace hA1 := hid (hA1.out.stay hb2.out)
  replace hB1 := hid (hB1.out.stay hb2.out)
  clear hb2
  go_wp2_with fail
  refine (CP.out _).mono ?_
  rintro e w3 ⟨A3, c3, B3, d3, rfl, hA3, hB3, hb3⟩
  replace B0 := hid (B0.out.trans (hb3.out.mono B0.out.size))
  replace hA3 := hid (mk_un hA3.out)
  replace hB3 := hid (mk_un hB3.out)
  replace hA1 := hid (hA1.out.stay hb3.out)
  replace hB1 := hid (hB1.out.stay hb3.out)
  replace hA2 := hid (hA2.out.stay hb3.out)
  replace hB2 := hid (hB2.out.stay hb3.out)
  clear hb3
  go_wp2_with fail
  refine (CP.out _).mono ?_
  rintro e w4 ⟨A4, c4, B4, d4, rfl, hA4, hB4, hb4⟩
  replace B0 := hid (B0.out.trans (hb4.out.mono B0.out.size))
  replace hA4 := hid (mk_un hA4.out)
  replace hB4 := hid (mk_un hB4.out)
  replace hA1 := hid (hA1.out.stay hb4.out)
  replace hB1 := hid (hB1.out.stay hb4.out)
  replace hA2 := hid (hA2.out.stay hb4.out)
  replace hB2 := hid (hB2.out.stay hb4.out)
  replace hA3 := hid (hA3.out.stay hb4.out)
  replace hB3 := hid (hB3.out.stay hb4.out)
  clear hb4
  clear CP
  obtain ⟨z1, z2, z3, z4, K0, s0⟩ := four_new w4
  replace z1 := hid z1
  replace z2 := hid z2
  replace z3 := hid z3
  replace z4 := hid z4
  replace K0 := hid K0
  replace s0 := hid s0
  obtain ⟨g1, hg1⟩ : ∃ g, g = w4.heap.size := ⟨_, rfl⟩
  go_upto_region 2 with (first
    | (refine wp_pstore_k rfl (.tmp 1) (.tmp 22) (by with_reducible rfl) (w4.heap.size) (Mz 0) (pushD A1 c1 B1 d1) (by rfl) (by rfl) (show Pbox (four w4) _ _ from z1.out) ?_; intro X1 Q1 h1; replace h1 := (show Wr w4.heap.size (four w4) X1 from h1); have K1 := hid (h1.bel K0.out (by omega)); have s1 := hid (h1.size.symm.trans s0.out); replace z2 := hid (h1.pbox z2.out (by omega)); replace z3 := hid (h1.pbox z3.out (by omega)); replace z4 := hid (h1.pbox z4.out (by omega)); have q1 := hid Q1; clear Q1 h1 z1 K0 s0)
    | (refine wp_pstore_k rfl (.tmp 2) (.tmp 23) (by with_reducible rfl) (w4.heap.size + 1) (Mz 0) (pushD A2 c2 B2 d2) (by rfl) (by rfl) (z2.out) ?_; intro X2 Q2 h2; have K2 := hid (h2.bel K1.out (by omega)); have s2 := hid (h2.size.symm.trans s1.out); replace q1 := hid (h2.pbox q1.out (by omega)); replace z3 := hid (h2.pbox z3.out (by omega)); replace z4 := hid (h2.pbox z4.out (by omega)); have q2 := hid Q2; clear Q2 h2 z2 K1 s1)
    | (refine wp_pstore_k rfl (.tmp 3) (.tmp 24) (by with_reducible rfl) (w4.heap.size + 1 + 1) (Mz 0) (pushD A3 c3 B3 d3) (by rfl) (by rfl) (z3.out) ?_; intro X3 Q3 h3; have K3 := hid (h3.bel K2.out (by omega)); have s3 := hid (h3.size.symm.trans s2.out); replace q1 := hid (h3.pbox q1.out (by omega)); replace q2 := hid (h3.pbox q2.out (by omega)); replace z4 := hid (h3.pbox z4.out (by omega)); have q3 := hid Q3; clear Q3 h3 z3 K2 s2)
    | (refine wp_pstore_k rfl (.tmp 4) (.tmp 25) (by with_reducible rfl) (w4.heap.size + 1 + 1 + 1) (Mz 0) (pushD A4 c4 B4 d4) (by rfl) (by rfl) (z4.out) ?_; intro X4 Q4 h4; have K4 := hid (h4.bel K3.out (by omega)); have s4 := hid (h4.size.symm.trans s3.out); replace q1 := hid (h4.pbox q1.out (by omega)); replace q2 := hid (h4.pbox q2.out (by omega)); replace q3 := hid (h4.pbox q3.out (by omega)); have q4 := hid Q4; clear Q4 h4 z4 K3 s3)
    | fail)
  clear hg1
  have CO := hid (of_small 1 (by omega) (by omega) X4)
  go_wp2_with fail
  refine CO.out.mono ?_
  rintro e Y0 ⟨E, ce, rfl, hE, hb⟩
  replace K4 := hid (K4.out.trans (hb.out.mono K4.out.size))
  replace q1 := hid (q1.out.below hb.out (by have := s4.out; omega))
  replace q2 := hid (q2.out.below hb.out (by have := s4.out; omega))
  replace q3 := hid (q3.out.below hb.out (by have := s4.out; omega))
  replace q4 := hid (q4.out.below hb.out (by have := s4.out; omega))
  clear CO hb
  go_upto_region 3 with (first
    | (refine wp_pcell_k rfl 5 (.tmp 27) (.const (.int .u8 0)) (by with_reducible rfl) (w4.heap.size) 0 (.int .u8 0) (pushD A1 c1 B1 d1) (naA A1 c1 B1 d1) (by rfl) (by rfl) rfl (by kernel_rfl) q1.out (by decide) rfl ?_; intro Y1 Q1 h1; replace hE := hid (h1.mkl hE.out (by have := s4.out; omega)); replace K4 := hid (h1.bel K4.out (by omega)); replace q2 := hid (h1.pbox q2.out (by omega)); replace q3 := hid (h1.pbox q3.out (by omega)); replace q4 := hid (h1.pbox q4.out (by omega)); have q1 := hid Q1; clear Q1 h1)
    | (refine wp_pcell_k rfl 3 (.tmp 28) (.const (.int .i64 8)) (by with_reducible rfl) (w4.heap.size + 1) 2 (.int .i64 8) (pushD A2 c2 B2 d2) (naB A2 c2 B2 d2) (by rfl) (by rfl) rfl (by kernel_rfl) q2.out (by decide) rfl ?_; intro Y2 Q2 h2; replace hE := hid (h2.mkl hE.out (by have := s4.out; omega)); replace K4 := hid (h2.bel K4.out (by omega)); replace q1 := hid (h2.pbox q1.out (by omega)); replace q3 := hid (h2.pbox q3.out (by omega)); replace q4 := hid (h2.pbox q4.out (by omega)); have q2 := hid Q2; clear Q2 h2)
    | (refine wp_pcell_k rfl 3 (.tmp 29) (.const (.int .i64 65536)) (by with_reducible rfl) (w4.heap.size + 1 + 1) 3 (.int .i64 65536) (pushD A3 c3 B3 d3) (naC A3 c3 B3 d3) (by rfl) (by rfl) rfl (by kernel_rfl) q3.out (by decide) rfl ?_; intro Y3 Q3 h3; replace hE := hid (h3.mkl hE.out (by have := s4.out; omega)); replace K4 := hid (h3.bel K4.out (by omega)); replace q1 := hid (h3.pbox q1.out (by omega)); replace q2 := hid (h3.pbox q2.out (by omega)); replace q4 := hid (h3.pbox q4.out (by omega)); have q3 := hid Q3; clear Q3 h3)
    | (refine wp_pdyad_k rfl (.tmp 31) (.tmp 26) (by with_reducible rfl) (w4.heap.size + 1 + 1 + 1) 12 false E 1 ce 0 (pushD A4 c4 B4 d4) (naD A4 c4 B4 d4 E ce) (by rfl) (by rfl) q4.out (by decide) rfl ?_; intro Y4 Q4 h4; replace hE := hid (h4.mkl hE.out (by have := s4.out; omega)); replace K4 := hid (h4.bel K4.out (by omega)); replace q1 := hid (h4.pbox q1.out (by omega)); replace q2 := hid (h4.pbox q2.out (by omega)); replace q3 := hid (h4.pbox q3.out (by omega)); have q4 := hid Q4; clear Q4 h4)
    | fail)
  replace hE := hid (mk_un hE.out)
  have n1 := hid (prd_pu (naA A1 c1 B1 d1) (show (0 : Nat) < 256 by decide) rfl ⟨rfl, rfl, rfl, rfl, rfl, rfl⟩ (hA1.out.stay K4.out) (hB1.out.stay K4.out) (Mk.nil _ _ 0))
  have n2 := hid (prd_pu (naB A2 c2 B2 d2) (show (1 : Nat) < 256 by decide) rfl ⟨rfl, rfl, rfl, rfl, rfl, rfl⟩ (hA2.out.stay K4.out) (hB2.out.stay K4.out) (Mk.nil _ _ 0))
  have n3 := hid (prd_pu (naC A3 c3 B3 d3) (show (1 : Nat) < 256 by decide) rfl ⟨rfl, rfl, rfl, rfl, rfl, rfl⟩ (hA3.out.stay K4.out) (hB3.out.stay K4.out) (Mk.nil _ _ 0))
  have n4 := hid (prd_pu (naD A4 c4 B4 d4 E ce) (show (1 : Nat) < 256 by decide) rfl ⟨rfl, rfl, rfl, rfl, rfl, rfl⟩ (hA4.out.stay K4.out) (hB4.out.stay K4.out) hE.out)
  replace B0 := hid (B0.out.trans (K4.out.mono B0.out.size))
  clear hA1 hB1 hA2 hB2 hA3 hB3 hA4 hB4 hE K4 s4
  obtain ⟨g1, hg1⟩ : ∃ g, g = w4.heap.size := ⟨_, rfl⟩
  rw [← hg1] at q1
  replace hg1 := hid hg1
  obtain ⟨g2, hg2⟩ : ∃ g, g = w4.heap.size + 1 := ⟨_, rfl⟩
  rw [← hg2] at q2
  replace hg2 := hid hg2
  obtain ⟨g3, hg3⟩ : ∃ g, g = w4.heap.size + 1 + 1 := ⟨_, rfl⟩
  rw [← hg3] at q3
  replace hg3 := hid hg3
  obtain ⟨g4, hg4⟩ : ∃ g, g = w4.heap.size + 1 + 1 + 1 := ⟨_, rfl⟩
  rw [← hg4] at q4
  replace hg4 := hid hg4
  have t5 := hid (rd_two Y4 3 3 (by decide) (by decide))
  -- @3a
  obtain ⟨s5, hs5⟩ : ∃ s, s = (Y4.alloc (.cells #[.int .u32 3, .int .u32 3] 34)).heap.size := ⟨_, rfl⟩
  have z5 := hid (show Pbox ((Y4.alloc (.cells #[.int .u32 3, .int .u32 3] 34)).alloc (.cells (mdc (Mz 0)) 31)) s5 (Mz 0) from hs5 ▸ box_zero _)
  have y5 := hid (show Below s5 (Y4.alloc (.cells #[.int .u32 3, .int .u32 3] 34)) ((Y4.alloc (.cells #[.int .u32 3, .int .u32 3] 34)).alloc (.cells (mdc (Mz 0)) 31)) from (Below.refl _ _).alloc (Nat.le_of_eq hs5) _)
  replace hs5 := hid hs5
  go_upto_region 4 with (first | (refine wp_pstore_k rfl (.tmp 5) (.tmp 33) (by with_reducible rfl) (Y4.heap.size + 1) (Mz 0) (naE (some ⟨Y4.heap.size, 0, none⟩)) (by rfl) (by rfl) (show Pbox ((Y4.alloc (.cells #[.int .u32 3, .int .u32 3] 34)).alloc (.cells (mdc (Mz 0)) 31)) (Y4.heap.size + 1) (Mz 0) from (show s5 = Y4.heap.size + 1 from hs5.out.trans (by rw [World.size_alloc])) ▸ z5.out) ?_; intro Y5 Q5 h5; replace h5 := (show Wr (Y4.heap.size + 1) ((Y4.alloc (.cells #[.int .u32 3, .int .u32 3] 34)).alloc (.cells (mdc (Mz 0)) 31)) Y5 from h5); have q5 := hid Q5; have f5 := hid (show Below s5 (Y4.alloc (.cells #[.int .u32 3, .int .u32 3] 34)) Y5 from h5.bel y5.out (Nat.le_of_eq (hs5.out.trans (by rw [World.size_alloc])))); clear Q5 h5) | fail)
  replace f5 := hid (hs5.out ▸ f5.out)
  clear z5 y5 hs5
  -- @3
  replace t5 := hid (Mk.stay (w := Y4.alloc (.cells #[.int .u32 3, .int .u32 3] 34)) t5.out f5.out)
  have K := hid (show Below Y4.heap.size Y4 Y5 from ((Below.refl _ Y4).alloc (Nat.le_refl _) _).trans (f5.out.mono (by rw [World.size_alloc]; omega)))
  replace q1 := hid (q1.out.below K.out q1.out.lt)
  replace q2 := hid (q2.out.below K.out q2.out.lt)
  replace q3 := hid (q3.out.below K.out q3.out.lt)
  replace q4 := hid (q4.out.below K.out q4.out.lt)
  replace n1 := hid (n1.out.on (K.out))
  replace n2 := hid (n2.out.on (K.out))
  replace n3 := hid (n3.out.on (K.out))
  replace n4 := hid (n4.out.on (K.out))
  replace B0 := hid (B0.out.trans ((K.out).mono B0.out.size))
  have n5 := hid (prd_six (naE (some ⟨Y4.heap.size, 0, none⟩)) (show (6 : Nat) < 256 by decide) rfl ⟨rfl, rfl, rfl⟩ t5.out.rd)
  obtain ⟨g5, hg5⟩ : ∃ g, g = Y4.heap.size + 1 := ⟨_, rfl⟩
  rw [← hg5] at q5
  replace hg5 := hid hg5
  clear K t5 f5
  -- @3b
  obtain ⟨s6, hs6⟩ : ∃ s, s = (Y5).heap.size := ⟨_, rfl⟩
  have z6 := hid (show Pbox ((Y5).alloc (.cells (mdc (Mz 0)) 31)) s6 (Mz 0) from hs6 ▸ box_zero _)
  have y6 := hid (show Below s6 (Y5) ((Y5).alloc (.cells (mdc (Mz 0)) 31)) from (Below.refl _ _).alloc (Nat.le_of_eq hs6) _)
  replace hs6 := hid hs6
  go_upto_region 5 with (first | (refine wp_pstore_k rfl (.tmp 6) (.tmp 35) (by with_reducible rfl) (Y5.heap.size) (Mz 0) naF (by rfl) (by rfl) (show Pbox ((Y5).alloc (.cells (mdc (Mz 0)) 31)) (Y5.heap.size) (Mz 0) from (show s6 = Y5.heap.size from hs6.out.trans (by rfl)) ▸ z6.out) ?_; intro Y6 Q6 h6; replace h6 := (show Wr (Y5.heap.size) ((Y5).alloc (.cells (mdc (Mz 0)) 31)) Y6 from h6); have q6 := hid Q6; have f6 := hid (show Below s6 (Y5) Y6 from h6.bel y6.out (Nat.le_of_eq (hs6.out.trans (by rfl)))); clear Q6 h6) | fail)
  replace f6 := hid (hs6.out ▸ f6.out)
  clear z6 y6 hs6
  replace q1 := hid (q1.out.below f6.out q1.out.lt)
  replace q2 := hid (q2.out.below f6.out q2.out.lt)
  replace q3 := hid (q3.out.below f6.out q3.out.lt)
  replace q4 := hid (q4.out.below f6.out q4.out.lt)
  replace q5 := hid (q5.out.below f6.out q5.out.lt)
  replace n1 := hid (n1.out.on (f6.out))
  replace n2 := hid (n2.out.on (f6.out))
  replace n3 := hid (n3.out.on (f6.out))
  replace n4 := hid (n4.out.on (f6.out))
  replace n5 := hid (n5.out.on (f6.out))
  replace B0 := hid (B0.out.trans ((f6.out).mono B0.out.size))
  have n6 := hid (show Prd Y6 Y6.heap.size naF [] (fun _ => 0) from prd_six naF (show (6 : Nat) < 256 by decide) rfl ⟨rfl, rfl, rfl⟩ (Rd.nil _ _))
  obtain ⟨g6, hg6⟩ : ∃ g, g = Y5.heap.size := ⟨_, rfl⟩
  rw [← hg6] at q6
  replace hg6 := hid hg6
  clear f6
  obtain ⟨s7, hs7⟩ : ∃ s, s = (Y6).heap.size := ⟨_, rfl⟩
  have z7 := hid (show Pbox ((Y6).alloc (.cells (mdc (Mz 0)) 31)) s7 (Mz 0) from hs7 ▸ box_zero _)
  have y7 := hid (show Below s7 (Y6) ((Y6).alloc (.cells (mdc (Mz 0)) 31)) from (Below.refl _ _).alloc (Nat.le_of_eq hs7) _)
  replace hs7 := hid hs7
  go_upto_region 6 with (first | (refine wp_pstore_k rfl (.tmp 7) (.tmp 36) (by with_reducible rfl) (Y6.heap.size) (Mz 0) naG (by rfl) (by rfl) (show Pbox ((Y6).alloc (.cells (mdc (Mz 0)) 31)) (Y6.heap.size) (Mz 0) from (show s7 = Y6.heap.size from hs7.out.trans (by rfl)) ▸ z7.out) ?_; intro Y7 Q7 h7; replace h7 := (show Wr (Y6.heap.size) ((Y6).alloc (.cells (mdc (Mz 0)) 31)) Y7 from h7); have q7 := hid Q7; have f7 := hid (show Below s7 (Y6) Y7 from h7.bel y7.out (Nat.le_of_eq (hs7.out.trans (by rfl)))); clear Q7 h7) | fail)
  replace f7 := hid (hs7.out ▸ f7.out)
  clear z7 y7 hs7
  replace q1 := hid (q1.out.below f7.out q1.out.lt)
  replace q2 := hid (q2.out.below f7.out q2.out.lt)
  replace q3 := hid (q3.out.below f7.out q3.out.lt)
  replace q4 := hid (q4.out.below f7.out q4.out.lt)
  replace q5 := hid (q5.out.below f7.out q5.out.lt)
  replace q6 := hid (q6.out.below f7.out q6.out.lt)
  replace n1 := hid (n1.out.on (f7.out))
  replace n2 := hid (n2.out.on (f7.out))
  replace n3 := hid (n3.out.on (f7.out))
  replace n4 := hid (n4.out.on (f7.out))
  replace n5 := hid (n5.out.on (f7.out))
  replace n6 := hid (n6.out.on (f7.out))
  replace B0 := hid (B0.out.trans ((f7.out).mono B0.out.size))
  have n7 := hid (show Prd Y7 Y7.heap.size naG [] (fun _ => 0) from prd_six naG (show (2 : Nat) < 256 by decide) rfl ⟨rfl, rfl, rfl⟩ (Rd.nil _ _))
  obtain ⟨g7, hg7⟩ : ∃ g, g = Y6.heap.size := ⟨_, rfl⟩
  rw [← hg7] at q7
  replace hg7 := hid hg7
  clear f7
  -- @5
  -- @60
  have CC := hid (check_no n1.out (naA_no _ _ _ _))
  go_wp2_with (first | (refine wp_gmail (by kernel_rfl) (.tmp 1) (by with_reducible rfl) (w4.heap.size) (naA A1 c1 B1 d1) (by rfl) (hg1.out ▸ q1.out) ?_) | fail)
  refine CC.out.mono ?_
  rintro e V1 ⟨rfl, hb⟩
  clear CC
  replace q2 := hid (q2.out.below hb.out q2.out.lt)
  replace q3 := hid (q3.out.below hb.out q3.out.lt)
  replace q4 := hid (q4.out.below hb.out q4.out.lt)
  replace q5 := hid (q5.out.below hb.out q5.out.lt)
  replace q6 := hid (q6.out.below hb.out q6.out.lt)
  replace q7 := hid (q7.out.below hb.out q7.out.lt)
  replace n2 := hid (n2.out.on (hb.out))
  replace n3 := hid (n3.out.on (hb.out))
  replace n4 := hid (n4.out.on (hb.out))
  replace n5 := hid (n5.out.on (hb.out))
  replace n6 := hid (n6.out.on (hb.out))
  replace n7 := hid (n7.out.on (hb.out))
  replace B0 := hid (B0.out.trans ((hb.out).mono B0.out.size))
  clear hb n1 q1 hg1
  -- @61
  have CC := hid (check_no n2.out (naB_no _ _ _ _))
  go_wp2_with (first | (refine wp_gmail (by kernel_rfl) (.tmp 2) (by with_reducible rfl) (w4.heap.size + 1) (naB A2 c2 B2 d2) (by rfl) (hg2.out ▸ q2.out) ?_) | fail)
  refine CC.out.mono ?_
  rintro e V2 ⟨rfl, hb⟩
  clear CC
  replace q3 := hid (q3.out.below hb.out q3.out.lt)
  replace q4 := hid (q4.out.below hb.out q4.out.lt)
  replace q5 := hid (q5.out.below hb.out q5.out.lt)
  replace q6 := hid (q6.out.below hb.out q6.out.lt)
  replace q7 := hid (q7.out.below hb.out q7.out.lt)
  replace n3 := hid (n3.out.on (hb.out))
  replace n4 := hid (n4.out.on (hb.out))
  replace n5 := hid (n5.out.on (hb.out))
  replace n6 := hid (n6.out.on (hb.out))
  replace n7 := hid (n7.out.on (hb.out))
  replace B0 := hid (B0.out.trans ((hb.out).mono B0.out.size))
  clear hb n2 q2 hg2
  -- @62
  have CC := hid (check_no n3.out (naC_no _ _ _ _))
  go_wp2_with (first | (refine wp_gmail (by kernel_rfl) (.tmp 3) (by with_reducible rfl) (w4.heap.size + 1 + 1) (naC A3 c3 B3 d3) (by rfl) (hg3.out ▸ q3.out) ?_) | fail)
  refine CC.out.mono ?_
  rintro e V3 ⟨rfl, hb⟩
  clear CC
  replace q4 := hid (q4.out.below hb.out q4.out.lt)
  replace q5 := hid (q5.out.below hb.out q5.out.lt)
  replace q6 := hid (q6.out.below hb.out q6.out.lt)
  replace q7 := hid (q7.out.below hb.out q7.out.lt)
  replace n4 := hid (n4.out.on (hb.out))
  replace n5 := hid (n5.out.on (hb.out))
  replace n6 := hid (n6.out.on (hb.out))
  replace n7 := hid (n7.out.on (hb.out))
  replace B0 := hid (B0.out.trans ((hb.out).mono B0.out.size))
  clear hb n3 q3 hg3
  -- @63
  have CC := hid (check_no n4.out (naD_no _ _ _ _ _ _))
  go_wp2_with (first | (refine wp_gmail (by kernel_rfl) (.tmp 4) (by with_reducible rfl) (w4.heap.size + 1 + 1 + 1) (naD A4 c4 B4 d4 E ce) (by rfl) (hg4.out ▸ q4.out) ?_) | fail)
  refine CC.out.mono ?_
  rintro e V4 ⟨rfl, hb⟩
  clear CC
  replace q5 := hid (q5.out.below hb.out q5.out.lt)
  replace q6 := hid (q6.out.below hb.out q6.out.lt)
  replace q7 := hid (q7.out.below hb.out q7.out.lt)
  replace n5 := hid (n5.out.on (hb.out))
  replace n6 := hid (n6.out.on (hb.out))
  replace n7 := hid (n7.out.on (hb.out))
  replace B0 := hid (B0.out.trans ((hb.out).mono B0.out.size))
  clear hb n4 q4 hg4
  -- @64
  have CC := hid (check_no n5.out (naE_no _))
  go_wp2_with (first | (refine wp_gmail (by kernel_rfl) (.tmp 5) (by with_reducible rfl) (Y4.heap.size + 1) (naE (some ⟨Y4.heap.size, 0, none⟩)) (by rfl) (hg5.out ▸ q5.out) ?_) | fail)
  refine CC.out.mono ?_
  rintro e V5 ⟨rfl, hb⟩
  clear CC
  replace q6 := hid (q6.out.below hb.out q6.out.lt)
  replace q7 := hid (q7.out.below hb.out q7.out.lt)
  replace n6 := hid (n6.out.on (hb.out))
  replace n7 := hid (n7.out.on (hb.out))
  replace B0 := hid (B0.out.trans ((hb.out).mono B0.out.size))
  clear hb n5 q5 hg5
  -- @65
  have CC := hid (check_no n6.out naF_no)
  go_wp2_with (first | (refine wp_gmail (by kernel_rfl) (.tmp 6) (by with_reducible rfl) (Y5.heap.size) naF (by rfl) (hg6.out ▸ q6.out) ?_) | fail)
  refine CC.out.mono ?_
  rintro e V6 ⟨rfl, hb⟩
  clear CC
  replace q7 := hid (q7.out.below hb.out q7.out.lt)
  replace n7 := hid (n7.out.on (hb.out))
  replace B0 := hid (B0.out.trans ((hb.out).mono B0.out.size))
  clear hb n6 q6 hg6
  -- @66
  have CC := hid (check_no n7.out naG_no)
  go_wp2_with (first | (refine wp_gmail (by kernel_rfl) (.tmp 7) (by with_reducible rfl) (Y6.heap.size) naG (by rfl) (hg7.out ▸ q7.out) ?_) | fail)
  refine CC.out.mono ?_
  rintro e V7 ⟨rfl, hb⟩
  clear CC
  replace B0 := hid (B0.out.trans ((hb.out).mono B0.out.size))
  clear hb n7 q7 hg7
  -- @7
  have t8 := hid (rd_two V7 0 4294967295 (by decide) (by decide))
  have n8 := hid (show Prd (V7.alloc (.cells #[.int .u32 0, .int .u32 4294967295] 34)) (V7.alloc (.cells #[.int .u32 0, .int .u32 4294967295] 34)).heap.size (tellD (some ⟨V7.heap.size, 0, none⟩)) [] (two 0 4294967295) from prd_six (tellD (some ⟨V7.heap.size, 0, none⟩)) (show (6 : Nat) < 256 by decide) rfl ⟨rfl, rfl, rfl⟩ t8.out.rd)
  have CW : Hid (Calls Try.prog 10 #[.agg (mdc (tellD (some ⟨V7.heap.size, 0, none⟩)))] (V7.alloc (.cells #[.int .u32 0, .int .u32 4294967295] 34)) fun e w' => ∃ v, e = .returned (.tuple #[v, .int .i64 0]) ∧ Hid (Ow w' (V7.alloc (.cells #[.int .u32 0, .int .u32 4294967295] 34)).heap.size v (frm 6 tellC)) ∧ Hid (Below (V7.alloc (.cells #[.int .u32 0, .int .u32 4294967295] 34)).heap.size (V7.alloc (.cells #[.int .u32 0, .int .u32 4294967295] 34)) w')) := hid (by have hw := write_good n8.out ((may_iff n8.out (fun k _ => Int.le_refl 0)).2 (show MayM tellM from tell_may)); rw [tell_ml, tell_cont] at hw; exact hw)
  have KA := hid (show Below V7.heap.size V7 (V7.alloc (.cells #[.int .u32 0, .int .u32 4294967295] 34)) from (Below.refl _ V7).alloc (Nat.le_refl _) _)
  replace B0 := hid (B0.out.trans (KA.out.mono B0.out.size))
  clear n8 t8 KA
  go_wp2_with fail
  refine CW.out.mono ?_
  rintro e U1 ⟨v8, rfl, hO, hb⟩
  replace B0 := hid (B0.out.trans (hb.out.mono B0.out.size))
  obtain ⟨xs, hxs⟩ : ∃ xs, xs = frm 6 tellC := ⟨_, rfl⟩
  rw [← hxs] at hO
  have F := hid (show flt xs = 0 by rw [hxs]; exact flt_frm (by decide) (by decide) (by decide))
  have F2 := hid (show xs.getD 2 0 = 6 by rw [hxs]; exact frm_kind _ _)
  have F3 := hid (show (xs.take (xs.length - 4)).drop 5 = tellC by rw [hxs]; exact frm_body _ _)
  have FR := hid (show RdOk xs tellM from ⟨F.out, tell_may, F2.out.symm, tell_cont.trans F3.out.symm⟩)
  obtain ⟨A8, c8, rfl, hY⟩ := hO.out.shape
  have HY := hid hY
  have CT : Hid (Calls Try.prog 11 #[.slice A8 xs.length c8] U1 fun e w' => ∃ A c, e = .returned (.tuple #[.int .u8 6, .slice A 25 c, .int .i64 0]) ∧ Hid (Below U1.heap.size U1 w')) := hid ((Take_good HY.out (Nat.le_refl _) F.out).mono fun e w' he => by
    obtain ⟨v, he, hO, hb⟩ := he
    rw [F3.out] at hO
    rw [F2.out] at he
    obtain ⟨A, c, e2, _⟩ := hO.out.shape
    exact ⟨A, c, by rw [he, e2]; rfl, hb⟩)
  clear hO hb CW hY hxs F F2 F3
  -- @8
  go_wp2_with fail
  refine CT.out.mono ?_
  rintro e U2 ⟨A9, c9, rfl, hb⟩
  replace B0 := hid (B0.out.trans (hb.out.mono B0.out.size))
  have CR := hid (read_good ((HY.out.below hb.out).mono hb.out.size) FR.out)
  clear CT hb HY FR
  -- @9
  go_wp2_with fail
  refine CR.out.mono ?_
  rintro e U3 ⟨m1, rfl, hO, hb⟩
  replace B0 := hid (B0.out.trans (hb.out.mono B0.out.size))
  have M1 := hid (show m1.mn = -2147483647 from hO.out.mn)
  have M2 := hid (show m1.k = 2 from by have h2 := hO.out.tg.rd.1; have h3 : tellM.le.length = 2 := rfl; omega)
  clear hO hb CR
  obtain ⟨s9, hs9⟩ : ∃ s, s = (U3).heap.size := ⟨_, rfl⟩
  have z9 := hid (show Pbox ((U3).alloc (.cells (mdc (Mz 0)) 31)) s9 (Mz 0) from hs9 ▸ box_zero _)
  have y9 := hid (show Below s9 (U3) ((U3).alloc (.cells (mdc (Mz 0)) 31)) from (Below.refl _ _).alloc (Nat.le_of_eq hs9) _)
  replace hs9 := hid hs9
  go_upto_region 10 with (first | (refine wp_pstore_k rfl (.tmp 14) (.tmp 86) (by with_reducible rfl) (U3.heap.size) (Mz 0) m1 (by rfl) (by rfl) (show Pbox ((U3).alloc (.cells (mdc (Mz 0)) 31)) (U3.heap.size) (Mz 0) from (show s9 = U3.heap.size from hs9.out.trans (by rfl)) ▸ z9.out) ?_; intro U4 Q9 h9; replace h9 := (show Wr (U3.heap.size) ((U3).alloc (.cells (mdc (Mz 0)) 31)) U4 from h9); have q9 := hid Q9; have f9 := hid (show Below s9 (U3) U4 from h9.bel y9.out (Nat.le_of_eq (hs9.out.trans (by rfl)))); clear Q9 h9) | fail)
  replace f9 := hid (hs9.out ▸ f9.out)
  clear z9 y9 hs9
  replace B0 := hid (B0.out.trans (f9.out.mono B0.out.size))
  clear f9
  -- @10
  obtain ⟨i, hi, hz, hsz, hby⟩ := info_one u8_info
  have hmk : ∀ (n : Nat) (w' : World), n ≤ 5000 → (Instr.makeSlice 37 (.int .i64 (n : Int)) (.int .i64 (n : Int))).run Try.prog w' = .ok (.slice (some ⟨w'.heap.size, 0, none⟩) n n) (w'.alloc (.cells (madeCells #[.int .u8 0] n) 5)) := fun n w' hn => by
    have hr := run_make_row1 (P := Try.prog) 37 5 i (.int .u8 0) (by kernel_rfl) hi hz hsz .i64 .i64 n (by rw [hby]; omega) (by omega) w'
    exact hr
  obtain ⟨c7, h7⟩ : ∃ c, c = madeCells #[.int .u8 0] 7 := ⟨_, rfl⟩
  have m7 : ∀ w', (Instr.makeSlice 37 (.int .i64 7) (.int .i64 7)).run Try.prog w' = .ok (.slice (some ⟨w'.heap.size, 0, none⟩) 7 7) (w'.alloc (.cells c7 5)) := fun w' => by rw [h7]; exact hmk 7 w' (by omega)
  have Y7' := hid (show By (U4.alloc (.cells c7 5)) (U4.heap.size + 1) (some ⟨U4.heap.size, 0, none⟩) 7 7 (List.replicate 7 0) by rw [h7]; exact By.zeros U4 7 (by omega))
  have KA := hid (show Below U4.heap.size U4 (U4.alloc (.cells c7 5)) from (Below.refl _ U4).alloc (Nat.le_refl _) _)
  have CPt := hid (Put_fits (kind := 9) (Y7'.out.mono (by simp)) (by omega) (by omega))
  change Hid (Calls _ _ #[.int .u8 9, _] _ _) at CPt
  replace B0 := hid (B0.out.trans (KA.out.mono B0.out.size))
  replace q9 := hid (q9.out.below KA.out q9.out.lt)
  clear h7 hmk hi hz hsz hby KA Y7'
  go_wp2_with fail
  refine CPt.out.mono ?_
  rintro e U5 ⟨v, rfl, hO, hb⟩
  replace B0 := hid (B0.out.trans (hb.out.mono B0.out.size))
  replace q9 := hid (q9.out.below hb.out q9.out.lt)
  obtain ⟨ys, hys⟩ : ∃ ys, ys = frm 9 (List.replicate 7 0) := ⟨_, rfl⟩
  rw [← hys] at hO
  obtain ⟨A10, c10, rfl, hY⟩ := hO.out.shape
  have F := hid (show flt ys = 0 by rw [hys]; exact flt_frm (by decide) (by decide) (by decide))
  have CN := hid (read_none hY F.out (fun M hM => by have h1 := hM.kd; have h2 := hM.may.fit.fit.kd; rw [hys, frm_kind] at h1; omega))
  clear hO hb hY hys F CPt m7
  -- @11
  go_wp2_with fail
  refine CN.out.mono ?_
  rintro e U6 ⟨rfl, hb⟩
  replace B0 := hid (B0.out.trans (hb.out.mono B0.out.size))
  replace q9 := hid (q9.out.below hb.out q9.out.lt)
  clear hb CN
  obtain ⟨s10, hs10⟩ : ∃ s, s = (U6).heap.size := ⟨_, rfl⟩
  have z10 := hid (show Pbox ((U6).alloc (.cells (mdc (Mz 0)) 31)) s10 (Mz 0) from hs10 ▸ box_zero _)
  have y10 := hid (show Below s10 (U6) ((U6).alloc (.cells (mdc (Mz 0)) 31)) from (Below.refl _ _).alloc (Nat.le_of_eq hs10) _)
  replace hs10 := hid hs10
  go_upto_region 12 with (first | (refine wp_pstore_k rfl (.tmp 18) (.tmp 96) (by with_reducible rfl) (U6.heap.size) (Mz 0) (Mz 0) (by rfl) (by rfl) (show Pbox ((U6).alloc (.cells (mdc (Mz 0)) 31)) (U6.heap.size) (Mz 0) from (show s10 = U6.heap.size from hs10.out.trans (by rfl)) ▸ z10.out) ?_; intro U7 Q10 h10; replace h10 := (show Wr (U6.heap.size) ((U6).alloc (.cells (mdc (Mz 0)) 31)) U7 from h10); have q10 := hid Q10; have f10 := hid (show Below s10 (U6) U7 from h10.bel y10.out (Nat.le_of_eq (hs10.out.trans (by rfl)))); clear Q10 h10) | fail)
  replace f10 := hid (hs10.out ▸ f10.out)
  clear z10 y10 hs10
  replace B0 := hid (B0.out.trans (f10.out.mono B0.out.size))
  replace q9 := hid (q9.out.below f10.out q9.out.lt)
  clear f10 q10
  have C2 := hid (read_frame (By.nul U7 U7.heap.size) (show flt [] ≠ 0 by decide))
  rw [show flt [] = 40 from rfl] at C2
  -- @12
  go_wp2_with fail
  refine C2.out.mono ?_
  rintro e U8 ⟨rfl, hb⟩
  replace B0 := hid (B0.out.trans (hb.out.mono B0.out.size))
  replace q9 := hid (q9.out.below hb.out q9.out.lt)
  clear hb C2
  obtain ⟨s11, hs11⟩ : ∃ s, s = (U8).heap.size := ⟨_, rfl⟩
  have z11 := hid (show Pbox ((U8).alloc (.cells (mdc (Mz 0)) 31)) s11 (Mz 0) from hs11 ▸ box_zero _)
  have y11 := hid (show Below s11 (U8) ((U8).alloc (.cells (mdc (Mz 0)) 31)) from (Below.refl _ _).alloc (Nat.le_of_eq hs11) _)
  replace hs11 := hid hs11
  go_upto_region 13 with (first | (refine wp_pstore_k rfl (.tmp 20) (.tmp 100) (by with_reducible rfl) (U8.heap.size) (Mz 0) (Mz 0) (by rfl) (by rfl) (show Pbox ((U8).alloc (.cells (mdc (Mz 0)) 31)) (U8.heap.size) (Mz 0) from (show s11 = U8.heap.size from hs11.out.trans (by rfl)) ▸ z11.out) ?_; intro U9 Q11 h11; replace h11 := (show Wr (U8.heap.size) ((U8).alloc (.cells (mdc (Mz 0)) 31)) U9 from h11); have q11 := hid Q11; have f11 := hid (show Below s11 (U8) U9 from h11.bel y11.out (Nat.le_of_eq (hs11.out.trans (by rfl)))); clear Q11 h11) | fail)
  replace f11 := hid (hs11.out ▸ f11.out)
  clear z11 y11 hs11
  replace B0 := hid (B0.out.trans (f11.out.mono B0.out.size))
  replace q9 := hid (q9.out.below f11.out q9.out.lt)
  clear f11 q11
  -- @13
  go_wp2_with fail
  refine (wlive_any U9).mono ?_
  rintro e U10 ⟨rfl, hb⟩
  replace B0 := hid (B0.out.trans (hb.out.mono B0.out.size))
  replace q9 := hid (q9.out.below hb.out q9.out.lt)
  have r21 := q9.out.c21
  have r23 := q9.out.c23
  rw [M1.out] at r21
  rw [M2.out] at r23
  clear hb q9 M1 M2
  go_wp2
  go_ret
  exact ⟨by first | rfl | simp, B0.out⟩
end Go.Proofs.Ytbankbehfjogpaa
