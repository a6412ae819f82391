/- The document's masses: words; May, Check, Same, Twin, Minus. -/
/- The document's masses: Twin, Minus. -/
/- The document's masses: Add, Sub. -/
/- The document's masses: Sub. -/
import Derived.Test.YtelalanhalbicaaDoorMalive
import Derived.Test.YtelalanhalbicaaDoorEsig
import Derived.Test.YtelalanhalbicaaDoorEsum

namespace Go.Proofs.YtelalanhalbicaaDoor
open Go.RowKit Go.Shelf

theorem Mbox.range {w : World} {g : Nat} {D : Nat → Dy} (h : Mbox w g D) {k : Nat} (hk : k < 4) : w.rangeAt g (3 * k) [.bool (D k).s, .slice (D k).A (D k).n (D k).c, .int .i64 (D k).x] := fun j v hv => by
  obtain ⟨h0, h1, h2⟩ := h.cell hk
  match j, hv with
  | 0, hv => injection hv with hv; subst hv; exact h0
  | 1, hv => injection hv with hv; subst hv; exact h1
  | 2, hv => injection hv with hv; subst hv; exact h2
  | j + 3, hv => simp at hv
theorem dyad_size_ (d : Dy) : (Tryd.prog.info? 24).map (·.size) = some [Value.bool d.s, .slice d.A d.n d.c, .int .i64 d.x].length := dyad_size
theorem wp_pl0 {ops : Array Oper} {rest : List Oper} {o : Oper} {a : Act} {w : World} {Q : Exit → Act → World → Prop} (hgd : o.guard = none) (x : Operand) (ho : o.op = .load 24 x)
    (g : Nat) (D : Nat → Dy) (hx : a.eval x = .pointer (some ⟨g, 0, none⟩)) (hg : Mbox w g D) (h : wpList Tryd.prog ops Q rest (a.put o.dst (.agg #[.bool (D 0).s, .slice (D 0).A (D 0).n (D 0).c, .int .i64 (D 0).x])) w) : wpList Tryd.prog ops Q (o :: rest) a w :=
  wpList_load_mid hgd _ x ho g 0 hx _ _ (hg.range (k := 0) (by omega)) Tryd.underlying24 rfl (dyad_size_ (D 0)) h
theorem wp_pg0 {ops : Array Oper} {rest : List Oper} {o : Oper} {a : Act} {w : World} {Q : Exit → Act → World → Prop} (hw : Region.wanted o (yielded ops a.tmps) = true) (x : Operand) (ho : o.op = .load 24 x)
    (g : Nat) (D : Nat → Dy) (hx : a.eval x = .pointer (some ⟨g, 0, none⟩)) (hg : Mbox w g D) (h : wpList Tryd.prog ops Q rest (a.put o.dst (.agg #[.bool (D 0).s, .slice (D 0).A (D 0).n (D 0).c, .int .i64 (D 0).x])) w) : wpList Tryd.prog ops Q (o :: rest) a w :=
  wpList_step fun _ hK => by
    rw [if_pos hw]
    exact wp_load_mid _ x ho g 0 hx _ _ (hg.range (k := 0) (by omega)) Tryd.underlying24 rfl (dyad_size_ (D 0)) (hK _ _ h)
theorem yields_pl0 {ops : Array Oper} {S : World → Prop} {o : Oper} {a : Act} (hw : Region.wanted o (yielded ops a.tmps) = true) (x : Operand) (ho : o.op = .load 24 x)
    (g : Nat) (D : Nat → Dy) (hx : a.eval x = .pointer (some ⟨g, 0, none⟩)) (hS : ∀ w, S w → Mbox w g D) : YieldsIf Tryd.prog ops S o (.agg #[.bool (D 0).s, .slice (D 0).A (D 0).n (D 0).c, .int .i64 (D 0).x]) a :=
  yieldsIf_load_mid hw _ x ho g 0 hx _ _ (fun w hw => (hS w hw).range (k := 0) (by omega)) Tryd.underlying24 rfl (dyad_size_ (D 0))
theorem wp_pl1 {ops : Array Oper} {rest : List Oper} {o : Oper} {a : Act} {w : World} {Q : Exit → Act → World → Prop} (hgd : o.guard = none) (x : Operand) (ho : o.op = .load 24 x)
    (g : Nat) (D : Nat → Dy) (hx : a.eval x = .pointer (some ⟨g, 3, none⟩)) (hg : Mbox w g D) (h : wpList Tryd.prog ops Q rest (a.put o.dst (.agg #[.bool (D 1).s, .slice (D 1).A (D 1).n (D 1).c, .int .i64 (D 1).x])) w) : wpList Tryd.prog ops Q (o :: rest) a w :=
  wpList_load_mid hgd _ x ho g 3 hx _ _ (hg.range (k := 1) (by omega)) Tryd.underlying24 rfl (dyad_size_ (D 1)) h
theorem wp_pg1 {ops : Array Oper} {rest : List Oper} {o : Oper} {a : Act} {w : World} {Q : Exit → Act → World → Prop} (hw : Region.wanted o (yielded ops a.tmps) = true) (x : Operand) (ho : o.op = .load 24 x)
    (g : Nat) (D : Nat → Dy) (hx : a.eval x = .pointer (some ⟨g, 3, none⟩)) (hg : Mbox w g D) (h : wpList Tryd.prog ops Q rest (a.put o.dst (.agg #[.bool (D 1).s, .slice (D 1).A (D 1).n (D 1).c, .int .i64 (D 1).x])) w) : wpList Tryd.prog ops Q (o :: rest) a w :=
  wpList_step fun _ hK => by
    rw [if_pos hw]
    exact wp_load_mid _ x ho g 3 hx _ _ (hg.range (k := 1) (by omega)) Tryd.underlying24 rfl (dyad_size_ (D 1)) (hK _ _ h)
theorem yields_pl1 {ops : Array Oper} {S : World → Prop} {o : Oper} {a : Act} (hw : Region.wanted o (yielded ops a.tmps) = true) (x : Operand) (ho : o.op = .load 24 x)
    (g : Nat) (D : Nat → Dy) (hx : a.eval x = .pointer (some ⟨g, 3, none⟩)) (hS : ∀ w, S w → Mbox w g D) : YieldsIf Tryd.prog ops S o (.agg #[.bool (D 1).s, .slice (D 1).A (D 1).n (D 1).c, .int .i64 (D 1).x]) a :=
  yieldsIf_load_mid hw _ x ho g 3 hx _ _ (fun w hw => (hS w hw).range (k := 1) (by omega)) Tryd.underlying24 rfl (dyad_size_ (D 1))
theorem wp_pl2 {ops : Array Oper} {rest : List Oper} {o : Oper} {a : Act} {w : World} {Q : Exit → Act → World → Prop} (hgd : o.guard = none) (x : Operand) (ho : o.op = .load 24 x)
    (g : Nat) (D : Nat → Dy) (hx : a.eval x = .pointer (some ⟨g, 6, none⟩)) (hg : Mbox w g D) (h : wpList Tryd.prog ops Q rest (a.put o.dst (.agg #[.bool (D 2).s, .slice (D 2).A (D 2).n (D 2).c, .int .i64 (D 2).x])) w) : wpList Tryd.prog ops Q (o :: rest) a w :=
  wpList_load_mid hgd _ x ho g 6 hx _ _ (hg.range (k := 2) (by omega)) Tryd.underlying24 rfl (dyad_size_ (D 2)) h
theorem wp_pg2 {ops : Array Oper} {rest : List Oper} {o : Oper} {a : Act} {w : World} {Q : Exit → Act → World → Prop} (hw : Region.wanted o (yielded ops a.tmps) = true) (x : Operand) (ho : o.op = .load 24 x)
    (g : Nat) (D : Nat → Dy) (hx : a.eval x = .pointer (some ⟨g, 6, none⟩)) (hg : Mbox w g D) (h : wpList Tryd.prog ops Q rest (a.put o.dst (.agg #[.bool (D 2).s, .slice (D 2).A (D 2).n (D 2).c, .int .i64 (D 2).x])) w) : wpList Tryd.prog ops Q (o :: rest) a w :=
  wpList_step fun _ hK => by
    rw [if_pos hw]
    exact wp_load_mid _ x ho g 6 hx _ _ (hg.range (k := 2) (by omega)) Tryd.underlying24 rfl (dyad_size_ (D 2)) (hK _ _ h)
theorem yields_pl2 {ops : Array Oper} {S : World → Prop} {o : Oper} {a : Act} (hw : Region.wanted o (yielded ops a.tmps) = true) (x : Operand) (ho : o.op = .load 24 x)
    (g : Nat) (D : Nat → Dy) (hx : a.eval x = .pointer (some ⟨g, 6, none⟩)) (hS : ∀ w, S w → Mbox w g D) : YieldsIf Tryd.prog ops S o (.agg #[.bool (D 2).s, .slice (D 2).A (D 2).n (D 2).c, .int .i64 (D 2).x]) a :=
  yieldsIf_load_mid hw _ x ho g 6 hx _ _ (fun w hw => (hS w hw).range (k := 2) (by omega)) Tryd.underlying24 rfl (dyad_size_ (D 2))
theorem wp_pl3 {ops : Array Oper} {rest : List Oper} {o : Oper} {a : Act} {w : World} {Q : Exit → Act → World → Prop} (hgd : o.guard = none) (x : Operand) (ho : o.op = .load 24 x)
    (g : Nat) (D : Nat → Dy) (hx : a.eval x = .pointer (some ⟨g, 9, none⟩)) (hg : Mbox w g D) (h : wpList Tryd.prog ops Q rest (a.put o.dst (.agg #[.bool (D 3).s, .slice (D 3).A (D 3).n (D 3).c, .int .i64 (D 3).x])) w) : wpList Tryd.prog ops Q (o :: rest) a w :=
  wpList_load_mid hgd _ x ho g 9 hx _ _ (hg.range (k := 3) (by omega)) Tryd.underlying24 rfl (dyad_size_ (D 3)) h
theorem wp_pg3 {ops : Array Oper} {rest : List Oper} {o : Oper} {a : Act} {w : World} {Q : Exit → Act → World → Prop} (hw : Region.wanted o (yielded ops a.tmps) = true) (x : Operand) (ho : o.op = .load 24 x)
    (g : Nat) (D : Nat → Dy) (hx : a.eval x = .pointer (some ⟨g, 9, none⟩)) (hg : Mbox w g D) (h : wpList Tryd.prog ops Q rest (a.put o.dst (.agg #[.bool (D 3).s, .slice (D 3).A (D 3).n (D 3).c, .int .i64 (D 3).x])) w) : wpList Tryd.prog ops Q (o :: rest) a w :=
  wpList_step fun _ hK => by
    rw [if_pos hw]
    exact wp_load_mid _ x ho g 9 hx _ _ (hg.range (k := 3) (by omega)) Tryd.underlying24 rfl (dyad_size_ (D 3)) (hK _ _ h)
theorem yields_pl3 {ops : Array Oper} {S : World → Prop} {o : Oper} {a : Act} (hw : Region.wanted o (yielded ops a.tmps) = true) (x : Operand) (ho : o.op = .load 24 x)
    (g : Nat) (D : Nat → Dy) (hx : a.eval x = .pointer (some ⟨g, 9, none⟩)) (hS : ∀ w, S w → Mbox w g D) : YieldsIf Tryd.prog ops S o (.agg #[.bool (D 3).s, .slice (D 3).A (D 3).n (D 3).c, .int .i64 (D 3).x]) a :=
  yieldsIf_load_mid hw _ x ho g 9 hx _ _ (fun w hw => (hS w hw).range (k := 3) (by omega)) Tryd.underlying24 rfl (dyad_size_ (D 3))
theorem wp1_mstore_ {o : Oper} {a : Act} {w : World} {K : Act → World → Prop} {Q : Exit → Act → World → Prop} (x y : Operand) (ho : o.op = .store 26 x y)
    (g : Nat) (D E : Nat → Dy) (cs : Array Value) (hx : a.eval x = .pointer (some ⟨g, 0, none⟩)) (hy : a.eval y = .agg cs) (he : cs = mcells E) (hg : Mbox w g D) (h : K (a.put o.dst undef) (mstore w g E)) : o.wp Tryd.prog a w K Q :=
  wp1_mstore x y ho g D E hx (he ▸ hy) hg h
/-- A dyad that is read: it may be just if q; then it is M. -/
structure Drd (w : World) (q : Prop) (M : Int) (d : Dy) : Prop where
  rd : Rd w w.heap.size d.A d.n d.c d.f
  may : q ↔ DMay d.s d.n d.f d.x
  val : q → ∃ X : Nat, d.x = (X : Int) ∧ M = dv d.s (vl d.f d.n) X
theorem Dyr.drd {w : World} {q : Prop} {M : Int} {d : Dy} (h : Dyr w q M d) : Drd w q M d := ⟨h.rd, h.may, h.val⟩
theorem Drd.arg {w : World} {q : Prop} {M : Int} {d : Dy} (h : Drd w q M d) : DArg w q M (dyv d) := ⟨_, _, _, _, _, _, rfl, h.rd, h.may, h.val⟩
theorem Drd.below {w w' : World} {q : Prop} {M : Int} {d : Dy} (h : Drd w q M d) (hb : Below w.heap.size w w') : Drd w' q M d := ⟨(h.rd.below hb).mono hb.size, h.may, h.val⟩
theorem Dv.drd {w : World} {M : Int} {v : Value} (h : Dv w M v) : ∃ d, v = dyv d ∧ Drd w True M d := by
  obtain ⟨s, u, X, V, rfl, hn, hc, hX, hd⟩ := h
  obtain ⟨A, n, c, f, rfl, hr, hf, rfl⟩ := hn
  exact ⟨⟨s, A, n, c, (X : Int), f⟩, rfl, hr, ⟨fun _ => canon_may hf hc hX, fun _ => trivial⟩, fun _ => ⟨X, rfl, hd.symm⟩⟩
/-- A mass that is read. -/
def Mrr (w : World) (q : Nat → Prop) (M : Nat → Int) (D : Nat → Dy) : Prop := ∀ k, k < 4 → Drd w (q k) (M k) (D k)
theorem Mar.mrr {w : World} {q : Nat → Prop} {M : Nat → Int} {D : Nat → Dy} (h : Mar w q M D) : Mrr w q M D := fun k hk => (h k hk).drd
theorem Mrr.below {w w' : World} {q : Nat → Prop} {M : Nat → Int} {D : Nat → Dy} (h : Mrr w q M D) (hb : Below w.heap.size w w') : Mrr w' q M D := fun k hk => (h k hk).below hb
theorem Mrr.mrd {w : World} {q : Nat → Prop} {M : Nat → Int} {D : Nat → Dy} (h : Mrr w q M D) : Mrd w w.heap.size D := fun k hk => (h k hk).rd
theorem Mrr.may {w : World} {q : Nat → Prop} {M : Nat → Int} {D : Nat → Dy} (h : Mrr w q M D) : All4 q ↔ MMay D := ⟨fun ha k hk => (h k hk).may.1 (ha k hk), fun hm k hk => (h k hk).may.2 (hm k hk)⟩
theorem mrr4 {w : World} {q0 q1 q2 q3 : Prop} {M0 M1 M2 M3 : Int} {a b c d : Dy} (h0 : Drd w q0 M0 a) (h1 : Drd w q1 M1 b) (h2 : Drd w q2 M2 c) (h3 : Drd w q3 M3 d) : Mrr w (of4 q0 q1 q2 q3) (of4 M0 M1 M2 M3) (of4 a b c d) :=
  all_of4 (P := fun k => Drd w (of4 q0 q1 q2 q3 k) (of4 M0 M1 M2 M3 k) (of4 a b c d k)) h0 h1 h2 h3
/-- What a call of the document's own hands back that answers a mass and an error. -/
def EMRes (w : World) (E : Int → Prop) (M : Nat → Int) (e : Ending) (w' : World) : Prop := ∃ D er, e = .returned (.tuple #[.agg (mcells D), .int .i64 er]) ∧ Hid (E er) ∧ Hid (Mrr w' (fun _ => True) (resM er M) D) ∧ Hid (Below w.heap.size w w')

set_option maxHeartbeats 1600000 in
theorem emmay_any {w : World} {D : Nat → Dy} (h : Mrd w w.heap.size D) :
    Calls Tryd.prog 28 #[.agg (mcells D)] w fun e w' => ∃ r : Bool, e = .returned (.bool r) ∧ Hid (r = true ↔ MMay D) ∧ Hid (Below w.heap.size w w') := by
  obtain ⟨W, hW⟩ : ∃ W, W = w.alloc (.cells (mcells D) 26) := ⟨_, rfl⟩
  have HW := hid hW
  have K := hid (show Below w.heap.size w W from hW ▸ (Below.refl _ w).alloc (Nat.le_refl _) _)
  have P := hid (show Mbox W w.heap.size D from hW ▸ heap_alloc_new w _)
  have HR := hid h
  clear hW h
  by_cases h0 : DMay (D 0).s (D 0).n (D 0).f (D 0).x
  · replace h0 := hid h0
    by_cases h1 : DMay (D 1).s (D 1).n (D 1).f (D 1).x
    · replace h1 := hid h1
      by_cases h2 : DMay (D 2).s (D 2).n (D 2).f (D 2).x
      · replace h2 := hid h2
        by_cases h3 : DMay (D 3).s (D 3).n (D 3).f (D 3).x
        · replace h3 := hid h3
          go_enter Tryd.func28, Tryd.ntmps28
          go_upto_region 1 with fail
          rw [← HW.out]
          have CM := hid (emay_any (((HR.out 0 (by omega)).below K.out).mono K.out.size) (D 0).s (D 0).x)
          go_wp2_with (first
            | (with_reducible refine wp_pl0 rfl (.tmp 3) rfl w.heap.size D rfl P.out ?_)
            | fail)
          refine CM.out.mono ?_
          rintro e w0 ⟨rfl, hb⟩
          rw [bool_of_dec h0.out]
          clear CM
          replace K := hid (K.out.trans (hb.out.mono K.out.size))
          replace P := hid (P.out.below hb.out P.out.lt)
          clear hb
          have CM := hid (emay_any (((HR.out 1 (by omega)).below K.out).mono K.out.size) (D 1).s (D 1).x)
          go_wp2_with (first
            | (with_reducible refine wp_pg1 (by kernel_rfl) (.tmp 7) rfl w.heap.size D rfl P.out ?_)
            | fail)
          refine CM.out.mono ?_
          rintro e w1 ⟨rfl, hb⟩
          rw [bool_of_dec h1.out]
          clear CM
          replace K := hid (K.out.trans (hb.out.mono K.out.size))
          replace P := hid (P.out.below hb.out P.out.lt)
          clear hb
          have CM := hid (emay_any (((HR.out 2 (by omega)).below K.out).mono K.out.size) (D 2).s (D 2).x)
          go_wp2_with (first
            | (with_reducible refine wp_pg2 (by kernel_rfl) (.tmp 12) rfl w.heap.size D rfl P.out ?_)
            | fail)
          refine CM.out.mono ?_
          rintro e w2 ⟨rfl, hb⟩
          rw [bool_of_dec h2.out]
          clear CM
          replace K := hid (K.out.trans (hb.out.mono K.out.size))
          replace P := hid (P.out.below hb.out P.out.lt)
          clear hb
          have CM := hid (emay_any (((HR.out 3 (by omega)).below K.out).mono K.out.size) (D 3).s (D 3).x)
          go_wp2_with (first
            | (with_reducible refine wp_pg3 (by kernel_rfl) (.tmp 17) rfl w.heap.size D rfl P.out ?_)
            | fail)
          refine CM.out.mono ?_
          rintro e w3 ⟨rfl, hb⟩
          rw [bool_of_dec h3.out]
          clear CM
          replace K := hid (K.out.trans (hb.out.mono K.out.size))
          replace P := hid (P.out.below hb.out P.out.lt)
          clear hb
          go_wp2
          go_ret
          exact ⟨true, rfl, ⟨fun _ => all_of4 (P := fun k => DMay (D k).s (D k).n (D k).f (D k).x) h0.out h1.out h2.out h3.out, fun _ => rfl⟩, K.out⟩
        · replace h3 := hid h3
          go_enter Tryd.func28, Tryd.ntmps28
          go_upto_region 1 with fail
          rw [← HW.out]
          have CM := hid (emay_any (((HR.out 0 (by omega)).below K.out).mono K.out.size) (D 0).s (D 0).x)
          go_wp2_with (first
            | (with_reducible refine wp_pl0 rfl (.tmp 3) rfl w.heap.size D rfl P.out ?_)
            | fail)
          refine CM.out.mono ?_
          rintro e w0 ⟨rfl, hb⟩
          rw [bool_of_dec h0.out]
          clear CM
          replace K := hid (K.out.trans (hb.out.mono K.out.size))
          replace P := hid (P.out.below hb.out P.out.lt)
          clear hb
          have CM := hid (emay_any (((HR.out 1 (by omega)).below K.out).mono K.out.size) (D 1).s (D 1).x)
          go_wp2_with (first
            | (with_reducible refine wp_pg1 (by kernel_rfl) (.tmp 7) rfl w.heap.size D rfl P.out ?_)
            | fail)
          refine CM.out.mono ?_
          rintro e w1 ⟨rfl, hb⟩
          rw [bool_of_dec h1.out]
          clear CM
          replace K := hid (K.out.trans (hb.out.mono K.out.size))
          replace P := hid (P.out.below hb.out P.out.lt)
          clear hb
          have CM := hid (emay_any (((HR.out 2 (by omega)).below K.out).mono K.out.size) (D 2).s (D 2).x)
          go_wp2_with (first
            | (with_reducible refine wp_pg2 (by kernel_rfl) (.tmp 12) rfl w.heap.size D rfl P.out ?_)
            | fail)
          refine CM.out.mono ?_
          rintro e w2 ⟨rfl, hb⟩
          rw [bool_of_dec h2.out]
          clear CM
          replace K := hid (K.out.trans (hb.out.mono K.out.size))
          replace P := hid (P.out.below hb.out P.out.lt)
          clear hb
          have CM := hid (emay_any (((HR.out 3 (by omega)).below K.out).mono K.out.size) (D 3).s (D 3).x)
          go_wp2_with (first
            | (with_reducible refine wp_pg3 (by kernel_rfl) (.tmp 17) rfl w.heap.size D rfl P.out ?_)
            | fail)
          refine CM.out.mono ?_
          rintro e w3 ⟨rfl, hb⟩
          rw [bool_of_not h3.out]
          clear CM
          replace K := hid (K.out.trans (hb.out.mono K.out.size))
          replace P := hid (P.out.below hb.out P.out.lt)
          clear hb
          go_wp2
          go_ret
          exact ⟨false, rfl, ⟨(fun h => by cases h), fun hm => absurd (hm 3 (by omega)) h3.out⟩, K.out⟩
      · replace h2 := hid h2
        go_enter Tryd.func28, Tryd.ntmps28
        go_upto_region 1 with fail
        rw [← HW.out]
        have CM := hid (emay_any (((HR.out 0 (by omega)).below K.out).mono K.out.size) (D 0).s (D 0).x)
        go_wp2_with (first
          | (with_reducible refine wp_pl0 rfl (.tmp 3) rfl w.heap.size D rfl P.out ?_)
          | fail)
        refine CM.out.mono ?_
        rintro e w0 ⟨rfl, hb⟩
        rw [bool_of_dec h0.out]
        clear CM
        replace K := hid (K.out.trans (hb.out.mono K.out.size))
        replace P := hid (P.out.below hb.out P.out.lt)
        clear hb
        have CM := hid (emay_any (((HR.out 1 (by omega)).below K.out).mono K.out.size) (D 1).s (D 1).x)
        go_wp2_with (first
          | (with_reducible refine wp_pg1 (by kernel_rfl) (.tmp 7) rfl w.heap.size D rfl P.out ?_)
          | fail)
        refine CM.out.mono ?_
        rintro e w1 ⟨rfl, hb⟩
        rw [bool_of_dec h1.out]
        clear CM
        replace K := hid (K.out.trans (hb.out.mono K.out.size))
        replace P := hid (P.out.below hb.out P.out.lt)
        clear hb
        have CM := hid (emay_any (((HR.out 2 (by omega)).below K.out).mono K.out.size) (D 2).s (D 2).x)
        go_wp2_with (first
          | (with_reducible refine wp_pg2 (by kernel_rfl) (.tmp 12) rfl w.heap.size D rfl P.out ?_)
          | fail)
        refine CM.out.mono ?_
        rintro e w2 ⟨rfl, hb⟩
        rw [bool_of_not h2.out]
        clear CM
        replace K := hid (K.out.trans (hb.out.mono K.out.size))
        replace P := hid (P.out.below hb.out P.out.lt)
        clear hb
        go_wp2
        go_ret
        exact ⟨false, rfl, ⟨(fun h => by cases h), fun hm => absurd (hm 2 (by omega)) h2.out⟩, K.out⟩
    · replace h1 := hid h1
      go_enter Tryd.func28, Tryd.ntmps28
      go_upto_region 1 with fail
      rw [← HW.out]
      have CM := hid (emay_any (((HR.out 0 (by omega)).below K.out).mono K.out.size) (D 0).s (D 0).x)
      go_wp2_with (first
        | (with_reducible refine wp_pl0 rfl (.tmp 3) rfl w.heap.size D rfl P.out ?_)
        | fail)
      refine CM.out.mono ?_
      rintro e w0 ⟨rfl, hb⟩
      rw [bool_of_dec h0.out]
      clear CM
      replace K := hid (K.out.trans (hb.out.mono K.out.size))
      replace P := hid (P.out.below hb.out P.out.lt)
      clear hb
      have CM := hid (emay_any (((HR.out 1 (by omega)).below K.out).mono K.out.size) (D 1).s (D 1).x)
      go_wp2_with (first
        | (with_reducible refine wp_pg1 (by kernel_rfl) (.tmp 7) rfl w.heap.size D rfl P.out ?_)
        | fail)
      refine CM.out.mono ?_
      rintro e w1 ⟨rfl, hb⟩
      rw [bool_of_not h1.out]
      clear CM
      replace K := hid (K.out.trans (hb.out.mono K.out.size))
      replace P := hid (P.out.below hb.out P.out.lt)
      clear hb
      go_wp2
      go_ret
      exact ⟨false, rfl, ⟨(fun h => by cases h), fun hm => absurd (hm 1 (by omega)) h1.out⟩, K.out⟩
  · replace h0 := hid h0
    go_enter Tryd.func28, Tryd.ntmps28
    go_upto_region 1 with fail
    rw [← HW.out]
    have CM := hid (emay_any (((HR.out 0 (by omega)).below K.out).mono K.out.size) (D 0).s (D 0).x)
    go_wp2_with (first
      | (with_reducible refine wp_pl0 rfl (.tmp 3) rfl w.heap.size D rfl P.out ?_)
      | fail)
    refine CM.out.mono ?_
    rintro e w0 ⟨rfl, hb⟩
    rw [bool_of_not h0.out]
    clear CM
    replace K := hid (K.out.trans (hb.out.mono K.out.size))
    replace P := hid (P.out.below hb.out P.out.lt)
    clear hb
    go_wp2
    go_ret
    exact ⟨false, rfl, ⟨(fun h => by cases h), fun hm => absurd (hm 0 (by omega)) h0.out⟩, K.out⟩

set_option maxHeartbeats 1600000 in
theorem echk_any {w : World} {q : Nat → Prop} {M : Nat → Int} {D : Nat → Dy} (h : Mrr w q M D) :
    Calls Tryd.prog 18 #[.agg (mcells D)] w fun e w' => ∃ er, e = .returned (.int .i64 er) ∧ Hid ((All4 q → er = 0) ∧ (¬ All4 q → er = 8)) ∧ Hid (Below w.heap.size w w') := by
  obtain ⟨W, hW⟩ : ∃ W, W = w.alloc (.cells (mcells D) 26) := ⟨_, rfl⟩
  have HW := hid hW
  have K := hid (show Below w.heap.size w W from hW ▸ (Below.refl _ w).alloc (Nat.le_refl _) _)
  have P := hid (show Mbox W w.heap.size D from hW ▸ heap_alloc_new w _)
  have CM := hid (emmay_any (h.below K.out).mrd)
  have HMay := hid h.may
  clear hW h
  go_enter Tryd.func18, Tryd.ntmps18
  go_upto_region 1 with fail
  rw [← HW.out]
  go_wp2_with (first
    | (with_reducible refine wp_mload rfl (.tmp 1) rfl w.heap.size D rfl P.out ?_)
    | fail)
  refine CM.out.mono ?_
  rintro e w' ⟨r, rfl, Hr, hb⟩
  have K2 := hid (K.out.trans (hb.out.mono K.out.size))
  cases r with
  | true =>
    have Hq := hid (HMay.out.2 (Hr.out.1 (by trivial)))
    clear Hr hb CM
    go_wp2
    go_ret
    exact ⟨0, rfl, ⟨fun _ => rfl, fun hn => absurd Hq.out hn⟩, K2.out⟩
  | false =>
    have Hq := hid (show ¬ All4 q from fun hq => by have := Hr.out.2 (HMay.out.1 hq); cases this)
    clear Hr hb CM
    go_wp2
    go_ret
    exact ⟨8, rfl, ⟨fun hq => absurd hq Hq.out, fun _ => rfl⟩, K2.out⟩

set_option maxHeartbeats 3200000 in
theorem emsame_raw {w : World} {D E : Nat → Dy} {P : Prop} (h : Mrd w w.heap.size D) (h2 : Mrd w w.heap.size E) (HP : Hid (P ↔ ∀ k, k < 4 → Dsm (D k) (E k))) :
    Calls Tryd.prog 16 #[.agg (mcells D), .agg (mcells E)] w (Says w P) := by
  obtain ⟨W, hW⟩ : ∃ W, W = (w.alloc (.cells (mcells D) 26)).alloc (.cells (mcells E) 26) := ⟨_, rfl⟩
  have HW := hid hW
  have K := hid (show Below w.heap.size w W from hW ▸ ((Below.refl _ w).alloc (Nat.le_refl _) _).alloc (by simp) _)
  have PD : Hid (Mbox W w.heap.size D) := hid (hW ▸ (show Mbox (w.alloc _) w.heap.size D from new_at rfl).alloc _)
  have PE : Hid (Mbox W (w.heap.size + 1) E) := hid (hW ▸ (show Mbox ((w.alloc _).alloc _) (w.heap.size + 1) E from new_at (by simp)))
  have HR := hid h
  have HR2 := hid h2
  clear hW h h2
  go_enter Tryd.func16, Tryd.ntmps16
  go_upto_region 1 with fail
  rw [← HW.out]
  have CS := hid (esame_raw (s := (D 0).s) (t := (E 0).s) (x := (D 0).x) (y := (E 0).x) (P := Dsm (D 0) (E 0)) (((HR.out 0 (by omega)).below K.out).mono K.out.size) (((HR2.out 0 (by omega)).below K.out).mono K.out.size) (hid Iff.rfl))
  go_wp2_with (first
    | (with_reducible refine wp_pl0 rfl (.tmp 5) rfl w.heap.size D rfl PD.out ?_)
    | (with_reducible refine wp_pl0 rfl (.tmp 7) rfl (w.heap.size + 1) E rfl PE.out ?_)
    | fail)
  refine CS.out.mono ?_
  rintro e w0 ⟨r, rfl, Hr, hb⟩
  replace K := hid (K.out.trans (hb.out.mono K.out.size))
  replace PD := hid (PD.out.below hb.out PD.out.lt)
  replace PE := hid (PE.out.below hb.out PE.out.lt)
  clear hb CS
  cases r with
  | false =>
    have Hn := hid (show ¬ P from fun hp => by have := Hr.out.2 (HP.out.1 hp 0 (by omega)); cases this)
    clear Hr
    go_wp2
    go_ret
    exact ⟨false, rfl, ⟨(fun h => by cases h), fun hp => absurd hp Hn.out⟩, K.out⟩
  | true =>
    have H0 := hid (Hr.out.1 (by trivial))
    clear Hr
    have CS := hid (esame_raw (s := (D 1).s) (t := (E 1).s) (x := (D 1).x) (y := (E 1).x) (P := Dsm (D 1) (E 1)) (((HR.out 1 (by omega)).below K.out).mono K.out.size) (((HR2.out 1 (by omega)).below K.out).mono K.out.size) (hid Iff.rfl))
    go_wp2_with (first
      | (with_reducible refine wp_pg1 (by kernel_rfl) (.tmp 11) rfl w.heap.size D rfl PD.out ?_)
      | (with_reducible refine wp_pg1 (by kernel_rfl) (.tmp 13) rfl (w.heap.size + 1) E rfl PE.out ?_)
      | fail)
    refine CS.out.mono ?_
    rintro e w1 ⟨r, rfl, Hr, hb⟩
    replace K := hid (K.out.trans (hb.out.mono K.out.size))
    replace PD := hid (PD.out.below hb.out PD.out.lt)
    replace PE := hid (PE.out.below hb.out PE.out.lt)
    clear hb CS
    cases r with
    | false =>
      have Hn := hid (show ¬ P from fun hp => by have := Hr.out.2 (HP.out.1 hp 1 (by omega)); cases this)
      clear Hr
      go_wp2
      go_ret
      exact ⟨false, rfl, ⟨(fun h => by cases h), fun hp => absurd hp Hn.out⟩, K.out⟩
    | true =>
      have H1 := hid (Hr.out.1 (by trivial))
      clear Hr
      have CS := hid (esame_raw (s := (D 2).s) (t := (E 2).s) (x := (D 2).x) (y := (E 2).x) (P := Dsm (D 2) (E 2)) (((HR.out 2 (by omega)).below K.out).mono K.out.size) (((HR2.out 2 (by omega)).below K.out).mono K.out.size) (hid Iff.rfl))
      go_wp2_with (first
        | (with_reducible refine wp_pg2 (by kernel_rfl) (.tmp 18) rfl w.heap.size D rfl PD.out ?_)
        | (with_reducible refine wp_pg2 (by kernel_rfl) (.tmp 20) rfl (w.heap.size + 1) E rfl PE.out ?_)
        | fail)
      refine CS.out.mono ?_
      rintro e w2 ⟨r, rfl, Hr, hb⟩
      replace K := hid (K.out.trans (hb.out.mono K.out.size))
      replace PD := hid (PD.out.below hb.out PD.out.lt)
      replace PE := hid (PE.out.below hb.out PE.out.lt)
      clear hb CS
      cases r with
      | false =>
        have Hn := hid (show ¬ P from fun hp => by have := Hr.out.2 (HP.out.1 hp 2 (by omega)); cases this)
        clear Hr
        go_wp2
        go_ret
        exact ⟨false, rfl, ⟨(fun h => by cases h), fun hp => absurd hp Hn.out⟩, K.out⟩
      | true =>
        have H2 := hid (Hr.out.1 (by trivial))
        clear Hr
        have CS := hid (esame_raw (s := (D 3).s) (t := (E 3).s) (x := (D 3).x) (y := (E 3).x) (P := Dsm (D 3) (E 3)) (((HR.out 3 (by omega)).below K.out).mono K.out.size) (((HR2.out 3 (by omega)).below K.out).mono K.out.size) (hid Iff.rfl))
        go_wp2_with (first
          | (with_reducible refine wp_pg3 (by kernel_rfl) (.tmp 25) rfl w.heap.size D rfl PD.out ?_)
          | (with_reducible refine wp_pg3 (by kernel_rfl) (.tmp 27) rfl (w.heap.size + 1) E rfl PE.out ?_)
          | fail)
        refine CS.out.mono ?_
        rintro e w3 ⟨r, rfl, Hr, hb⟩
        replace K := hid (K.out.trans (hb.out.mono K.out.size))
        replace PD := hid (PD.out.below hb.out PD.out.lt)
        replace PE := hid (PE.out.below hb.out PE.out.lt)
        clear hb CS
        cases r with
        | false =>
          have Hn := hid (show ¬ P from fun hp => by have := Hr.out.2 (HP.out.1 hp 3 (by omega)); cases this)
          clear Hr
          go_wp2
          go_ret
          exact ⟨false, rfl, ⟨(fun h => by cases h), fun hp => absurd hp Hn.out⟩, K.out⟩
        | true =>
          have H3 := hid (Hr.out.1 (by trivial))
          clear Hr
          go_wp2
          go_ret
          exact ⟨true, rfl, ⟨fun _ => HP.out.2 (all_of4 (P := fun k => Dsm (D k) (E k)) H0.out H1.out H2.out H3.out), fun _ => rfl⟩, K.out⟩

theorem emsame_val {w : World} {q p : Nat → Prop} {M N : Nat → Int} {D E : Nat → Dy} (h : Mrr w q M D) (h2 : Mrr w p N E) (hq : All4 q) (hp : All4 p) :
    Calls Tryd.prog 16 #[.agg (mcells D), .agg (mcells E)] w (Says w (∀ k, k < 4 → M k = N k)) := by
  refine emsame_raw h.mrd h2.mrd (hid ?_)
  have key : ∀ k, k < 4 → (M k = N k ↔ Dsm (D k) (E k)) := fun k hk => by
    have a := h k hk
    have b := h2 k hk
    obtain ⟨X, hX, hM⟩ := a.val (hq k hk)
    obtain ⟨Y, hY, hN⟩ := b.val (hp k hk)
    have m1 := a.may.1 (hq k hk)
    have m2 := b.may.1 (hp k hk)
    obtain ⟨X', e1, c1, l1⟩ := may_canon m1 a.rd.out
    obtain ⟨Y', e2, c2, l2⟩ := may_canon m2 b.rd.out
    obtain rfl : X = X' := by omega
    obtain rfl : Y = Y' := by omega
    constructor
    · intro he
      rw [hM, hN] at he
      obtain ⟨hs, hV, hXY⟩ := canon_uniq c1 c2 (by omega) (by omega) he
      have hf := a.rd.same b.rd m1.1.2 m2.1.2 hV
      exact ⟨hs, by rw [hX, hY, hXY], hf.1, hf.2⟩
    · rintro ⟨hs, hx, hn, hf⟩
      obtain rfl : X = Y := by omega
      rw [hM, hN, hs, hn, vl_congr (fun j _ => hf j)]
  exact ⟨fun h0 k hk => (key k hk).1 (h0 k hk), fun h0 k hk => (key k hk).2 (h0 k hk)⟩
theorem emsame_true {w : World} {q p : Nat → Prop} {M N : Nat → Int} {D E : Nat → Dy} (h : Mrr w q M D) (h2 : Mrr w p N E) (hq : All4 q) (hp : All4 p) (he : ∀ k, k < 4 → M k = N k) :
    Calls Tryd.prog 16 #[.agg (mcells D), .agg (mcells E)] w fun e w' => e = .returned (.bool true) ∧ Hid (Below w.heap.size w w') := by
  refine (emsame_val h h2 hq hp).mono ?_
  rintro e w' ⟨r, rfl, Hr, hb⟩
  obtain rfl : r = true := Hr.out.2 he
  exact ⟨rfl, hb⟩
/-- A mass and its twin. -/
theorem emsame_twin {w w0 : World} {B : Nat} {D R : Nat → Dy} (h : Mrd w w.heap.size D) (ht : ∀ k, k < 4 → Twd B w0 (D k) (R k)) (hr : Mrd w w.heap.size R) :
    Calls Tryd.prog 16 #[.agg (mcells R), .agg (mcells D)] w fun e w' => e = .returned (.bool true) ∧ Hid (Below w.heap.size w w') := by
  refine (emsame_raw (P := True) hr h (hid ⟨fun _ k hk => ⟨(ht k hk).s, (ht k hk).x, (ht k hk).n, fun j => by rw [(ht k hk).f]⟩, fun _ => trivial⟩)).mono ?_
  rintro e w' ⟨r, rfl, Hr, hb⟩
  obtain rfl : r = true := Hr.out.2 trivial
  exact ⟨rfl, hb⟩

end Go.Proofs.YtelalanhalbicaaDoor


namespace Go.Proofs.YtelalanhalbicaaDoor
open Go.RowKit Go.Shelf

/-- A dyad, its sign turned. -/
def mneg (d : Dy) : Bool := if d.n = 0 then d.s else !d.s
def minusD (d : Dy) : Dy := ⟨mneg d, d.A, d.n, d.c, d.x, d.f⟩
theorem Drd.minus {w : World} {q : Prop} {M : Int} {d : Dy} (h : Drd w q M d) : Drd w q (-M) (minusD d) := by
  refine ⟨h.rd, ?_, fun hq => ?_⟩
  · rw [h.may]
    show DMay d.s d.n d.f d.x ↔ DMay (mneg d) d.n d.f d.x
    by_cases h0 : d.n = 0
    · rw [show mneg d = d.s from if_pos h0]
    · rw [show mneg d = !d.s from if_neg h0]
      exact ⟨fun k => ⟨k.1, k.2.1, k.2.2.1, fun e => absurd e h0, k.2.2.2.2⟩, fun k => ⟨k.1, k.2.1, k.2.2.1, fun e => absurd e h0, k.2.2.2.2⟩⟩
  · obtain ⟨X, hx, hM⟩ := h.val hq
    refine ⟨X, hx, ?_⟩
    show -M = dv (mneg d) (vl d.f d.n) X
    by_cases h0 : d.n = 0
    · rw [show mneg d = d.s from if_pos h0, hM, h0]
      simp [vl, dv, num]
    · rw [show mneg d = !d.s from if_neg h0, hM]
      unfold dv
      rw [num_neg]
theorem eminus_dy (d : Dy) (hm : d.n ≤ 140737488355328) (w : World) : Calls Tryd.prog 50 #[.agg #[.bool d.s, .slice d.A d.n d.c, .int .i64 d.x]] w fun e w' => e = .returned (.agg #[.bool (mneg d), .slice d.A d.n d.c, .int .i64 d.x]) ∧ Hid (Below w.heap.size w w') := eminus_any d.s d.A d.n d.c d.x w hm

set_option maxRecDepth 100000 in
set_option maxHeartbeats 3200000 in
theorem emtwin_any {w : World} {D : Nat → Dy} (h : Mrd w w.heap.size D) (hnil : ∀ k, k < 4 → (D k).A = none → (D k).n = 0 ∧ (D k).c = 0) (hn : ∀ k, k < 4 → (D k).n ≤ 42) :
    Calls Tryd.prog 6 #[.agg (mcells D)] w fun e w' => ∃ R, e = .returned (.agg (mcells R)) ∧ Hid (∀ k, k < 4 → Twd w.heap.size w' (D k) (R k)) ∧ Hid (Below w.heap.size w w') := by
  obtain ⟨W, hW⟩ : ∃ W, W = (w.alloc (.cells (mcells D) 26)).alloc (.cells #[.bool false, .slice none 0 0, .int .i64 0, .bool false, .slice none 0 0, .int .i64 0, .bool false, .slice none 0 0, .int .i64 0, .bool false, .slice none 0 0, .int .i64 0] 26) := ⟨_, rfl⟩
  have HW := hid hW
  have K := hid (show Below w.heap.size w W from hW ▸ ((Below.refl _ w).alloc (Nat.le_refl _) _).alloc (by simp) _)
  have PD : Hid (Mbox W w.heap.size D) := hid (hW ▸ (show Mbox (w.alloc _) w.heap.size D from new_at rfl).alloc _)
  have PR : Hid (Mbox W (w.heap.size + 1) D0) := hid (hW ▸ (show Mbox ((w.alloc _).alloc _) (w.heap.size + 1) D0 from new_at (by simp)))
  have Hsz := hid (show w.heap.size + 2 = W.heap.size by rw [hW]; simp)
  have HR := hid h
  have HN := hid hnil
  have Hn := hid hn
  clear hnil hn
  clear hW h
  go_enter Tryd.func6, Tryd.ntmps6
  go_upto_region 1 with fail
  rw [← HW.out]
  have CF : Hid (∀ X, Below W.heap.size W X → Mbox X w.heap.size D) := hid fun X hb => PD.out.below hb PD.out.lt
  have BX : Hid (Below W.heap.size W W.drew) := hid (Below.refl W.heap.size W).drew
  refine wp_region_held_drew (S := fun X => Mbox X w.heap.size D) (by kernel_rfl) (CF.out _ BX.out) (fun hHeld => ?_)
  refine wpAnyH_take (i := 0) (v := ?v1) rfl (by kernel_rfl) (by kernel_rfl) (by kernel_rfl) (fun _ _ _ h => h) (Or.inl ⟨by rfl, ?y1⟩) (by assumption) ?r1
  case y1 => (intro w0 hSw; (try dsimp only at hSw); (try simp only [List.getElem_toArray, List.getElem_cons_zero]); go_simp; try with_reducible rfl)
  (try simp only [Act.put, List.setIfInBounds_toArray, List.set_cons_zero, List.set_cons_succ, List.getElem_toArray, List.getElem_cons_zero])
  refine wpAnyH_take (i := 1) rfl (by kernel_rfl) (by kernel_rfl) (by kernel_rfl) (fun _ _ _ h => h) (yields_pl0 (by rfl) (.tmp 3) rfl w.heap.size D rfl (fun X hX => hX)) hHeld ?_
  (try simp only [Act.put, List.setIfInBounds_toArray, List.set_cons_zero, List.set_cons_succ, List.getElem_toArray, List.getElem_cons_succ, List.getElem_cons_zero])
  refine wpAnyH_take (i := 3) (v := ?v2) rfl (by kernel_rfl) (by kernel_rfl) (by kernel_rfl) (fun _ _ _ h => h) (Or.inl ⟨by rfl, ?y2⟩) (by assumption) ?r2
  case y2 => (intro w0 hSw; (try dsimp only at hSw); (try simp only [List.getElem_toArray, List.getElem_cons_succ, List.getElem_cons_zero]); go_simp; try with_reducible rfl)
  (try simp only [Act.put, List.setIfInBounds_toArray, List.set_cons_zero, List.set_cons_succ, List.getElem_toArray, List.getElem_cons_succ, List.getElem_cons_zero])
  refine wpAnyH_take (i := 4) rfl (by kernel_rfl) (by kernel_rfl) (by kernel_rfl) (fun _ _ _ h => h) (yields_pl1 (by rfl) (.tmp 6) rfl w.heap.size D rfl (fun X hX => hX)) hHeld ?_
  (try simp only [Act.put, List.setIfInBounds_toArray, List.set_cons_zero, List.set_cons_succ, List.getElem_toArray, List.getElem_cons_succ, List.getElem_cons_zero])
  refine wpAnyH_take (i := 6) (v := ?v3) rfl (by kernel_rfl) (by kernel_rfl) (by kernel_rfl) (fun _ _ _ h => h) (Or.inl ⟨by rfl, ?y3⟩) (by assumption) ?r3
  case y3 => (intro w0 hSw; (try dsimp only at hSw); (try simp only [List.getElem_toArray, List.getElem_cons_succ, List.getElem_cons_zero]); go_simp; try with_reducible rfl)
  (try simp only [Act.put, List.setIfInBounds_toArray, List.set_cons_zero, List.set_cons_succ, List.getElem_toArray, List.getElem_cons_succ, List.getElem_cons_zero])
  refine wpAnyH_take (i := 7) rfl (by kernel_rfl) (by kernel_rfl) (by kernel_rfl) (fun _ _ _ h => h) (yields_pl2 (by rfl) (.tmp 9) rfl w.heap.size D rfl (fun X hX => hX)) hHeld ?_
  (try simp only [Act.put, List.setIfInBounds_toArray, List.set_cons_zero, List.set_cons_succ, List.getElem_toArray, List.getElem_cons_succ, List.getElem_cons_zero])
  refine wpAnyH_take (i := 9) (v := ?v4) rfl (by kernel_rfl) (by kernel_rfl) (by kernel_rfl) (fun _ _ _ h => h) (Or.inl ⟨by rfl, ?y4⟩) (by assumption) ?r4
  case y4 => (intro w0 hSw; (try dsimp only at hSw); (try simp only [List.getElem_toArray, List.getElem_cons_succ, List.getElem_cons_zero]); go_simp; try with_reducible rfl)
  (try simp only [Act.put, List.setIfInBounds_toArray, List.set_cons_zero, List.set_cons_succ, List.getElem_toArray, List.getElem_cons_succ, List.getElem_cons_zero])
  refine wpAnyH_take (i := 10) rfl (by kernel_rfl) (by kernel_rfl) (by kernel_rfl) (fun _ _ _ h => h) (yields_pl3 (by rfl) (.tmp 12) rfl w.heap.size D rfl (fun X hX => hX)) hHeld ?_
  (try simp only [Act.put, List.setIfInBounds_toArray, List.set_cons_zero, List.set_cons_succ, List.getElem_toArray, List.getElem_cons_succ, List.getElem_cons_zero])
  refine wpAnyH_ready (rs := [2]) (by kernel_rfl) (by simp) ?_
  refine AllReadyH.cons rfl (fun K' hK => ?_) AllReadyH.nil
  (try simp only [Act.put, List.setIfInBounds_toArray, List.set_cons_zero, List.set_cons_succ, List.getElem_toArray, List.getElem_cons_succ, List.getElem_cons_zero])
  go_simp
  refine (etwin_any (((HR.out 0 (by omega)).below (K.out.trans (BX.out.mono K.out.size))).mono (Nat.le_trans K.out.size BX.out.size)) (HN.out 0 (by omega)) (Hn.out 0 (by omega)) (D 0).s (D 0).x).mono ?_
  rintro e y0 ⟨A0, c0, rfl, hmk, hb⟩
  replace BX := hid (BX.out.trans (hb.out.mono BX.out.size))
  have T0 : Hid (Twd W.heap.size y0 (D 0) ⟨(D 0).s, A0, (D 0).n, c0, (D 0).x, (D 0).f⟩) := hid ⟨hmk.out.mono (Nat.le_refl _), rfl, rfl, rfl, rfl⟩
  have S0 := hid (show W.heap.size ≤ y0.heap.size from BX.out.size)
  clear hmk
  try dsimp only
  refine hK.out _ _ (CF.out _ BX.out) (fun hHeld => ?_)
  clear hK K' hb
  (try simp only [Act.put, List.setIfInBounds_toArray, List.set_cons_zero, List.set_cons_succ, List.getElem_toArray, List.getElem_cons_succ, List.getElem_cons_zero])
  refine wpAnyH_ready (rs := [5]) (by kernel_rfl) (by simp) ?_
  refine AllReadyH.cons rfl (fun K' hK => ?_) AllReadyH.nil
  (try simp only [Act.put, List.setIfInBounds_toArray, List.set_cons_zero, List.set_cons_succ, List.getElem_toArray, List.getElem_cons_succ, List.getElem_cons_zero])
  go_simp
  refine (etwin_any (((HR.out 1 (by omega)).below (K.out.trans (BX.out.mono K.out.size))).mono (Nat.le_trans K.out.size BX.out.size)) (HN.out 1 (by omega)) (Hn.out 1 (by omega)) (D 1).s (D 1).x).mono ?_
  rintro e y1 ⟨A1, c1, rfl, hmk, hb⟩
  replace BX := hid (BX.out.trans (hb.out.mono BX.out.size))
  replace T0 := hid (T0.out.below hb.out)
  have T1 : Hid (Twd W.heap.size y1 (D 1) ⟨(D 1).s, A1, (D 1).n, c1, (D 1).x, (D 1).f⟩) := hid ⟨hmk.out.mono S0.out, rfl, rfl, rfl, rfl⟩
  have S1 := hid (show W.heap.size ≤ y1.heap.size from BX.out.size)
  clear hmk
  try dsimp only
  refine hK.out _ _ (CF.out _ BX.out) (fun hHeld => ?_)
  clear hK K' hb
  (try simp only [Act.put, List.setIfInBounds_toArray, List.set_cons_zero, List.set_cons_succ, List.getElem_toArray, List.getElem_cons_succ, List.getElem_cons_zero])
  refine wpAnyH_ready (rs := [8]) (by kernel_rfl) (by simp) ?_
  refine AllReadyH.cons rfl (fun K' hK => ?_) AllReadyH.nil
  (try simp only [Act.put, List.setIfInBounds_toArray, List.set_cons_zero, List.set_cons_succ, List.getElem_toArray, List.getElem_cons_succ, List.getElem_cons_zero])
  go_simp
  refine (etwin_any (((HR.out 2 (by omega)).below (K.out.trans (BX.out.mono K.out.size))).mono (Nat.le_trans K.out.size BX.out.size)) (HN.out 2 (by omega)) (Hn.out 2 (by omega)) (D 2).s (D 2).x).mono ?_
  rintro e y2 ⟨A2, c2, rfl, hmk, hb⟩
  replace BX := hid (BX.out.trans (hb.out.mono BX.out.size))
  replace T0 := hid (T0.out.below hb.out)
  replace T1 := hid (T1.out.below hb.out)
  have T2 : Hid (Twd W.heap.size y2 (D 2) ⟨(D 2).s, A2, (D 2).n, c2, (D 2).x, (D 2).f⟩) := hid ⟨hmk.out.mono S1.out, rfl, rfl, rfl, rfl⟩
  have S2 := hid (show W.heap.size ≤ y2.heap.size from BX.out.size)
  clear hmk
  try dsimp only
  refine hK.out _ _ (CF.out _ BX.out) (fun hHeld => ?_)
  clear hK K' hb
  (try simp only [Act.put, List.setIfInBounds_toArray, List.set_cons_zero, List.set_cons_succ, List.getElem_toArray, List.getElem_cons_succ, List.getElem_cons_zero])
  refine wpAnyH_ready (rs := [11]) (by kernel_rfl) (by simp) ?_
  refine AllReadyH.cons rfl (fun K' hK => ?_) AllReadyH.nil
  (try simp only [Act.put, List.setIfInBounds_toArray, List.set_cons_zero, List.set_cons_succ, List.getElem_toArray, List.getElem_cons_succ, List.getElem_cons_zero])
  go_simp
  refine (etwin_any (((HR.out 3 (by omega)).below (K.out.trans (BX.out.mono K.out.size))).mono (Nat.le_trans K.out.size BX.out.size)) (HN.out 3 (by omega)) (Hn.out 3 (by omega)) (D 3).s (D 3).x).mono ?_
  rintro e y3 ⟨A3, c3, rfl, hmk, hb⟩
  replace BX := hid (BX.out.trans (hb.out.mono BX.out.size))
  replace T0 := hid (T0.out.below hb.out)
  replace T1 := hid (T1.out.below hb.out)
  replace T2 := hid (T2.out.below hb.out)
  have T3 : Hid (Twd W.heap.size y3 (D 3) ⟨(D 3).s, A3, (D 3).n, c3, (D 3).x, (D 3).f⟩) := hid ⟨hmk.out.mono S2.out, rfl, rfl, rfl, rfl⟩
  have S3 := hid (show W.heap.size ≤ y3.heap.size from BX.out.size)
  clear hmk
  try dsimp only
  refine hK.out _ _ (CF.out _ BX.out) (fun hHeld => ?_)
  clear hK K' hb
  (try simp only [Act.put, List.setIfInBounds_toArray, List.set_cons_zero, List.set_cons_succ, List.getElem_toArray, List.getElem_cons_succ, List.getElem_cons_zero])
  refine wpAnyH_take (i := 12) (v := ?v5) rfl (by kernel_rfl) (by kernel_rfl) (by kernel_rfl) (fun _ _ _ h => h) (Or.inl ⟨by rfl, ?y5⟩) (by assumption) ?r5
  case y5 => (intro w0 hSw; (try dsimp only at hSw); (try simp only [List.getElem_toArray, List.getElem_cons_succ, List.getElem_cons_zero]); go_simp; try with_reducible rfl)
  (try simp only [Act.put, List.setIfInBounds_toArray, List.set_cons_zero, List.set_cons_succ, List.getElem_toArray, List.getElem_cons_succ, List.getElem_cons_zero])
  have HLit := hid (show (#[.bool (D 0).s, .slice A0 (D 0).n c0, .int .i64 (D 0).x, .bool (D 1).s, .slice A1 (D 1).n c1, .int .i64 (D 1).x, .bool (D 2).s, .slice A2 (D 2).n c2, .int .i64 (D 2).x, .bool (D 3).s, .slice A3 (D 3).n c3, .int .i64 (D 3).x] : Array Value) = mcells (of4 ⟨(D 0).s, A0, (D 0).n, c0, (D 0).x, (D 0).f⟩ ⟨(D 1).s, A1, (D 1).n, c1, (D 1).x, (D 1).f⟩ ⟨(D 2).s, A2, (D 2).n, c2, (D 2).x, (D 2).f⟩ ⟨(D 3).s, A3, (D 3).n, c3, (D 3).x, (D 3).f⟩) from rfl)
  have PRz := hid (PR.out.below BX.out PR.out.lt)
  have gz := grown_mstore y3 (w.heap.size + 1) (of4 ⟨(D 0).s, A0, (D 0).n, c0, (D 0).x, (D 0).f⟩ ⟨(D 1).s, A1, (D 1).n, c1, (D 1).x, (D 1).f⟩ ⟨(D 2).s, A2, (D 2).n, c2, (D 2).x, (D 2).f⟩ ⟨(D 3).s, A3, (D 3).n, c3, (D 3).x, (D 3).f⟩)
  have Kz := hid (below_row (K.out.trans (BX.out.mono K.out.size)) gz (Nat.le_trans K.out.size BX.out.size) (by omega))
  have PRs := hid (PRz.out.store (of4 ⟨(D 0).s, A0, (D 0).n, c0, (D 0).x, (D 0).f⟩ ⟨(D 1).s, A1, (D 1).n, c1, (D 1).x, (D 1).f⟩ ⟨(D 2).s, A2, (D 2).n, c2, (D 2).x, (D 2).f⟩ ⟨(D 3).s, A3, (D 3).n, c3, (D 3).x, (D 3).f⟩))
  have CFz := hid ((CF.out _ BX.out).grown gz (by omega))
  have HFin := hid (show ∀ k, k < 4 → Twd w.heap.size (mstore y3 (w.heap.size + 1) (of4 ⟨(D 0).s, A0, (D 0).n, c0, (D 0).x, (D 0).f⟩ ⟨(D 1).s, A1, (D 1).n, c1, (D 1).x, (D 1).f⟩ ⟨(D 2).s, A2, (D 2).n, c2, (D 2).x, (D 2).f⟩ ⟨(D 3).s, A3, (D 3).n, c3, (D 3).x, (D 3).f⟩)) (D k) ((of4 ⟨(D 0).s, A0, (D 0).n, c0, (D 0).x, (D 0).f⟩ ⟨(D 1).s, A1, (D 1).n, c1, (D 1).x, (D 1).f⟩ ⟨(D 2).s, A2, (D 2).n, c2, (D 2).x, (D 2).f⟩ ⟨(D 3).s, A3, (D 3).n, c3, (D 3).x, (D 3).f⟩) k) from all_of4 (P := fun k => Twd w.heap.size (mstore y3 (w.heap.size + 1) (of4 ⟨(D 0).s, A0, (D 0).n, c0, (D 0).x, (D 0).f⟩ ⟨(D 1).s, A1, (D 1).n, c1, (D 1).x, (D 1).f⟩ ⟨(D 2).s, A2, (D 2).n, c2, (D 2).x, (D 2).f⟩ ⟨(D 3).s, A3, (D 3).n, c3, (D 3).x, (D 3).f⟩)) (D k) ((of4 ⟨(D 0).s, A0, (D 0).n, c0, (D 0).x, (D 0).f⟩ ⟨(D 1).s, A1, (D 1).n, c1, (D 1).x, (D 1).f⟩ ⟨(D 2).s, A2, (D 2).n, c2, (D 2).x, (D 2).f⟩ ⟨(D 3).s, A3, (D 3).n, c3, (D 3).x, (D 3).f⟩) k)) ((T0.out.grown gz (by have := Hsz.out; omega)).mono (by have := Hsz.out; omega)) ((T1.out.grown gz (by have := Hsz.out; omega)).mono (by have := Hsz.out; omega)) ((T2.out.grown gz (by have := Hsz.out; omega)).mono (by have := Hsz.out; omega)) ((T3.out.grown gz (by have := Hsz.out; omega)).mono (by have := Hsz.out; omega)))
  refine wpAnyH_ready (rs := [13]) (by kernel_rfl) (by simp) ?_
  refine AllReadyH.cons rfl (fun K' hK => ?_) AllReadyH.nil
  (try simp only [List.getElem_toArray, List.getElem_cons_succ, List.getElem_cons_zero])
  refine ite_go (by kernel_rfl) ?_
  refine wp1_mstore_ (.tmp 2) (.tmp 15) rfl (w.heap.size + 1) D0 (of4 ⟨(D 0).s, A0, (D 0).n, c0, (D 0).x, (D 0).f⟩ ⟨(D 1).s, A1, (D 1).n, c1, (D 1).x, (D 1).f⟩ ⟨(D 2).s, A2, (D 2).n, c2, (D 2).x, (D 2).f⟩ ⟨(D 3).s, A3, (D 3).n, c3, (D 3).x, (D 3).f⟩) _ rfl rfl HLit.out PRz.out ?_
  refine hK.out _ _ CFz.out (fun hHeld => ?_)
  clear hK K' gz
  generalize mstore y3 (w.heap.size + 1) (of4 ⟨(D 0).s, A0, (D 0).n, c0, (D 0).x, (D 0).f⟩ ⟨(D 1).s, A1, (D 1).n, c1, (D 1).x, (D 1).f⟩ ⟨(D 2).s, A2, (D 2).n, c2, (D 2).x, (D 2).f⟩ ⟨(D 3).s, A3, (D 3).n, c3, (D 3).x, (D 3).f⟩) = W5 at *
  (try simp only [Act.put])
  refine wpAnyH_done (by kernel_rfl) ?_ _
  go_wp2
  exact bodyPost_ret (mass_cell rfl _ _ (w.heap.size + 1) (of4 ⟨(D 0).s, A0, (D 0).n, c0, (D 0).x, (D 0).f⟩ ⟨(D 1).s, A1, (D 1).n, c1, (D 1).x, (D 1).f⟩ ⟨(D 2).s, A2, (D 2).n, c2, (D 2).x, (D 2).f⟩ ⟨(D 3).s, A3, (D 3).n, c3, (D 3).x, (D 3).f⟩) rfl PRs.out) rfl ⟨_, rfl, HFin.out, Kz.out⟩

set_option maxRecDepth 100000 in
set_option maxHeartbeats 3200000 in
theorem emminus_any {w : World} {D : Nat → Dy} (h : Mrd w w.heap.size D) :
    Calls Tryd.prog 31 #[.agg (mcells D)] w fun e w' => ∃ R, e = .returned (.agg (mcells R)) ∧ Hid (R = fun k => minusD (D k)) ∧ Hid (Below w.heap.size w w') := by
  obtain ⟨W, hW⟩ : ∃ W, W = (w.alloc (.cells (mcells D) 26)).alloc (.cells #[.bool false, .slice none 0 0, .int .i64 0, .bool false, .slice none 0 0, .int .i64 0, .bool false, .slice none 0 0, .int .i64 0, .bool false, .slice none 0 0, .int .i64 0] 26) := ⟨_, rfl⟩
  have HW := hid hW
  have K := hid (show Below w.heap.size w W from hW ▸ ((Below.refl _ w).alloc (Nat.le_refl _) _).alloc (by simp) _)
  have PD : Hid (Mbox W w.heap.size D) := hid (hW ▸ (show Mbox (w.alloc _) w.heap.size D from new_at rfl).alloc _)
  have PR : Hid (Mbox W (w.heap.size + 1) D0) := hid (hW ▸ (show Mbox ((w.alloc _).alloc _) (w.heap.size + 1) D0 from new_at (by simp)))
  have Hsz := hid (show w.heap.size + 2 = W.heap.size by rw [hW]; simp)
  have Hm := hid (fun k (hk : k < 4) => (h k hk).max)
  clear hW h
  go_enter Tryd.func31, Tryd.ntmps31
  go_upto_region 1 with fail
  rw [← HW.out]
  have CF : Hid (∀ X, Below W.heap.size W X → Mbox X w.heap.size D) := hid fun X hb => PD.out.below hb PD.out.lt
  have BX : Hid (Below W.heap.size W W.drew) := hid (Below.refl W.heap.size W).drew
  refine wp_region_held_drew (S := fun X => Mbox X w.heap.size D) (by kernel_rfl) (CF.out _ BX.out) (fun hHeld => ?_)
  refine wpAnyH_take (i := 0) (v := ?v6) rfl (by kernel_rfl) (by kernel_rfl) (by kernel_rfl) (fun _ _ _ h => h) (Or.inl ⟨by rfl, ?y6⟩) (by assumption) ?r6
  case y6 => (intro w0 hSw; (try dsimp only at hSw); (try simp only [List.getElem_toArray, List.getElem_cons_zero]); go_simp; try with_reducible rfl)
  (try simp only [Act.put, List.setIfInBounds_toArray, List.set_cons_zero, List.set_cons_succ, List.getElem_toArray, List.getElem_cons_zero])
  refine wpAnyH_take (i := 1) rfl (by kernel_rfl) (by kernel_rfl) (by kernel_rfl) (fun _ _ _ h => h) (yields_pl0 (by rfl) (.tmp 3) rfl w.heap.size D rfl (fun X hX => hX)) hHeld ?_
  (try simp only [Act.put, List.setIfInBounds_toArray, List.set_cons_zero, List.set_cons_succ, List.getElem_toArray, List.getElem_cons_succ, List.getElem_cons_zero])
  refine wpAnyH_take (i := 3) (v := ?v7) rfl (by kernel_rfl) (by kernel_rfl) (by kernel_rfl) (fun _ _ _ h => h) (Or.inl ⟨by rfl, ?y7⟩) (by assumption) ?r7
  case y7 => (intro w0 hSw; (try dsimp only at hSw); (try simp only [List.getElem_toArray, List.getElem_cons_succ, List.getElem_cons_zero]); go_simp; try with_reducible rfl)
  (try simp only [Act.put, List.setIfInBounds_toArray, List.set_cons_zero, List.set_cons_succ, List.getElem_toArray, List.getElem_cons_succ, List.getElem_cons_zero])
  refine wpAnyH_take (i := 4) rfl (by kernel_rfl) (by kernel_rfl) (by kernel_rfl) (fun _ _ _ h => h) (yields_pl1 (by rfl) (.tmp 6) rfl w.heap.size D rfl (fun X hX => hX)) hHeld ?_
  (try simp only [Act.put, List.setIfInBounds_toArray, List.set_cons_zero, List.set_cons_succ, List.getElem_toArray, List.getElem_cons_succ, List.getElem_cons_zero])
  refine wpAnyH_take (i := 6) (v := ?v8) rfl (by kernel_rfl) (by kernel_rfl) (by kernel_rfl) (fun _ _ _ h => h) (Or.inl ⟨by rfl, ?y8⟩) (by assumption) ?r8
  case y8 => (intro w0 hSw; (try dsimp only at hSw); (try simp only [List.getElem_toArray, List.getElem_cons_succ, List.getElem_cons_zero]); go_simp; try with_reducible rfl)
  (try simp only [Act.put, List.setIfInBounds_toArray, List.set_cons_zero, List.set_cons_succ, List.getElem_toArray, List.getElem_cons_succ, List.getElem_cons_zero])
  refine wpAnyH_take (i := 7) rfl (by kernel_rfl) (by kernel_rfl) (by kernel_rfl) (fun _ _ _ h => h) (yields_pl2 (by rfl) (.tmp 9) rfl w.heap.size D rfl (fun X hX => hX)) hHeld ?_
  (try simp only [Act.put, List.setIfInBounds_toArray, List.set_cons_zero, List.set_cons_succ, List.getElem_toArray, List.getElem_cons_succ, List.getElem_cons_zero])
  refine wpAnyH_take (i := 9) (v := ?v9) rfl (by kernel_rfl) (by kernel_rfl) (by kernel_rfl) (fun _ _ _ h => h) (Or.inl ⟨by rfl, ?y9⟩) (by assumption) ?r9
  case y9 => (intro w0 hSw; (try dsimp only at hSw); (try simp only [List.getElem_toArray, List.getElem_cons_succ, List.getElem_cons_zero]); go_simp; try with_reducible rfl)
  (try simp only [Act.put, List.setIfInBounds_toArray, List.set_cons_zero, List.set_cons_succ, List.getElem_toArray, List.getElem_cons_succ, List.getElem_cons_zero])
  refine wpAnyH_take (i := 10) rfl (by kernel_rfl) (by kernel_rfl) (by kernel_rfl) (fun _ _ _ h => h) (yields_pl3 (by rfl) (.tmp 12) rfl w.heap.size D rfl (fun X hX => hX)) hHeld ?_
  (try simp only [Act.put, List.setIfInBounds_toArray, List.set_cons_zero, List.set_cons_succ, List.getElem_toArray, List.getElem_cons_succ, List.getElem_cons_zero])
  refine wpAnyH_ready (rs := [2]) (by kernel_rfl) (by simp) ?_
  refine AllReadyH.cons rfl (fun K' hK => ?_) AllReadyH.nil
  (try simp only [Act.put, List.setIfInBounds_toArray, List.set_cons_zero, List.set_cons_succ, List.getElem_toArray, List.getElem_cons_succ, List.getElem_cons_zero])
  go_simp
  refine (eminus_dy (D 0) (Hm.out 0 (by omega)) _).mono ?_
  rintro e y0 ⟨rfl, hb⟩
  replace BX := hid (BX.out.trans (hb.out.mono BX.out.size))

  try dsimp only
  refine hK.out _ _ (CF.out _ BX.out) (fun hHeld => ?_)
  clear hK K' hb
  (try simp only [Act.put, List.setIfInBounds_toArray, List.set_cons_zero, List.set_cons_succ, List.getElem_toArray, List.getElem_cons_succ, List.getElem_cons_zero])
  refine wpAnyH_ready (rs := [5]) (by kernel_rfl) (by simp) ?_
  refine AllReadyH.cons rfl (fun K' hK => ?_) AllReadyH.nil
  (try simp only [Act.put, List.setIfInBounds_toArray, List.set_cons_zero, List.set_cons_succ, List.getElem_toArray, List.getElem_cons_succ, List.getElem_cons_zero])
  go_simp
  refine (eminus_dy (D 1) (Hm.out 1 (by omega)) _).mono ?_
  rintro e y1 ⟨rfl, hb⟩
  replace BX := hid (BX.out.trans (hb.out.mono BX.out.size))

  try dsimp only
  refine hK.out _ _ (CF.out _ BX.out) (fun hHeld => ?_)
  clear hK K' hb
  (try simp only [Act.put, List.setIfInBounds_toArray, List.set_cons_zero, List.set_cons_succ, List.getElem_toArray, List.getElem_cons_succ, List.getElem_cons_zero])
  refine wpAnyH_ready (rs := [8]) (by kernel_rfl) (by simp) ?_
  refine AllReadyH.cons rfl (fun K' hK => ?_) AllReadyH.nil
  (try simp only [Act.put, List.setIfInBounds_toArray, List.set_cons_zero, List.set_cons_succ, List.getElem_toArray, List.getElem_cons_succ, List.getElem_cons_zero])
  go_simp
  refine (eminus_dy (D 2) (Hm.out 2 (by omega)) _).mono ?_
  rintro e y2 ⟨rfl, hb⟩
  replace BX := hid (BX.out.trans (hb.out.mono BX.out.size))

  try dsimp only
  refine hK.out _ _ (CF.out _ BX.out) (fun hHeld => ?_)
  clear hK K' hb
  (try simp only [Act.put, List.setIfInBounds_toArray, List.set_cons_zero, List.set_cons_succ, List.getElem_toArray, List.getElem_cons_succ, List.getElem_cons_zero])
  refine wpAnyH_ready (rs := [11]) (by kernel_rfl) (by simp) ?_
  refine AllReadyH.cons rfl (fun K' hK => ?_) AllReadyH.nil
  (try simp only [Act.put, List.setIfInBounds_toArray, List.set_cons_zero, List.set_cons_succ, List.getElem_toArray, List.getElem_cons_succ, List.getElem_cons_zero])
  go_simp
  refine (eminus_dy (D 3) (Hm.out 3 (by omega)) _).mono ?_
  rintro e y3 ⟨rfl, hb⟩
  replace BX := hid (BX.out.trans (hb.out.mono BX.out.size))

  try dsimp only
  refine hK.out _ _ (CF.out _ BX.out) (fun hHeld => ?_)
  clear hK K' hb
  (try simp only [Act.put, List.setIfInBounds_toArray, List.set_cons_zero, List.set_cons_succ, List.getElem_toArray, List.getElem_cons_succ, List.getElem_cons_zero])
  refine wpAnyH_take (i := 12) (v := ?v10) rfl (by kernel_rfl) (by kernel_rfl) (by kernel_rfl) (fun _ _ _ h => h) (Or.inl ⟨by rfl, ?y10⟩) (by assumption) ?r10
  case y10 => (intro w0 hSw; (try dsimp only at hSw); (try simp only [List.getElem_toArray, List.getElem_cons_succ, List.getElem_cons_zero]); go_simp; try with_reducible rfl)
  (try simp only [Act.put, List.setIfInBounds_toArray, List.set_cons_zero, List.set_cons_succ, List.getElem_toArray, List.getElem_cons_succ, List.getElem_cons_zero])
  have HLit := hid (show (#[.bool (mneg (D 0)), .slice (D 0).A (D 0).n (D 0).c, .int .i64 (D 0).x, .bool (mneg (D 1)), .slice (D 1).A (D 1).n (D 1).c, .int .i64 (D 1).x, .bool (mneg (D 2)), .slice (D 2).A (D 2).n (D 2).c, .int .i64 (D 2).x, .bool (mneg (D 3)), .slice (D 3).A (D 3).n (D 3).c, .int .i64 (D 3).x] : Array Value) = mcells (fun k => minusD (D k)) from rfl)
  have PRz := hid (PR.out.below BX.out PR.out.lt)
  have gz := grown_mstore y3 (w.heap.size + 1) (fun k => minusD (D k))
  have Kz := hid (below_row (K.out.trans (BX.out.mono K.out.size)) gz (Nat.le_trans K.out.size BX.out.size) (by omega))
  have PRs := hid (PRz.out.store (fun k => minusD (D k)))
  have CFz := hid ((CF.out _ BX.out).grown gz (by omega))
  skip
  refine wpAnyH_ready (rs := [13]) (by kernel_rfl) (by simp) ?_
  refine AllReadyH.cons rfl (fun K' hK => ?_) AllReadyH.nil
  (try simp only [List.getElem_toArray, List.getElem_cons_succ, List.getElem_cons_zero])
  refine ite_go (by kernel_rfl) ?_
  refine wp1_mstore_ (.tmp 2) (.tmp 15) rfl (w.heap.size + 1) D0 (fun k => minusD (D k)) _ rfl rfl HLit.out PRz.out ?_
  refine hK.out _ _ CFz.out (fun hHeld => ?_)
  clear hK K' gz
  generalize mstore y3 (w.heap.size + 1) (fun k => minusD (D k)) = W5 at *
  (try simp only [Act.put])
  refine wpAnyH_done (by kernel_rfl) ?_ _
  go_wp2
  exact bodyPost_ret (mass_cell rfl _ _ (w.heap.size + 1) (fun k => minusD (D k)) rfl PRs.out) rfl ⟨_, rfl, rfl, Kz.out⟩

end Go.Proofs.YtelalanhalbicaaDoor


namespace Go.Proofs.YtelalanhalbicaaDoor
open Go.RowKit Go.Shelf

theorem eadd_dy {w : World} {q p : Prop} {M N : Int} {d e : Dy} (h : Drd w q M d) (h2 : Drd w p N e) (hq : q) (hp : p) :
    Calls Tryd.prog 29 #[.agg #[.bool d.s, .slice d.A d.n d.c, .int .i64 d.x], .agg #[.bool e.s, .slice e.A e.n e.c, .int .i64 e.x]] w fun en w' => ∃ (r : Dy) (er : Int), en = .returned (.tuple #[dyv r, .int .i64 er]) ∧ Hid (Derr (M + N) er) ∧ Hid (Drd w' True (resD er (M + N)) r) ∧ Hid (Below w.heap.size w w') := by
  refine (eadd_any h.arg h2.arg).mono ?_
  rintro en w' ⟨v, er, rfl, HE, HD, HB⟩
  obtain ⟨r, rfl, hr⟩ := HD.out.drd
  exact ⟨r, er, rfl, HE.out.1 ⟨hq, hp⟩, hr, HB⟩
theorem run_max_int4 {P : Program} {w : World} (ts : Array TypeId) (t : TypeId) (k k' k'' k3 : IntKind) (x y z u : Int) : (Builtin.max_ ts t #[.int k x, .int k' y, .int k'' z, .int k3 u]).run P w = .ok (.int k (let a := if y > x then y else x; let b := if z > a then z else a; if u > b then u else b)) w := by
  simp [Builtin.max_, Builtin.max2]
theorem mar_zero (w : World) : Mar w (fun _ => True) (fun _ => 0) D0 := (Mow.zero 0 w).mar
theorem Drd.ok {w : World} {M : Int} {d : Dy} (h : Drd w True (resD 0 M) d) : Drd w True M d := by rwa [resD_ok rfl] at h
/-- No limbs that are read lie in a mass's box. -/
theorem Drd.box {w w' : World} {g : Nat} {q : Prop} {M : Int} {d : Dy} {D : Nat → Dy} (h : Drd w q M d) (hm : Mbox w g D) (hg : w.grownBy w' (some g)) : Drd w' q M d := by
  refine ⟨⟨h.rd.cap, h.rd.max, h.rd.lt, h.rd.out, fun hn => ?_⟩, h.may, h.val⟩
  obtain ⟨b, off, hA, hB, hc⟩ := h.rd.at_ hn
  have hne : b ≠ g := by
    rintro rfl
    have h0 := hc 0 hn
    rw [cell_of_row w b _ _ _ (0, 0) hm] at h0
    match off, h0 with
    | 0, h0 | 1, h0 | 2, h0 | 3, h0 | 4, h0 | 5, h0 | 6, h0 | 7, h0 | 8, h0 | 9, h0 | 10, h0 | 11, h0 => simp at h0
    | k + 12, h0 => simp at h0
  exact ⟨b, off, hA, Nat.lt_of_lt_of_le hB hg.size, fun j hj => (World.cell?_of_block (hg.block b hB (by intro e; injection e with e; exact hne e))).trans (hc j hj)⟩
/-- The greatest of four errors. -/
theorem max_four {M : Nat → Int} {e0 e1 e2 e3 : Int} (h0 : Derr (M 0) e0) (h1 : Derr (M 1) e1) (h2 : Derr (M 2) e2) (h3 : Derr (M 3) e3) :
    (All4 (fun k => Okay (M k)) ∧ e0 = 0 ∧ e1 = 0 ∧ e2 = 0 ∧ e3 = 0) ∨ (¬ All4 (fun k => Okay (M k)) ∧ ∀ (P : Program) (w : World) (ts : Array TypeId) (t : TypeId), (Builtin.max_ ts t #[.int .i64 e0, .int .i64 e1, .int .i64 e2, .int .i64 e3]).run P w = .ok (.int .i64 10) w) := by
  rcases h0 with ⟨h0, rfl⟩ | ⟨h0, rfl⟩ <;> rcases h1 with ⟨h1, rfl⟩ | ⟨h1, rfl⟩ <;> rcases h2 with ⟨h2, rfl⟩ | ⟨h2, rfl⟩ <;> rcases h3 with ⟨h3, rfl⟩ | ⟨h3, rfl⟩
  · exact .inl ⟨all_of4 (P := fun k => Okay (M k)) h0 h1 h2 h3, rfl, rfl, rfl, rfl⟩
  all_goals
    refine .inr ⟨fun ha => ?_, fun P w ts t => (run_max_int4 ts t _ _ _ _ _ _ _ _).trans rfl⟩
    first
      | exact h0 (ha 0 (by omega))
      | exact h1 (ha 1 (by omega))
      | exact h2 (ha 2 (by omega))
      | exact h3 (ha 3 (by omega))

set_option maxRecDepth 100000 in
set_option maxHeartbeats 6400000 in
theorem emadd_any {w : World} {q p : Nat → Prop} {M N : Nat → Int} {D E : Nat → Dy} (h : Mrr w q M D) (h2 : Mrr w p N E) :
    Calls Tryd.prog 8 #[.agg (mcells D), .agg (mcells E)] w (EMRes w (Merrs (All4 q ∧ All4 p) (fun k => M k + N k)) (fun k => M k + N k)) := by
  obtain ⟨W, hW⟩ : ∃ W, W = ((w.alloc (.cells (mcells D) 26)).alloc (.cells (mcells E) 26)).alloc (.cells #[.bool false, .slice none 0 0, .int .i64 0, .bool false, .slice none 0 0, .int .i64 0, .bool false, .slice none 0 0, .int .i64 0, .bool false, .slice none 0 0, .int .i64 0] 26) := ⟨_, rfl⟩
  have HW := hid hW
  have K := hid (show Below w.heap.size w W from hW ▸ (((Below.refl _ w).alloc (Nat.le_refl _) _).alloc (by simp) _).alloc (by simp; omega) _)
  have PD : Hid (Mbox W w.heap.size D) := hid (hW ▸ ((show Mbox (w.alloc _) w.heap.size D from new_at rfl).alloc _).alloc _)
  have PE : Hid (Mbox W (w.heap.size + 1) E) := hid (hW ▸ (show Mbox ((w.alloc _).alloc _) (w.heap.size + 1) E from new_at (by simp)).alloc _)
  have PR : Hid (Mbox W (w.heap.size + 1 + 1) D0) := hid (hW ▸ (show Mbox (((w.alloc _).alloc _).alloc _) (w.heap.size + 2) D0 from new_at (by simp)))
  have HD := hid (h.below K.out)
  have HE := hid (h2.below K.out)
  have HmD := hid h.may
  have HmE := hid h2.may
  clear hW h h2
  go_enter Tryd.func8, Tryd.ntmps8
  go_upto_region 1 with fail
  rw [← HW.out]
  clear HW
  go_wp2_with (first
    | (with_reducible refine wp_mload rfl (.tmp 2) rfl w.heap.size D rfl PD.out ?_)
    | (with_reducible refine wp_mload rfl (.tmp 3) rfl (w.heap.size + 1) E rfl PE.out ?_)
    | (with_reducible refine wp_mload_g (by kernel_rfl) (.tmp 2) rfl w.heap.size D rfl PD.out ?_)
    | (with_reducible refine wp_mload_g (by kernel_rfl) (.tmp 3) rfl (w.heap.size + 1) E rfl PE.out ?_)
    | fail)
  refine (emmay_any HD.out.mrd).mono ?_
  rintro e yD ⟨rD, rfl, HrD, hb⟩
  replace K := hid (K.out.trans (hb.out.mono K.out.size))
  replace PD := hid (PD.out.below hb.out PD.out.lt)
  replace PE := hid (PE.out.below hb.out PE.out.lt)
  replace PR := hid (PR.out.below hb.out PR.out.lt)
  replace HD := hid (HD.out.below hb.out)
  replace HE := hid (HE.out.below hb.out)
  clear hb
  cases rD with
  | false =>
    have Hn := hid (show ¬ (All4 q ∧ All4 p) from fun hy => by have := HrD.out.2 (HmD.out.1 hy.1); cases this)
    clear HrD
    go_wp2_with (first
      | (with_reducible refine wp_mzero rfl (.tmp 4) (.tmp 22) rfl (w.heap.size + 1 + 1) D0 rfl rfl PR.out ?_)
      | fail)
    have g := grown_mstore yD (w.heap.size + 1 + 1) D0
    exact ret_mass rfl rfl rfl rfl (PR.out.store D0) ⟨D0, 8, rfl, ⟨fun hy => absurd hy Hn.out, fun _ => rfl⟩, (by rw [resM_bad (by decide)]; exact (mar_zero _).mrr), below_row K.out g K.out.size (by omega)⟩
  | true =>
    have HqD := hid (HmD.out.2 (HrD.out.1 (by trivial)))
    clear HrD
    go_wp2_with (first
      | (with_reducible refine wp_mload rfl (.tmp 2) rfl w.heap.size D rfl PD.out ?_)
      | (with_reducible refine wp_mload rfl (.tmp 3) rfl (w.heap.size + 1) E rfl PE.out ?_)
      | (with_reducible refine wp_mload_g (by kernel_rfl) (.tmp 2) rfl w.heap.size D rfl PD.out ?_)
      | (with_reducible refine wp_mload_g (by kernel_rfl) (.tmp 3) rfl (w.heap.size + 1) E rfl PE.out ?_)
      | fail)
    refine (emmay_any HE.out.mrd).mono ?_
    rintro e yE ⟨rE, rfl, HrE, hb⟩
    replace K := hid (K.out.trans (hb.out.mono K.out.size))
    replace PD := hid (PD.out.below hb.out PD.out.lt)
    replace PE := hid (PE.out.below hb.out PE.out.lt)
    replace PR := hid (PR.out.below hb.out PR.out.lt)
    replace HD := hid (HD.out.below hb.out)
    replace HE := hid (HE.out.below hb.out)
    clear hb
    cases rE with
    | false =>
      have Hn := hid (show ¬ (All4 q ∧ All4 p) from fun hy => by have := HrE.out.2 (HmE.out.1 hy.2); cases this)
      clear HrE
      go_wp2_with (first
        | (with_reducible refine wp_mzero rfl (.tmp 4) (.tmp 22) rfl (w.heap.size + 1 + 1) D0 rfl rfl PR.out ?_)
        | fail)
      have g := grown_mstore yE (w.heap.size + 1 + 1) D0
      exact ret_mass rfl rfl rfl rfl (PR.out.store D0) ⟨D0, 8, rfl, ⟨fun hy => absurd hy Hn.out, fun _ => rfl⟩, (by rw [resM_bad (by decide)]; exact (mar_zero _).mrr), below_row K.out g K.out.size (by omega)⟩
    | true =>
      have HqE := hid (HmE.out.2 (HrE.out.1 (by trivial)))
      clear HrE
      go_wp2_with (first
        | (with_reducible refine wp_pl0 rfl (.tmp 24) rfl w.heap.size D rfl PD.out ?_)
        | (with_reducible refine wp_pl0 rfl (.tmp 26) rfl (w.heap.size + 1) E rfl PE.out ?_)
        | (with_reducible refine wp_mload rfl (.tmp 2) rfl w.heap.size D rfl PD.out ?_)
        | (with_reducible refine wp_mload rfl (.tmp 3) rfl (w.heap.size + 1) E rfl PE.out ?_)
        | (with_reducible refine wp_mload_g (by kernel_rfl) (.tmp 2) rfl w.heap.size D rfl PD.out ?_)
        | (with_reducible refine wp_mload_g (by kernel_rfl) (.tmp 3) rfl (w.heap.size + 1) E rfl PE.out ?_)
        | fail)
      refine (eadd_dy (HD.out 0 (by omega)) (HE.out 0 (by omega)) (HqD.out 0 (by omega)) (HqE.out 0 (by omega))).mono ?_
      rintro en y0 ⟨r0, e0, rfl, He0, Hr0, hb⟩
      obtain ⟨s0, A0, n0, c0, x0, f0⟩ := r0
      replace K := hid (K.out.trans (hb.out.mono K.out.size))
      replace PD := hid (PD.out.below hb.out PD.out.lt)
      replace PE := hid (PE.out.below hb.out PE.out.lt)
      replace PR := hid (PR.out.below hb.out PR.out.lt)
      replace HD := hid (HD.out.below hb.out)
      replace HE := hid (HE.out.below hb.out)
      clear hb
      go_upto_region 4 with fail
      obtain ⟨Y0, hY⟩ : ∃ Y, Y = y0.alloc (.cells #[.bool s0, .slice A0 n0 c0, .int .i64 x0] 24) := ⟨_, rfl⟩
      rw [← hY]
      have Pd0 : Hid (Dbox Y0 y0.heap.size s0 (.slice A0 n0 c0) x0) := hid (hY ▸ heap_alloc_new y0 _)
      have hn : Hid (Below y0.heap.size y0 Y0) := hid (hY ▸ (Below.refl _ y0).alloc (Nat.le_refl _) _)
      clear hY
      replace K := hid (K.out.trans (hn.out.mono K.out.size))
      replace PD := hid (PD.out.below hn.out PD.out.lt)
      replace PE := hid (PE.out.below hn.out PE.out.lt)
      replace PR := hid (PR.out.below hn.out PR.out.lt)
      replace HD := hid (HD.out.below hn.out)
      replace HE := hid (HE.out.below hn.out)
      replace Hr0 := hid (Hr0.out.below hn.out)
      clear hn
      go_wp2_with (first
        | (with_reducible refine wp_pl1 rfl (.tmp 32) rfl w.heap.size D rfl PD.out ?_)
        | (with_reducible refine wp_pl1 rfl (.tmp 34) rfl (w.heap.size + 1) E rfl PE.out ?_)
        | (with_reducible refine wp_mload rfl (.tmp 2) rfl w.heap.size D rfl PD.out ?_)
        | (with_reducible refine wp_mload rfl (.tmp 3) rfl (w.heap.size + 1) E rfl PE.out ?_)
        | (with_reducible refine wp_mload_g (by kernel_rfl) (.tmp 2) rfl w.heap.size D rfl PD.out ?_)
        | (with_reducible refine wp_mload_g (by kernel_rfl) (.tmp 3) rfl (w.heap.size + 1) E rfl PE.out ?_)
        | fail)
      refine (eadd_dy (HD.out 1 (by omega)) (HE.out 1 (by omega)) (HqD.out 1 (by omega)) (HqE.out 1 (by omega))).mono ?_
      rintro en y1 ⟨r1, e1, rfl, He1, Hr1, hb⟩
      obtain ⟨s1, A1, n1, c1, x1, f1⟩ := r1
      replace K := hid (K.out.trans (hb.out.mono K.out.size))
      replace PD := hid (PD.out.below hb.out PD.out.lt)
      replace PE := hid (PE.out.below hb.out PE.out.lt)
      replace PR := hid (PR.out.below hb.out PR.out.lt)
      replace HD := hid (HD.out.below hb.out)
      replace HE := hid (HE.out.below hb.out)
      replace Hr0 := hid (Hr0.out.below hb.out)
      replace Pd0 := hid (Pd0.out.below hb.out Pd0.out.lt)
      clear hb
      go_upto_region 5 with fail
      obtain ⟨Y1, hY⟩ : ∃ Y, Y = y1.alloc (.cells #[.bool s1, .slice A1 n1 c1, .int .i64 x1] 24) := ⟨_, rfl⟩
      rw [← hY]
      have Pd1 : Hid (Dbox Y1 y1.heap.size s1 (.slice A1 n1 c1) x1) := hid (hY ▸ heap_alloc_new y1 _)
      have hn : Hid (Below y1.heap.size y1 Y1) := hid (hY ▸ (Below.refl _ y1).alloc (Nat.le_refl _) _)
      clear hY
      replace K := hid (K.out.trans (hn.out.mono K.out.size))
      replace PD := hid (PD.out.below hn.out PD.out.lt)
      replace PE := hid (PE.out.below hn.out PE.out.lt)
      replace PR := hid (PR.out.below hn.out PR.out.lt)
      replace HD := hid (HD.out.below hn.out)
      replace HE := hid (HE.out.below hn.out)
      replace Hr0 := hid (Hr0.out.below hn.out)
      replace Pd0 := hid (Pd0.out.below hn.out Pd0.out.lt)
      replace Hr1 := hid (Hr1.out.below hn.out)
      clear hn
      go_wp2_with (first
        | (with_reducible refine wp_pl2 rfl (.tmp 40) rfl w.heap.size D rfl PD.out ?_)
        | (with_reducible refine wp_pl2 rfl (.tmp 42) rfl (w.heap.size + 1) E rfl PE.out ?_)
        | (with_reducible refine wp_mload rfl (.tmp 2) rfl w.heap.size D rfl PD.out ?_)
        | (with_reducible refine wp_mload rfl (.tmp 3) rfl (w.heap.size + 1) E rfl PE.out ?_)
        | (with_reducible refine wp_mload_g (by kernel_rfl) (.tmp 2) rfl w.heap.size D rfl PD.out ?_)
        | (with_reducible refine wp_mload_g (by kernel_rfl) (.tmp 3) rfl (w.heap.size + 1) E rfl PE.out ?_)
        | fail)
      refine (eadd_dy (HD.out 2 (by omega)) (HE.out 2 (by omega)) (HqD.out 2 (by omega)) (HqE.out 2 (by omega))).mono ?_
      rintro en y2 ⟨r2, e2, rfl, He2, Hr2, hb⟩
      obtain ⟨s2, A2, n2, c2, x2, f2⟩ := r2
      replace K := hid (K.out.trans (hb.out.mono K.out.size))
      replace PD := hid (PD.out.below hb.out PD.out.lt)
      replace PE := hid (PE.out.below hb.out PE.out.lt)
      replace PR := hid (PR.out.below hb.out PR.out.lt)
      replace HD := hid (HD.out.below hb.out)
      replace HE := hid (HE.out.below hb.out)
      replace Hr0 := hid (Hr0.out.below hb.out)
      replace Pd0 := hid (Pd0.out.below hb.out Pd0.out.lt)
      replace Hr1 := hid (Hr1.out.below hb.out)
      replace Pd1 := hid (Pd1.out.below hb.out Pd1.out.lt)
      clear hb
      go_upto_region 6 with fail
      obtain ⟨Y2, hY⟩ : ∃ Y, Y = y2.alloc (.cells #[.bool s2, .slice A2 n2 c2, .int .i64 x2] 24) := ⟨_, rfl⟩
      rw [← hY]
      have Pd2 : Hid (Dbox Y2 y2.heap.size s2 (.slice A2 n2 c2) x2) := hid (hY ▸ heap_alloc_new y2 _)
      have hn : Hid (Below y2.heap.size y2 Y2) := hid (hY ▸ (Below.refl _ y2).alloc (Nat.le_refl _) _)
      clear hY
      replace K := hid (K.out.trans (hn.out.mono K.out.size))
      replace PD := hid (PD.out.below hn.out PD.out.lt)
      replace PE := hid (PE.out.below hn.out PE.out.lt)
      replace PR := hid (PR.out.below hn.out PR.out.lt)
      replace HD := hid (HD.out.below hn.out)
      replace HE := hid (HE.out.below hn.out)
      replace Hr0 := hid (Hr0.out.below hn.out)
      replace Pd0 := hid (Pd0.out.below hn.out Pd0.out.lt)
      replace Hr1 := hid (Hr1.out.below hn.out)
      replace Pd1 := hid (Pd1.out.below hn.out Pd1.out.lt)
      replace Hr2 := hid (Hr2.out.below hn.out)
      clear hn
      go_wp2_with (first
        | (with_reducible refine wp_pl3 rfl (.tmp 48) rfl w.heap.size D rfl PD.out ?_)
        | (with_reducible refine wp_pl3 rfl (.tmp 50) rfl (w.heap.size + 1) E rfl PE.out ?_)
        | (with_reducible refine wp_mload rfl (.tmp 2) rfl w.heap.size D rfl PD.out ?_)
        | (with_reducible refine wp_mload rfl (.tmp 3) rfl (w.heap.size + 1) E rfl PE.out ?_)
        | (with_reducible refine wp_mload_g (by kernel_rfl) (.tmp 2) rfl w.heap.size D rfl PD.out ?_)
        | (with_reducible refine wp_mload_g (by kernel_rfl) (.tmp 3) rfl (w.heap.size + 1) E rfl PE.out ?_)
        | fail)
      refine (eadd_dy (HD.out 3 (by omega)) (HE.out 3 (by omega)) (HqD.out 3 (by omega)) (HqE.out 3 (by omega))).mono ?_
      rintro en y3 ⟨r3, e3, rfl, He3, Hr3, hb⟩
      obtain ⟨s3, A3, n3, c3, x3, f3⟩ := r3
      replace K := hid (K.out.trans (hb.out.mono K.out.size))
      replace PD := hid (PD.out.below hb.out PD.out.lt)
      replace PE := hid (PE.out.below hb.out PE.out.lt)
      replace PR := hid (PR.out.below hb.out PR.out.lt)
      replace HD := hid (HD.out.below hb.out)
      replace HE := hid (HE.out.below hb.out)
      replace Hr0 := hid (Hr0.out.below hb.out)
      replace Pd0 := hid (Pd0.out.below hb.out Pd0.out.lt)
      replace Hr1 := hid (Hr1.out.below hb.out)
      replace Pd1 := hid (Pd1.out.below hb.out Pd1.out.lt)
      replace Hr2 := hid (Hr2.out.below hb.out)
      replace Pd2 := hid (Pd2.out.below hb.out Pd2.out.lt)
      clear hb
      go_upto_region 7 with fail
      obtain ⟨Y3, hY⟩ : ∃ Y, Y = y3.alloc (.cells #[.bool s3, .slice A3 n3 c3, .int .i64 x3] 24) := ⟨_, rfl⟩
      rw [← hY]
      have Pd3 : Hid (Dbox Y3 y3.heap.size s3 (.slice A3 n3 c3) x3) := hid (hY ▸ heap_alloc_new y3 _)
      have hn : Hid (Below y3.heap.size y3 Y3) := hid (hY ▸ (Below.refl _ y3).alloc (Nat.le_refl _) _)
      clear hY
      replace K := hid (K.out.trans (hn.out.mono K.out.size))
      replace PD := hid (PD.out.below hn.out PD.out.lt)
      replace PE := hid (PE.out.below hn.out PE.out.lt)
      replace PR := hid (PR.out.below hn.out PR.out.lt)
      replace HD := hid (HD.out.below hn.out)
      replace HE := hid (HE.out.below hn.out)
      replace Hr0 := hid (Hr0.out.below hn.out)
      replace Pd0 := hid (Pd0.out.below hn.out Pd0.out.lt)
      replace Hr1 := hid (Hr1.out.below hn.out)
      replace Pd1 := hid (Pd1.out.below hn.out Pd1.out.lt)
      replace Hr2 := hid (Hr2.out.below hn.out)
      replace Pd2 := hid (Pd2.out.below hn.out Pd2.out.lt)
      replace Hr3 := hid (Hr3.out.below hn.out)
      clear hn
      have hcase := max_four (M := fun k => M k + N k) He0.out He1.out He2.out He3.out
      clear He0 He1 He2 He3
      rcases hcase with ⟨hok, rfl, rfl, rfl, rfl⟩ | ⟨hno, hmx⟩
      · have HOk := hid hok
        clear hok
        have hmx : ∀ (P : Program) (w : World) (ts : Array TypeId) (t : TypeId), (Builtin.max_ ts t #[.int .i64 0, .int .i64 0, .int .i64 0, .int .i64 0]).run P w = .ok (.int .i64 0) w := fun P w ts t => (run_max_int4 ts t _ _ _ _ _ _ _ _).trans rfl
        have t00 := Pd0.out.c0
        have t01 := Pd0.out.c1
        have t02 := Pd0.out.c2
        have t10 := Pd1.out.c0
        have t11 := Pd1.out.c1
        have t12 := Pd1.out.c2
        have t20 := Pd2.out.c0
        have t21 := Pd2.out.c1
        have t22 := Pd2.out.c2
        have t30 := Pd3.out.c0
        have t31 := Pd3.out.c1
        have t32 := Pd3.out.c2
        have HLit := hid (show (#[.bool s0, .slice A0 n0 c0, .int .i64 x0, .bool s1, .slice A1 n1 c1, .int .i64 x1, .bool s2, .slice A2 n2 c2, .int .i64 x2, .bool s3, .slice A3 n3 c3, .int .i64 x3] : Array Value) = mcells (of4 ⟨s0, A0, n0, c0, x0, f0⟩ ⟨s1, A1, n1, c1, x1, f1⟩ ⟨s2, A2, n2, c2, x2, f2⟩ ⟨s3, A3, n3, c3, x3, f3⟩) from rfl)
        have gz := grown_mstore Y3 (w.heap.size + 1 + 1) (of4 ⟨s0, A0, n0, c0, x0, f0⟩ ⟨s1, A1, n1, c1, x1, f1⟩ ⟨s2, A2, n2, c2, x2, f2⟩ ⟨s3, A3, n3, c3, x3, f3⟩)
        have hb := hid (below_row (Below.refl w.heap.size Y3) gz K.out.size (by omega))
        have HFin : Hid (Mrr (mstore Y3 (w.heap.size + 1 + 1) (of4 ⟨s0, A0, n0, c0, x0, f0⟩ ⟨s1, A1, n1, c1, x1, f1⟩ ⟨s2, A2, n2, c2, x2, f2⟩ ⟨s3, A3, n3, c3, x3, f3⟩)) (of4 True True True True) (of4 (M 0 + N 0) (M 1 + N 1) (M 2 + N 2) (M 3 + N 3)) (of4 ⟨s0, A0, n0, c0, x0, f0⟩ ⟨s1, A1, n1, c1, x1, f1⟩ ⟨s2, A2, n2, c2, x2, f2⟩ ⟨s3, A3, n3, c3, x3, f3⟩)) := hid (mrr4 ((Drd.ok Hr0.out).box PR.out gz) ((Drd.ok Hr1.out).box PR.out gz) ((Drd.ok Hr2.out).box PR.out gz) ((Drd.ok Hr3.out).box PR.out gz))
        have Kz := hid (below_row K.out gz K.out.size (by omega))
        clear gz hb
        go_wp2_with (first
          | (with_reducible refine wp_mstore_ rfl (.tmp 4) (.tmp 71) rfl (w.heap.size + 1 + 1) D0 (of4 ⟨s0, A0, n0, c0, x0, f0⟩ ⟨s1, A1, n1, c1, x1, f1⟩ ⟨s2, A2, n2, c2, x2, f2⟩ ⟨s3, A3, n3, c3, x3, f3⟩) _ rfl rfl HLit.out PR.out ?_)
          | fail)
        exact ret_mass rfl rfl rfl rfl (PR.out.store _) ⟨_, 0, rfl, ⟨fun _ => .inl ⟨HOk.out, rfl⟩, fun hn => absurd ⟨HqD.out, HqE.out⟩ hn⟩, (by rw [resM_ok rfl]; exact all_of4 (P := fun k => Drd _ True (M k + N k) ((of4 ⟨s0, A0, n0, c0, x0, f0⟩ ⟨s1, A1, n1, c1, x1, f1⟩ ⟨s2, A2, n2, c2, x2, f2⟩ ⟨s3, A3, n3, c3, x3, f3⟩) k)) (HFin.out 0 (by omega)) (HFin.out 1 (by omega)) (HFin.out 2 (by omega)) (HFin.out 3 (by omega))), Kz.out⟩
      · have HNo := hid hno
        clear hno
        go_wp2_with (first
          | (with_reducible refine wp_mzero rfl (.tmp 4) (.tmp 61) rfl (w.heap.size + 1 + 1) D0 rfl rfl PR.out ?_)
          | fail)
        have g := grown_mstore Y3 (w.heap.size + 1 + 1) D0
        exact ret_mass rfl rfl rfl rfl (PR.out.store D0) ⟨D0, 10, rfl, ⟨fun _ => .inr ⟨HNo.out, rfl⟩, fun hn => absurd ⟨HqD.out, HqE.out⟩ hn⟩, (by rw [resM_bad (by decide)]; exact (mar_zero _).mrr), below_row K.out g K.out.size (by omega)⟩

end Go.Proofs.YtelalanhalbicaaDoor


namespace Go.Proofs.YtelalanhalbicaaDoor
open Go.RowKit Go.Shelf

/-- What the region of the difference keeps. -/
def SbS (w : World) (D E : Nat → Dy) (X : World) : Prop := Mbox X w.heap.size D ∧ Mbox X (w.heap.size + 1) E
set_option maxRecDepth 100000 in
set_option maxHeartbeats 6400000 in
theorem emsub_any {w : World} {q p : Nat → Prop} {M N : Nat → Int} {D E : Nat → Dy} (h : Mrr w q M D) (h2 : Mrr w p N E) :
    Calls Tryd.prog 10 #[.agg (mcells D), .agg (mcells E)] w (EMRes w (Merrs (All4 q ∧ All4 p) (fun k => M k + -(N k))) (fun k => M k + -(N k))) := by
  obtain ⟨W, hW⟩ : ∃ W, W = ((w.alloc (.cells (mcells D) 26)).alloc (.cells (mcells E) 26)).alloc (.cells #[.bool false, .slice none 0 0, .int .i64 0, .bool false, .slice none 0 0, .int .i64 0, .bool false, .slice none 0 0, .int .i64 0, .bool false, .slice none 0 0, .int .i64 0] 26) := ⟨_, rfl⟩
  have HW := hid hW
  have K := hid (show Below w.heap.size w W from hW ▸ (((Below.refl _ w).alloc (Nat.le_refl _) _).alloc (by simp) _).alloc (by simp; omega) _)
  have PD : Hid (Mbox W w.heap.size D) := hid (hW ▸ ((show Mbox (w.alloc _) w.heap.size D from new_at rfl).alloc _).alloc _)
  have PE : Hid (Mbox W (w.heap.size + 1) E) := hid (hW ▸ (show Mbox ((w.alloc _).alloc _) (w.heap.size + 1) E from new_at (by simp)).alloc _)
  have PR : Hid (Mbox W (w.heap.size + 1 + 1) D0) := hid (hW ▸ (show Mbox (((w.alloc _).alloc _).alloc _) (w.heap.size + 2) D0 from new_at (by simp)))
  have HD := hid (h.below K.out)
  have HE := hid (h2.below K.out)
  have HmD := hid h.may
  have HmE := hid h2.may
  clear hW h h2
  go_enter Tryd.func10, Tryd.ntmps10
  go_upto_region 1 with fail
  rw [← HW.out]
  clear HW
  go_wp2_with (first
    | (with_reducible refine wp_mload rfl (.tmp 2) rfl w.heap.size D rfl PD.out ?_)
    | (with_reducible refine wp_mload rfl (.tmp 3) rfl (w.heap.size + 1) E rfl PE.out ?_)
    | (with_reducible refine wp_mload_g (by kernel_rfl) (.tmp 2) rfl w.heap.size D rfl PD.out ?_)
    | (with_reducible refine wp_mload_g (by kernel_rfl) (.tmp 3) rfl (w.heap.size + 1) E rfl PE.out ?_)
    | fail)
  refine (emmay_any HD.out.mrd).mono ?_
  rintro e yD ⟨rD, rfl, HrD, hb⟩
  replace K := hid (K.out.trans (hb.out.mono K.out.size))
  replace PD := hid (PD.out.below hb.out PD.out.lt)
  replace PE := hid (PE.out.below hb.out PE.out.lt)
  replace PR := hid (PR.out.below hb.out PR.out.lt)
  replace HD := hid (HD.out.below hb.out)
  replace HE := hid (HE.out.below hb.out)
  clear hb
  cases rD with
  | false =>
    have Hn := hid (show ¬ (All4 q ∧ All4 p) from fun hy => by have := HrD.out.2 (HmD.out.1 hy.1); cases this)
    clear HrD
    go_wp2_with (first
      | (with_reducible refine wp_mzero rfl (.tmp 4) (.tmp 16) rfl (w.heap.size + 1 + 1) D0 rfl rfl PR.out ?_)
      | fail)
    have g := grown_mstore yD (w.heap.size + 1 + 1) D0
    exact ret_mass rfl rfl rfl rfl (PR.out.store D0) ⟨D0, 8, rfl, ⟨fun hy => absurd hy Hn.out, fun _ => rfl⟩, (by rw [resM_bad (by decide)]; exact (mar_zero _).mrr), below_row K.out g K.out.size (by omega)⟩
  | true =>
    have HqD := hid (HmD.out.2 (HrD.out.1 (by trivial)))
    clear HrD
    go_wp2_with (first
      | (with_reducible refine wp_mload rfl (.tmp 2) rfl w.heap.size D rfl PD.out ?_)
      | (with_reducible refine wp_mload rfl (.tmp 3) rfl (w.heap.size + 1) E rfl PE.out ?_)
      | (with_reducible refine wp_mload_g (by kernel_rfl) (.tmp 2) rfl w.heap.size D rfl PD.out ?_)
      | (with_reducible refine wp_mload_g (by kernel_rfl) (.tmp 3) rfl (w.heap.size + 1) E rfl PE.out ?_)
      | fail)
    refine (emmay_any HE.out.mrd).mono ?_
    rintro e yE ⟨rE, rfl, HrE, hb⟩
    replace K := hid (K.out.trans (hb.out.mono K.out.size))
    replace PD := hid (PD.out.below hb.out PD.out.lt)
    replace PE := hid (PE.out.below hb.out PE.out.lt)
    replace PR := hid (PR.out.below hb.out PR.out.lt)
    replace HD := hid (HD.out.below hb.out)
    replace HE := hid (HE.out.below hb.out)
    clear hb
    cases rE with
    | false =>
      have Hn := hid (show ¬ (All4 q ∧ All4 p) from fun hy => by have := HrE.out.2 (HmE.out.1 hy.2); cases this)
      clear HrE
      go_wp2_with (first
        | (with_reducible refine wp_mzero rfl (.tmp 4) (.tmp 16) rfl (w.heap.size + 1 + 1) D0 rfl rfl PR.out ?_)
        | fail)
      have g := grown_mstore yE (w.heap.size + 1 + 1) D0
      exact ret_mass rfl rfl rfl rfl (PR.out.store D0) ⟨D0, 8, rfl, ⟨fun hy => absurd hy Hn.out, fun _ => rfl⟩, (by rw [resM_bad (by decide)]; exact (mar_zero _).mrr), below_row K.out g K.out.size (by omega)⟩
    | true =>
      have HqE := hid (HmE.out.2 (HrE.out.1 (by trivial)))
      clear HrE
      go_upto_region 3 with (first
        | (with_reducible refine wp_mload rfl (.tmp 2) rfl w.heap.size D rfl PD.out ?_)
        | (with_reducible refine wp_mload rfl (.tmp 3) rfl (w.heap.size + 1) E rfl PE.out ?_)
        | (with_reducible refine wp_mload_g (by kernel_rfl) (.tmp 2) rfl w.heap.size D rfl PD.out ?_)
        | (with_reducible refine wp_mload_g (by kernel_rfl) (.tmp 3) rfl (w.heap.size + 1) E rfl PE.out ?_)
        | fail)
      have Hz := hid K.out.size
      have Hl := hid PR.out.lt
      have CF : Hid (∀ X, Below yE.heap.size yE X → SbS w D E X) := hid fun X hb => ⟨PD.out.below hb PD.out.lt, PE.out.below hb PE.out.lt⟩
      have BX : Hid (Below yE.heap.size yE yE.drew) := hid (Below.refl yE.heap.size yE).drew
      refine wp_region_held_drew (S := SbS w D E) (by kernel_rfl) (CF.out _ BX.out) (fun hHeld => ?_)
      generalize yE.drew = yD at *
      refine wpAnyH_take (i := 0) rfl (by kernel_rfl) (by kernel_rfl) (by kernel_rfl) (fun _ _ _ h => h) (yields_mload (by rfl) (.tmp 2) rfl w.heap.size D rfl (fun X hX => hX.1)) hHeld ?_
      (try simp only [Act.put, List.setIfInBounds_toArray, List.set_cons_zero, List.set_cons_succ, List.getElem_toArray, List.getElem_cons_zero])
      refine wpAnyH_take (i := 1) rfl (by kernel_rfl) (by kernel_rfl) (by kernel_rfl) (fun _ _ _ h => h) (yields_mload (by rfl) (.tmp 3) rfl (w.heap.size + 1) E rfl (fun X hX => hX.2)) hHeld ?_
      (try simp only [Act.put, List.setIfInBounds_toArray, List.set_cons_zero, List.set_cons_succ, List.getElem_toArray, List.getElem_cons_succ, List.getElem_cons_zero])
      refine wpAnyH_ready (rs := [2, 7]) (by kernel_rfl) (by simp) ?_
      refine AllReadyH.cons rfl (fun K' hK => ?_) (AllReadyH.cons rfl (fun K' hK => ?_) AllReadyH.nil)
      · (try simp only [List.getElem_toArray, List.getElem_cons_succ, List.getElem_cons_zero])
        go_simp
        refine (emminus_any (HE.out.below BX.out).mrd).mono ?_
        rintro e y1 ⟨R1, rfl, ⟨rfl⟩, hb⟩
        replace BX := hid (BX.out.trans (hb.out.mono BX.out.size))
        clear hb
        try dsimp only
        refine hK.out _ _ (CF.out _ BX.out) (fun hHeld => ?_)
        clear hK K'
        (try simp only [Act.put, List.setIfInBounds_toArray, List.set_cons_zero, List.set_cons_succ, List.getElem_toArray, List.getElem_cons_succ, List.getElem_cons_zero])
        refine wpAnyH_ready (rs := [3, 7]) (by kernel_rfl) (by simp) ?_
        refine AllReadyH.cons rfl (fun K' hK => ?_) (AllReadyH.cons rfl (fun K' hK => ?_) AllReadyH.nil)
        · (try simp only [List.getElem_toArray, List.getElem_cons_succ, List.getElem_cons_zero])
          go_simp
          refine (emadd_any (HD.out.below BX.out) (show Mrr _ p (fun k => -(N k)) (fun k => minusD (E k)) from fun k hk => (HE.out.below BX.out k hk).minus)).mono ?_
          rintro e y2 ⟨R, er, rfl, HEr, HR, hb⟩
          replace BX := hid (BX.out.trans (hb.out.mono BX.out.size))
          clear hb
          try dsimp only
          refine hK.out _ _ (CF.out _ BX.out) (fun hHeld => ?_)
          clear hK K'
          (try simp only [Act.put, List.setIfInBounds_toArray, List.set_cons_zero, List.set_cons_succ, List.getElem_toArray, List.getElem_cons_succ, List.getElem_cons_zero])
          refine wpAnyH_take (i := 4) (v := ?v1) rfl (by kernel_rfl) (by kernel_rfl) (by kernel_rfl) (fun _ _ _ h => h) (Or.inl ⟨by rfl, ?y1⟩) (by assumption) ?r1
          case y1 => (intro w0 hSw; (try dsimp only at hSw); (try simp only [List.getElem_toArray, List.getElem_cons_succ, List.getElem_cons_zero]); go_simp; try with_reducible rfl)
          (try simp only [Act.put, List.setIfInBounds_toArray, List.set_cons_zero, List.set_cons_succ, List.getElem_toArray, List.getElem_cons_succ, List.getElem_cons_zero])
          refine wpAnyH_take (i := 5) (v := ?v2) rfl (by kernel_rfl) (by kernel_rfl) (by kernel_rfl) (fun _ _ _ h => h) (Or.inl ⟨by rfl, ?y2⟩) (by assumption) ?r2
          case y2 => (intro w0 hSw; (try dsimp only at hSw); (try simp only [List.getElem_toArray, List.getElem_cons_succ, List.getElem_cons_zero]); go_simp; try with_reducible rfl)
          (try simp only [Act.put, List.setIfInBounds_toArray, List.set_cons_zero, List.set_cons_succ, List.getElem_toArray, List.getElem_cons_succ, List.getElem_cons_zero])
          refine wpAnyH_take (i := 6) (v := ?v3) rfl (by kernel_rfl) (by kernel_rfl) (by kernel_rfl) (fun _ _ _ h => h) (Or.inl ⟨by rfl, ?y3⟩) (by assumption) ?r3
          case y3 => (intro w0 hSw; (try dsimp only at hSw); (try simp only [List.getElem_toArray, List.getElem_cons_succ, List.getElem_cons_zero]); go_simp; try with_reducible rfl)
          (try simp only [Act.put, List.setIfInBounds_toArray, List.set_cons_zero, List.set_cons_succ, List.getElem_toArray, List.getElem_cons_succ, List.getElem_cons_zero])
          refine wpAnyH_ready (rs := [7]) (by kernel_rfl) (by simp) ?_
          refine AllReadyH.cons rfl (fun K' hK => ?_) AllReadyH.nil
          (try simp only [List.getElem_toArray, List.getElem_cons_succ, List.getElem_cons_zero])
          go_simp
          obtain ⟨Y6, hX⟩ : ∃ X, X = (y2).alloc (.cells #[.bool false, .slice none 0 0, .int .i64 0, .bool false, .slice none 0 0, .int .i64 0, .bool false, .slice none 0 0, .int .i64 0, .bool false, .slice none 0 0, .int .i64 0] 26) := ⟨_, rfl⟩
          rw [← hX]
          have P6 : Hid (Mbox Y6 (y2).heap.size D0) := hid (hX ▸ fresh_mass _)
          have HZ6 := hid (show yE.heap.size ≤ (y2).heap.size from BX.out.size)
          have hb : Hid (Below (y2).heap.size (y2) Y6) := hid (hX ▸ (Below.refl _ _).alloc (Nat.le_refl _) _)
          generalize hk6 : (y2).heap.size = k6 at *
          replace BX := hid (BX.out.trans (hb.out.mono HZ6.out))
          clear hX
          replace HR := hid (HR.out.below (hb.out.mono (by omega)))
          clear hb
          refine hK.out _ _ (CF.out _ BX.out) (fun hHeld => ?_)
          clear hK K'
          (try simp only [Act.put, List.setIfInBounds_toArray, List.set_cons_zero, List.set_cons_succ, List.getElem_toArray, List.getElem_cons_succ, List.getElem_cons_zero])
          refine wpAnyH_ready (rs := [8]) (by kernel_rfl) (by simp) ?_
          refine AllReadyH.cons rfl (fun K' hK => ?_) AllReadyH.nil
          (try simp only [List.getElem_toArray, List.getElem_cons_succ, List.getElem_cons_zero])
          refine ite_go (by kernel_rfl) ?_
          refine wp1_mstore (.tmp 6) (.tmp 22) rfl k6 D0 R rfl rfl P6.out ?_
          have g6 := grown_mstore Y6 k6 R
          have B7 := hid (below_row BX.out g6 BX.out.size HZ6.out)
          have P7 := hid (P6.out.store R)
          have HR7 : Hid (Mrr (mstore Y6 k6 R) (fun _ => True) (resM er (fun k => M k + -(N k))) R) := hid (fun k hk => (HR.out k hk).box P6.out g6)
          refine hK.out _ _ (CF.out _ B7.out) (fun hHeld => ?_)
          clear hK K' g6
          generalize mstore Y6 k6 R = W7 at *
          (try simp only [Act.put])
          refine wpAnyH_take (i := 9) (v := ?v4) rfl (by kernel_rfl) (by kernel_rfl) (by kernel_rfl) (fun _ _ _ h => h) (Or.inl ⟨by rfl, ?y4⟩) (by assumption) ?r4
          case y4 => (intro w0 hSw; (try dsimp only at hSw); (try simp only [List.getElem_toArray, List.getElem_cons_succ, List.getElem_cons_zero]); go_simp; try with_reducible rfl)
          (try simp only [Act.put, List.setIfInBounds_toArray, List.set_cons_zero, List.set_cons_succ, List.getElem_toArray, List.getElem_cons_succ, List.getElem_cons_zero])
          refine wpAnyH_done (by kernel_rfl) ?_ _
          have PRz := hid (PR.out.below B7.out PR.out.lt)
          have gz := grown_mstore W7 (w.heap.size + 1 + 1) R
          have K7 := hid (below_row (K.out.trans (B7.out.mono K.out.size)) gz (Nat.le_trans K.out.size B7.out.size) (by omega))
          have HR8 : Hid (Mrr (mstore W7 (w.heap.size + 1 + 1) R) (fun _ => True) (resM er (fun k => M k + -(N k))) R) := hid (fun k hk => (HR7.out k hk).box PRz.out gz)
          clear gz
          go_wp2_with (first
            | (with_reducible refine wp_mload rfl (.tmp 6) rfl k6 R rfl P7.out ?_)
            | (with_reducible refine wp_mstore rfl (.tmp 4) (.tmp 24) rfl (w.heap.size + 1 + 1) D0 R rfl rfl PRz.out ?_)
            | fail)
          exact ret_mass rfl rfl rfl rfl (PRz.out.store _) ⟨_, er, rfl, HEr.out, HR8.out, K7.out⟩
        · (try simp only [List.getElem_toArray, List.getElem_cons_succ, List.getElem_cons_zero])
          go_simp
          obtain ⟨Y6, hX⟩ : ∃ X, X = (y1).alloc (.cells #[.bool false, .slice none 0 0, .int .i64 0, .bool false, .slice none 0 0, .int .i64 0, .bool false, .slice none 0 0, .int .i64 0, .bool false, .slice none 0 0, .int .i64 0] 26) := ⟨_, rfl⟩
          rw [← hX]
          have P6 : Hid (Mbox Y6 (y1).heap.size D0) := hid (hX ▸ fresh_mass _)
          have HZ6 := hid (show yE.heap.size ≤ (y1).heap.size from BX.out.size)
          have hb : Hid (Below (y1).heap.size (y1) Y6) := hid (hX ▸ (Below.refl _ _).alloc (Nat.le_refl _) _)
          generalize hk6 : (y1).heap.size = k6 at *
          replace BX := hid (BX.out.trans (hb.out.mono HZ6.out))
          clear hX
          clear hb
          refine hK.out _ _ (CF.out _ BX.out) (fun hHeld => ?_)
          clear hK K'
          (try simp only [Act.put, List.setIfInBounds_toArray, List.set_cons_zero, List.set_cons_succ, List.getElem_toArray, List.getElem_cons_succ, List.getElem_cons_zero])
          refine wpAnyH_ready (rs := [3]) (by kernel_rfl) (by simp) ?_
          refine AllReadyH.cons rfl (fun K' hK => ?_) AllReadyH.nil
          (try simp only [List.getElem_toArray, List.getElem_cons_succ, List.getElem_cons_zero])
          go_simp
          refine (emadd_any (HD.out.below BX.out) (show Mrr _ p (fun k => -(N k)) (fun k => minusD (E k)) from fun k hk => (HE.out.below BX.out k hk).minus)).mono ?_
          rintro e y2 ⟨R, er, rfl, HEr, HR, hb⟩
          replace BX := hid (BX.out.trans (hb.out.mono BX.out.size))
          replace P6 := hid (P6.out.below hb.out P6.out.lt)
          clear hb
          try dsimp only
          refine hK.out _ _ (CF.out _ BX.out) (fun hHeld => ?_)
          clear hK K'
          (try simp only [Act.put, List.setIfInBounds_toArray, List.set_cons_zero, List.set_cons_succ, List.getElem_toArray, List.getElem_cons_succ, List.getElem_cons_zero])
          refine wpAnyH_take (i := 4) (v := ?v5) rfl (by kernel_rfl) (by kernel_rfl) (by kernel_rfl) (fun _ _ _ h => h) (Or.inl ⟨by rfl, ?y5⟩) (by assumption) ?r5
          case y5 => (intro w0 hSw; (try dsimp only at hSw); (try simp only [List.getElem_toArray, List.getElem_cons_succ, List.getElem_cons_zero]); go_simp; try with_reducible rfl)
          (try simp only [Act.put, List.setIfInBounds_toArray, List.set_cons_zero, List.set_cons_succ, List.getElem_toArray, List.getElem_cons_succ, List.getElem_cons_zero])
          refine wpAnyH_take (i := 5) (v := ?v6) rfl (by kernel_rfl) (by kernel_rfl) (by kernel_rfl) (fun _ _ _ h => h) (Or.inl ⟨by rfl, ?y6⟩) (by assumption) ?r6
          case y6 => (intro w0 hSw; (try dsimp only at hSw); (try simp only [List.getElem_toArray, List.getElem_cons_succ, List.getElem_cons_zero]); go_simp; try with_reducible rfl)
          (try simp only [Act.put, List.setIfInBounds_toArray, List.set_cons_zero, List.set_cons_succ, List.getElem_toArray, List.getElem_cons_succ, List.getElem_cons_zero])
          refine wpAnyH_take (i := 6) (v := ?v7) rfl (by kernel_rfl) (by kernel_rfl) (by kernel_rfl) (fun _ _ _ h => h) (Or.inl ⟨by rfl, ?y7⟩) (by assumption) ?r7
          case y7 => (intro w0 hSw; (try dsimp only at hSw); (try simp only [List.getElem_toArray, List.getElem_cons_succ, List.getElem_cons_zero]); go_simp; try with_reducible rfl)
          (try simp only [Act.put, List.setIfInBounds_toArray, List.set_cons_zero, List.set_cons_succ, List.getElem_toArray, List.getElem_cons_succ, List.getElem_cons_zero])
          refine wpAnyH_ready (rs := [8]) (by kernel_rfl) (by simp) ?_
          refine AllReadyH.cons rfl (fun K' hK => ?_) AllReadyH.nil
          (try simp only [List.getElem_toArray, List.getElem_cons_succ, List.getElem_cons_zero])
          refine ite_go (by kernel_rfl) ?_
          refine wp1_mstore (.tmp 6) (.tmp 22) rfl k6 D0 R rfl rfl P6.out ?_
          have g6 := grown_mstore y2 k6 R
          have B7 := hid (below_row BX.out g6 BX.out.size HZ6.out)
          have P7 := hid (P6.out.store R)
          have HR7 : Hid (Mrr (mstore y2 k6 R) (fun _ => True) (resM er (fun k => M k + -(N k))) R) := hid (fun k hk => (HR.out k hk).box P6.out g6)
          refine hK.out _ _ (CF.out _ B7.out) (fun hHeld => ?_)
          clear hK K' g6
          generalize mstore y2 k6 R = W7 at *
          (try simp only [Act.put])
          refine wpAnyH_take (i := 9) (v := ?v8) rfl (by kernel_rfl) (by kernel_rfl) (by kernel_rfl) (fun _ _ _ h => h) (Or.inl ⟨by rfl, ?y8⟩) (by assumption) ?r8
          case y8 => (intro w0 hSw; (try dsimp only at hSw); (try simp only [List.getElem_toArray, List.getElem_cons_succ, List.getElem_cons_zero]); go_simp; try with_reducible rfl)
          (try simp only [Act.put, List.setIfInBounds_toArray, List.set_cons_zero, List.set_cons_succ, List.getElem_toArray, List.getElem_cons_succ, List.getElem_cons_zero])
          refine wpAnyH_done (by kernel_rfl) ?_ _
          have PRz := hid (PR.out.below B7.out PR.out.lt)
          have gz := grown_mstore W7 (w.heap.size + 1 + 1) R
          have K7 := hid (below_row (K.out.trans (B7.out.mono K.out.size)) gz (Nat.le_trans K.out.size B7.out.size) (by omega))
          have HR8 : Hid (Mrr (mstore W7 (w.heap.size + 1 + 1) R) (fun _ => True) (resM er (fun k => M k + -(N k))) R) := hid (fun k hk => (HR7.out k hk).box PRz.out gz)
          clear gz
          go_wp2_with (first
            | (with_reducible refine wp_mload rfl (.tmp 6) rfl k6 R rfl P7.out ?_)
            | (with_reducible refine wp_mstore rfl (.tmp 4) (.tmp 24) rfl (w.heap.size + 1 + 1) D0 R rfl rfl PRz.out ?_)
            | fail)
          exact ret_mass rfl rfl rfl rfl (PRz.out.store _) ⟨_, er, rfl, HEr.out, HR8.out, K7.out⟩
      · (try simp only [List.getElem_toArray, List.getElem_cons_succ, List.getElem_cons_zero])
        go_simp
        obtain ⟨Y6, hX⟩ : ∃ X, X = (yD).alloc (.cells #[.bool false, .slice none 0 0, .int .i64 0, .bool false, .slice none 0 0, .int .i64 0, .bool false, .slice none 0 0, .int .i64 0, .bool false, .slice none 0 0, .int .i64 0] 26) := ⟨_, rfl⟩
        rw [← hX]
        have P6 : Hid (Mbox Y6 (yD).heap.size D0) := hid (hX ▸ fresh_mass _)
        have HZ6 := hid (show yE.heap.size ≤ (yD).heap.size from BX.out.size)
        have hb : Hid (Below (yD).heap.size (yD) Y6) := hid (hX ▸ (Below.refl _ _).alloc (Nat.le_refl _) _)
        generalize hk6 : (yD).heap.size = k6 at *
        replace BX := hid (BX.out.trans (hb.out.mono HZ6.out))
        clear hX
        clear hb
        refine hK.out _ _ (CF.out _ BX.out) (fun hHeld => ?_)
        clear hK K'
        (try simp only [Act.put, List.setIfInBounds_toArray, List.set_cons_zero, List.set_cons_succ, List.getElem_toArray, List.getElem_cons_succ, List.getElem_cons_zero])
        refine wpAnyH_ready (rs := [2]) (by kernel_rfl) (by simp) ?_
        refine AllReadyH.cons rfl (fun K' hK => ?_) AllReadyH.nil
        (try simp only [List.getElem_toArray, List.getElem_cons_succ, List.getElem_cons_zero])
        go_simp
        refine (emminus_any (HE.out.below BX.out).mrd).mono ?_
        rintro e y1 ⟨R1, rfl, ⟨rfl⟩, hb⟩
        replace BX := hid (BX.out.trans (hb.out.mono BX.out.size))
        replace P6 := hid (P6.out.below hb.out P6.out.lt)
        clear hb
        try dsimp only
        refine hK.out _ _ (CF.out _ BX.out) (fun hHeld => ?_)
        clear hK K'
        (try simp only [Act.put, List.setIfInBounds_toArray, List.set_cons_zero, List.set_cons_succ, List.getElem_toArray, List.getElem_cons_succ, List.getElem_cons_zero])
        refine wpAnyH_ready (rs := [3]) (by kernel_rfl) (by simp) ?_
        refine AllReadyH.cons rfl (fun K' hK => ?_) AllReadyH.nil
        (try simp only [List.getElem_toArray, List.getElem_cons_succ, List.getElem_cons_zero])
        go_simp
        refine (emadd_any (HD.out.below BX.out) (show Mrr _ p (fun k => -(N k)) (fun k => minusD (E k)) from fun k hk => (HE.out.below BX.out k hk).minus)).mono ?_
        rintro e y2 ⟨R, er, rfl, HEr, HR, hb⟩
        replace BX := hid (BX.out.trans (hb.out.mono BX.out.size))
        replace P6 := hid (P6.out.below hb.out P6.out.lt)
        clear hb
        try dsimp only
        refine hK.out _ _ (CF.out _ BX.out) (fun hHeld => ?_)
        clear hK K'
        (try simp only [Act.put, List.setIfInBounds_toArray, List.set_cons_zero, List.set_cons_succ, List.getElem_toArray, List.getElem_cons_succ, List.getElem_cons_zero])
        refine wpAnyH_take (i := 4) (v := ?v9) rfl (by kernel_rfl) (by kernel_rfl) (by kernel_rfl) (fun _ _ _ h => h) (Or.inl ⟨by rfl, ?y9⟩) (by assumption) ?r9
        case y9 => (intro w0 hSw; (try dsimp only at hSw); (try simp only [List.getElem_toArray, List.getElem_cons_succ, List.getElem_cons_zero]); go_simp; try with_reducible rfl)
        (try simp only [Act.put, List.setIfInBounds_toArray, List.set_cons_zero, List.set_cons_succ, List.getElem_toArray, List.getElem_cons_succ, List.getElem_cons_zero])
        refine wpAnyH_take (i := 5) (v := ?v10) rfl (by kernel_rfl) (by kernel_rfl) (by kernel_rfl) (fun _ _ _ h => h) (Or.inl ⟨by rfl, ?y10⟩) (by assumption) ?r10
        case y10 => (intro w0 hSw; (try dsimp only at hSw); (try simp only [List.getElem_toArray, List.getElem_cons_succ, List.getElem_cons_zero]); go_simp; try with_reducible rfl)
        (try simp only [Act.put, List.setIfInBounds_toArray, List.set_cons_zero, List.set_cons_succ, List.getElem_toArray, List.getElem_cons_succ, List.getElem_cons_zero])
        refine wpAnyH_take (i := 6) (v := ?v11) rfl (by kernel_rfl) (by kernel_rfl) (by kernel_rfl) (fun _ _ _ h => h) (Or.inl ⟨by rfl, ?y11⟩) (by assumption) ?r11
        case y11 => (intro w0 hSw; (try dsimp only at hSw); (try simp only [List.getElem_toArray, List.getElem_cons_succ, List.getElem_cons_zero]); go_simp; try with_reducible rfl)
        (try simp only [Act.put, List.setIfInBounds_toArray, List.set_cons_zero, List.set_cons_succ, List.getElem_toArray, List.getElem_cons_succ, List.getElem_cons_zero])
        refine wpAnyH_ready (rs := [8]) (by kernel_rfl) (by simp) ?_
        refine AllReadyH.cons rfl (fun K' hK => ?_) AllReadyH.nil
        (try simp only [List.getElem_toArray, List.getElem_cons_succ, List.getElem_cons_zero])
        refine ite_go (by kernel_rfl) ?_
        refine wp1_mstore (.tmp 6) (.tmp 22) rfl k6 D0 R rfl rfl P6.out ?_
        have g6 := grown_mstore y2 k6 R
        have B7 := hid (below_row BX.out g6 BX.out.size HZ6.out)
        have P7 := hid (P6.out.store R)
        have HR7 : Hid (Mrr (mstore y2 k6 R) (fun _ => True) (resM er (fun k => M k + -(N k))) R) := hid (fun k hk => (HR.out k hk).box P6.out g6)
        refine hK.out _ _ (CF.out _ B7.out) (fun hHeld => ?_)
        clear hK K' g6
        generalize mstore y2 k6 R = W7 at *
        (try simp only [Act.put])
        refine wpAnyH_take (i := 9) (v := ?v12) rfl (by kernel_rfl) (by kernel_rfl) (by kernel_rfl) (fun _ _ _ h => h) (Or.inl ⟨by rfl, ?y12⟩) (by assumption) ?r12
        case y12 => (intro w0 hSw; (try dsimp only at hSw); (try simp only [List.getElem_toArray, List.getElem_cons_succ, List.getElem_cons_zero]); go_simp; try with_reducible rfl)
        (try simp only [Act.put, List.setIfInBounds_toArray, List.set_cons_zero, List.set_cons_succ, List.getElem_toArray, List.getElem_cons_succ, List.getElem_cons_zero])
        refine wpAnyH_done (by kernel_rfl) ?_ _
        have PRz := hid (PR.out.below B7.out PR.out.lt)
        have gz := grown_mstore W7 (w.heap.size + 1 + 1) R
        have K7 := hid (below_row (K.out.trans (B7.out.mono K.out.size)) gz (Nat.le_trans K.out.size B7.out.size) (by omega))
        have HR8 : Hid (Mrr (mstore W7 (w.heap.size + 1 + 1) R) (fun _ => True) (resM er (fun k => M k + -(N k))) R) := hid (fun k hk => (HR7.out k hk).box PRz.out gz)
        clear gz
        go_wp2_with (first
          | (with_reducible refine wp_mload rfl (.tmp 6) rfl k6 R rfl P7.out ?_)
          | (with_reducible refine wp_mstore rfl (.tmp 4) (.tmp 24) rfl (w.heap.size + 1 + 1) D0 R rfl rfl PRz.out ?_)
          | fail)
        exact ret_mass rfl rfl rfl rfl (PRz.out.store _) ⟨_, er, rfl, HEr.out, HR8.out, K7.out⟩

end Go.Proofs.YtelalanhalbicaaDoor

