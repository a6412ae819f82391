/- The document's masses: words; May, Check, Same, Twin, Minus. -/
/- The document's masses: Twin, Minus. -/
/- Descriptors as pairs (Id, Stamp): which may be, which is fresher, order, and the best ones. No program is named here. -/
/- The best descriptors, told by what is in them. No program is named here. -/
/- Package desc and the document's: of two descriptors. -/
/- Lists of descriptors in memory; slices.IndexFunc and slices.ContainsFunc over them, Same of both sides, Check of both. -/
/- Lists of descriptors of a call's own; slices.Insert into one. -/
/- slices.Insert of one descriptor into a list of the call's own. -/
/- slices.Insert where there is no room, and at the end. -/
/- slices.Insert, in all its ways; a descriptor is laid into a row. -/
/- row.put: a descriptor goes ahead of the first one that it is fresher than. -/
/- row.put. -/
/- each: something is done with each of a list. -/
import Derived.Test.YtbankbehfjogpaaGreatVac
import Derived.Lib.SlBy
import Derived.Lib.SlBy2
import Derived.Test.YtbankbehfjogpaaGreatVaa
import Derived.Test.YtbankbehfjogpaaGreatChecked
import Derived.RegionTactic
import Derived.IntWalk
import Derived.Laws.StructEq
import Derived.BigQuiet
import Derived.Shelf.Abstract
import Derived.Deep.AppendLies
import Derived.Lib.AppendZerosOnto
import Derived.Lib.Overlaps
import Derived.Shelf.RegionOpenPlain
import Derived.Shelf.Spec.SlicesInsert
namespace Go.Proofs.YtbankbehfjogpaaGreat
set_option maxRecDepth 100000
open Go.RowKit Go.Shelf
theorem Mbox.range {w : World} {g : Nat} {D : Nat → Dy} (h : Mbox w g D) {k : Nat} (hk : k < 4) : w.rangeAt g (3 * k) [.bool (D k).s, .slice (D k).A (D k).n (D k).c, .int .i64 (D k).x] := fun j v hv => by
  obtain ⟨h0, h1, h2⟩ := h.cell hk
  match j, hv with
  | 0, hv => injection hv with hv; subst hv; exact h0
  | 1, hv => injection hv with hv; subst hv; exact h1
  | 2, hv => injection hv with hv; subst hv; exact h2
  | j + 3, hv => simp at hv
theorem dyad_size_ (d : Dy) : (Tryz.prog.info? 24).map (·.size) = some [Value.bool d.s, .slice d.A d.n d.c, .int .i64 d.x].length := dyad_size
theorem wp_pl0 {ops : Array Oper} {rest : List Oper} {o : Oper} {a : Act} {w : World} {Q : Exit → Act → World → Prop} (hgd : o.guard = none) (x : Operand) (ho : o.op = .load 24 x)
    (g : Nat) (D : Nat → Dy) (hx : a.eval x = .pointer (some ⟨g, 0, none⟩)) (hg : Mbox w g D) (h : wpList Tryz.prog ops Q rest (a.put o.dst (.agg #[.bool (D 0).s, .slice (D 0).A (D 0).n (D 0).c, .int .i64 (D 0).x])) w) : wpList Tryz.prog ops Q (o :: rest) a w :=
  wpList_load_mid hgd _ x ho g 0 hx _ _ (hg.range (k := 0) (by omega)) Tryz.underlying24 rfl (dyad_size_ (D 0)) h
theorem yields_pl0 {ops : Array Oper} {S : World → Prop} {o : Oper} {a : Act} (hw : Region.wanted o (yielded ops a.tmps) = true) (x : Operand) (ho : o.op = .load 24 x)
    (g : Nat) (D : Nat → Dy) (hx : a.eval x = .pointer (some ⟨g, 0, none⟩)) (hS : ∀ w, S w → Mbox w g D) : YieldsIf Tryz.prog ops S o (.agg #[.bool (D 0).s, .slice (D 0).A (D 0).n (D 0).c, .int .i64 (D 0).x]) a :=
  yieldsIf_load_mid hw _ x ho g 0 hx _ _ (fun w hw => (hS w hw).range (k := 0) (by omega)) Tryz.underlying24 rfl (dyad_size_ (D 0))
theorem wp_pl1 {ops : Array Oper} {rest : List Oper} {o : Oper} {a : Act} {w : World} {Q : Exit → Act → World → Prop} (hgd : o.guard = none) (x : Operand) (ho : o.op = .load 24 x)
    (g : Nat) (D : Nat → Dy) (hx : a.eval x = .pointer (some ⟨g, 3, none⟩)) (hg : Mbox w g D) (h : wpList Tryz.prog ops Q rest (a.put o.dst (.agg #[.bool (D 1).s, .slice (D 1).A (D 1).n (D 1).c, .int .i64 (D 1).x])) w) : wpList Tryz.prog ops Q (o :: rest) a w :=
  wpList_load_mid hgd _ x ho g 3 hx _ _ (hg.range (k := 1) (by omega)) Tryz.underlying24 rfl (dyad_size_ (D 1)) h
theorem wp_pg1 {ops : Array Oper} {rest : List Oper} {o : Oper} {a : Act} {w : World} {Q : Exit → Act → World → Prop} (hw : Region.wanted o (yielded ops a.tmps) = true) (x : Operand) (ho : o.op = .load 24 x)
    (g : Nat) (D : Nat → Dy) (hx : a.eval x = .pointer (some ⟨g, 3, none⟩)) (hg : Mbox w g D) (h : wpList Tryz.prog ops Q rest (a.put o.dst (.agg #[.bool (D 1).s, .slice (D 1).A (D 1).n (D 1).c, .int .i64 (D 1).x])) w) : wpList Tryz.prog ops Q (o :: rest) a w :=
  wpList_step fun _ hK => by
    rw [if_pos hw]
    exact wp_load_mid _ x ho g 3 hx _ _ (hg.range (k := 1) (by omega)) Tryz.underlying24 rfl (dyad_size_ (D 1)) (hK _ _ h)
theorem yields_pl1 {ops : Array Oper} {S : World → Prop} {o : Oper} {a : Act} (hw : Region.wanted o (yielded ops a.tmps) = true) (x : Operand) (ho : o.op = .load 24 x)
    (g : Nat) (D : Nat → Dy) (hx : a.eval x = .pointer (some ⟨g, 3, none⟩)) (hS : ∀ w, S w → Mbox w g D) : YieldsIf Tryz.prog ops S o (.agg #[.bool (D 1).s, .slice (D 1).A (D 1).n (D 1).c, .int .i64 (D 1).x]) a :=
  yieldsIf_load_mid hw _ x ho g 3 hx _ _ (fun w hw => (hS w hw).range (k := 1) (by omega)) Tryz.underlying24 rfl (dyad_size_ (D 1))
theorem wp_pl2 {ops : Array Oper} {rest : List Oper} {o : Oper} {a : Act} {w : World} {Q : Exit → Act → World → Prop} (hgd : o.guard = none) (x : Operand) (ho : o.op = .load 24 x)
    (g : Nat) (D : Nat → Dy) (hx : a.eval x = .pointer (some ⟨g, 6, none⟩)) (hg : Mbox w g D) (h : wpList Tryz.prog ops Q rest (a.put o.dst (.agg #[.bool (D 2).s, .slice (D 2).A (D 2).n (D 2).c, .int .i64 (D 2).x])) w) : wpList Tryz.prog ops Q (o :: rest) a w :=
  wpList_load_mid hgd _ x ho g 6 hx _ _ (hg.range (k := 2) (by omega)) Tryz.underlying24 rfl (dyad_size_ (D 2)) h
theorem wp_pg2 {ops : Array Oper} {rest : List Oper} {o : Oper} {a : Act} {w : World} {Q : Exit → Act → World → Prop} (hw : Region.wanted o (yielded ops a.tmps) = true) (x : Operand) (ho : o.op = .load 24 x)
    (g : Nat) (D : Nat → Dy) (hx : a.eval x = .pointer (some ⟨g, 6, none⟩)) (hg : Mbox w g D) (h : wpList Tryz.prog ops Q rest (a.put o.dst (.agg #[.bool (D 2).s, .slice (D 2).A (D 2).n (D 2).c, .int .i64 (D 2).x])) w) : wpList Tryz.prog ops Q (o :: rest) a w :=
  wpList_step fun _ hK => by
    rw [if_pos hw]
    exact wp_load_mid _ x ho g 6 hx _ _ (hg.range (k := 2) (by omega)) Tryz.underlying24 rfl (dyad_size_ (D 2)) (hK _ _ h)
theorem yields_pl2 {ops : Array Oper} {S : World → Prop} {o : Oper} {a : Act} (hw : Region.wanted o (yielded ops a.tmps) = true) (x : Operand) (ho : o.op = .load 24 x)
    (g : Nat) (D : Nat → Dy) (hx : a.eval x = .pointer (some ⟨g, 6, none⟩)) (hS : ∀ w, S w → Mbox w g D) : YieldsIf Tryz.prog ops S o (.agg #[.bool (D 2).s, .slice (D 2).A (D 2).n (D 2).c, .int .i64 (D 2).x]) a :=
  yieldsIf_load_mid hw _ x ho g 6 hx _ _ (fun w hw => (hS w hw).range (k := 2) (by omega)) Tryz.underlying24 rfl (dyad_size_ (D 2))
theorem wp_pl3 {ops : Array Oper} {rest : List Oper} {o : Oper} {a : Act} {w : World} {Q : Exit → Act → World → Prop} (hgd : o.guard = none) (x : Operand) (ho : o.op = .load 24 x)
    (g : Nat) (D : Nat → Dy) (hx : a.eval x = .pointer (some ⟨g, 9, none⟩)) (hg : Mbox w g D) (h : wpList Tryz.prog ops Q rest (a.put o.dst (.agg #[.bool (D 3).s, .slice (D 3).A (D 3).n (D 3).c, .int .i64 (D 3).x])) w) : wpList Tryz.prog ops Q (o :: rest) a w :=
  wpList_load_mid hgd _ x ho g 9 hx _ _ (hg.range (k := 3) (by omega)) Tryz.underlying24 rfl (dyad_size_ (D 3)) h
theorem wp_pg3 {ops : Array Oper} {rest : List Oper} {o : Oper} {a : Act} {w : World} {Q : Exit → Act → World → Prop} (hw : Region.wanted o (yielded ops a.tmps) = true) (x : Operand) (ho : o.op = .load 24 x)
    (g : Nat) (D : Nat → Dy) (hx : a.eval x = .pointer (some ⟨g, 9, none⟩)) (hg : Mbox w g D) (h : wpList Tryz.prog ops Q rest (a.put o.dst (.agg #[.bool (D 3).s, .slice (D 3).A (D 3).n (D 3).c, .int .i64 (D 3).x])) w) : wpList Tryz.prog ops Q (o :: rest) a w :=
  wpList_step fun _ hK => by
    rw [if_pos hw]
    exact wp_load_mid _ x ho g 9 hx _ _ (hg.range (k := 3) (by omega)) Tryz.underlying24 rfl (dyad_size_ (D 3)) (hK _ _ h)
theorem yields_pl3 {ops : Array Oper} {S : World → Prop} {o : Oper} {a : Act} (hw : Region.wanted o (yielded ops a.tmps) = true) (x : Operand) (ho : o.op = .load 24 x)
    (g : Nat) (D : Nat → Dy) (hx : a.eval x = .pointer (some ⟨g, 9, none⟩)) (hS : ∀ w, S w → Mbox w g D) : YieldsIf Tryz.prog ops S o (.agg #[.bool (D 3).s, .slice (D 3).A (D 3).n (D 3).c, .int .i64 (D 3).x]) a :=
  yieldsIf_load_mid hw _ x ho g 9 hx _ _ (fun w hw => (hS w hw).range (k := 3) (by omega)) Tryz.underlying24 rfl (dyad_size_ (D 3))
theorem wp1_mstore_ {o : Oper} {a : Act} {w : World} {K : Act → World → Prop} {Q : Exit → Act → World → Prop} (x y : Operand) (ho : o.op = .store 26 x y)
    (g : Nat) (D E : Nat → Dy) (cs : Array Value) (hx : a.eval x = .pointer (some ⟨g, 0, none⟩)) (hy : a.eval y = .agg cs) (he : cs = mcells E) (hg : Mbox w g D) (h : K (a.put o.dst undef) (mstore w g E)) : o.wp Tryz.prog a w K Q :=
  wp1_mstore x y ho g D E hx (he ▸ hy) hg h
structure Drd (w : World) (q : Prop) (M : Int) (d : Dy) : Prop where
  rd : Rd w w.heap.size d.A d.n d.c d.f
  may : q ↔ DMay d.s d.n d.f d.x
  val : q → ∃ X : Nat, d.x = (X : Int) ∧ M = dv d.s (vl d.f d.n) X
def Mrr (w : World) (q : Nat → Prop) (M : Nat → Int) (D : Nat → Dy) : Prop := ∀ k, k < 4 → Drd w (q k) (M k) (D k)
def EMRes (w : World) (E : Int → Prop) (M : Nat → Int) (e : Ending) (w' : World) : Prop := ∃ D er, e = .returned (.tuple #[.agg (mcells D), .int .i64 er]) ∧ Hid (E er) ∧ Hid (Mrr w' (fun _ => True) (resM er M) D) ∧ Hid (Below w.heap.size w w')
set_option maxHeartbeats 1600000 in
theorem emmay_any {w : World} {D : Nat → Dy} (h : Mrd w w.heap.size D) :
    Calls Tryz.prog 56 #[.agg (mcells D)] w fun e w' => ∃ r : Bool, e = .returned (.bool r) ∧ Hid (r = true ↔ MMay D) ∧ Hid (Below w.heap.size w w') := by
  obtain ⟨W, hW⟩ : ∃ W, W = w.alloc (.cells (mcells D) 26) := ⟨_, rfl⟩
  have HW := hid hW
  have K := hid (show Below w.heap.size w W from hW ▸ (Below.refl _ w).alloc (Nat.le_refl _) _)
  have P := hid (show Mbox W w.heap.size D from hW ▸ heap_alloc_new w _)
  have HR := hid h
  clear hW h
  by_cases h0 : DMay (D 0).s (D 0).n (D 0).f (D 0).x
  · replace h0 := hid h0
    by_cases h1 : DMay (D 1).s (D 1).n (D 1).f (D 1).x
    · replace h1 := hid h1
      by_cases h2 : DMay (D 2).s (D 2).n (D 2).f (D 2).x
      · replace h2 := hid h2
        by_cases h3 : DMay (D 3).s (D 3).n (D 3).f (D 3).x
        · replace h3 := hid h3
          go_enter Tryz.func56, Tryz.ntmps56
          go_upto_region 1 with fail
          rw [← HW.out]
          have CM := hid (emay_any (((HR.out 0 (by omega)).below K.out).mono K.out.size) (D 0).s (D 0).x)
          go_wp2_with (first
            | (with_reducible refine wp_pl0 rfl (.tmp 3) rfl w.heap.size D rfl P.out ?_)
            | fail)
          refine CM.out.mono ?_
          rintro e w0 ⟨rfl, hb⟩
          rw [bool_of_dec h0.out]
          clear CM
          replace K := hid (K.out.trans (hb.out.mono K.out.size))
          replace P := hid (P.out.below hb.out P.out.lt)
          clear hb
          have CM := hid (emay_any (((HR.out 1 (by omega)).below K.out).mono K.out.size) (D 1).s (D 1).x)
          go_wp2_with (first
            | (with_reducible refine wp_pg1 (by kernel_rfl) (.tmp 7) rfl w.heap.size D rfl P.out ?_)
            | fail)
          refine CM.out.mono ?_
          rintro e w1 ⟨rfl, hb⟩
          rw [bool_of_dec h1.out]
          clear CM
          replace K := hid (K.out.trans (hb.out.mono K.out.size))
          replace P := hid (P.out.below hb.out P.out.lt)
          clear hb
          have CM := hid (emay_any (((HR.out 2 (by omega)).below K.out).mono K.out.size) (D 2).s (D 2).x)
          go_wp2_with (first
            | (with_reducible refine wp_pg2 (by kernel_rfl) (.tmp 12) rfl w.heap.size D rfl P.out ?_)
            | fail)
          refine CM.out.mono ?_
          rintro e w2 ⟨rfl, hb⟩
          rw [bool_of_dec h2.out]
          clear CM
          replace K := hid (K.out.trans (hb.out.mono K.out.size))
          replace P := hid (P.out.below hb.out P.out.lt)
          clear hb
          have CM := hid (emay_any (((HR.out 3 (by omega)).below K.out).mono K.out.size) (D 3).s (D 3).x)
          go_wp2_with (first
            | (with_reducible refine wp_pg3 (by kernel_rfl) (.tmp 17) rfl w.heap.size D rfl P.out ?_)
            | fail)
          refine CM.out.mono ?_
          rintro e w3 ⟨rfl, hb⟩
          rw [bool_of_dec h3.out]
          clear CM
          replace K := hid (K.out.trans (hb.out.mono K.out.size))
          replace P := hid (P.out.below hb.out P.out.lt)
          clear hb
          go_wp2
          go_ret
          exact ⟨true, rfl, ⟨fun _ => all_of4 (P := fun k => DMay (D k).s (D k).n (D k).f (D k).x) h0.out h1.out h2.out h3.out, fun _ => rfl⟩, K.out⟩
        · replace h3 := hid h3
          go_enter Tryz.func56, Tryz.ntmps56
          go_upto_region 1 with fail
          rw [← HW.out]
          have CM := hid (emay_any (((HR.out 0 (by omega)).below K.out).mono K.out.size) (D 0).s (D 0).x)
          go_wp2_with (first
            | (with_reducible refine wp_pl0 rfl (.tmp 3) rfl w.heap.size D rfl P.out ?_)
            | fail)
          refine CM.out.mono ?_
          rintro e w0 ⟨rfl, hb⟩
          rw [bool_of_dec h0.out]
          clear CM
          replace K := hid (K.out.trans (hb.out.mono K.out.size))
          replace P := hid (P.out.below hb.out P.out.lt)
          clear hb
          have CM := hid (emay_any (((HR.out 1 (by omega)).below K.out).mono K.out.size) (D 1).s (D 1).x)
          go_wp2_with (first
            | (with_reducible refine wp_pg1 (by kernel_rfl) (.tmp 7) rfl w.heap.size D rfl P.out ?_)
            | fail)
          refine CM.out.mono ?_
          rintro e w1 ⟨rfl, hb⟩
          rw [bool_of_dec h1.out]
          clear CM
          replace K := hid (K.out.trans (hb.out.mono K.out.size))
          replace P := hid (P.out.below hb.out P.out.lt)
          clear hb
          have CM := hid (emay_any (((HR.out 2 (by omega)).below K.out).mono K.out.size) (D 2).s (D 2).x)
          go_wp2_with (first
            | (with_reducible refine wp_pg2 (by kernel_rfl) (.tmp 12) rfl w.heap.size D rfl P.out ?_)
            | fail)
          refine CM.out.mono ?_
          rintro e w2 ⟨rfl, hb⟩
          rw [bool_of_dec h2.out]
          clear CM
          replace K := hid (K.out.trans (hb.out.mono K.out.size))
          replace P := hid (P.out.below hb.out P.out.lt)
          clear hb
          have CM := hid (emay_any (((HR.out 3 (by omega)).below K.out).mono K.out.size) (D 3).s (D 3).x)
          go_wp2_with (first
            | (with_reducible refine wp_pg3 (by kernel_rfl) (.tmp 17) rfl w.heap.size D rfl P.out ?_)
            | fail)
          refine CM.out.mono ?_
          rintro e w3 ⟨rfl, hb⟩
          rw [bool_of_not h3.out]
          clear CM
          replace K := hid (K.out.trans (hb.out.mono K.out.size))
          replace P := hid (P.out.below hb.out P.out.lt)
          clear hb
          go_wp2
          go_ret
          exact ⟨false, rfl, ⟨(fun h => by cases h), fun hm => absurd (hm 3 (by omega)) h3.out⟩, K.out⟩
      · replace h2 := hid h2
        go_enter Tryz.func56, Tryz.ntmps56
        go_upto_region 1 with fail
        rw [← HW.out]
        have CM := hid (emay_any (((HR.out 0 (by omega)).below K.out).mono K.out.size) (D 0).s (D 0).x)
        go_wp2_with (first
          | (with_reducible refine wp_pl0 rfl (.tmp 3) rfl w.heap.size D rfl P.out ?_)
          | fail)
        refine CM.out.mono ?_
        rintro e w0 ⟨rfl, hb⟩
        rw [bool_of_dec h0.out]
        clear CM
        replace K := hid (K.out.trans (hb.out.mono K.out.size))
        replace P := hid (P.out.below hb.out P.out.lt)
        clear hb
        have CM := hid (emay_any (((HR.out 1 (by omega)).below K.out).mono K.out.size) (D 1).s (D 1).x)
        go_wp2_with (first
          | (with_reducible refine wp_pg1 (by kernel_rfl) (.tmp 7) rfl w.heap.size D rfl P.out ?_)
          | fail)
        refine CM.out.mono ?_
        rintro e w1 ⟨rfl, hb⟩
        rw [bool_of_dec h1.out]
        clear CM
        replace K := hid (K.out.trans (hb.out.mono K.out.size))
        replace P := hid (P.out.below hb.out P.out.lt)
        clear hb
        have CM := hid (emay_any (((HR.out 2 (by omega)).below K.out).mono K.out.size) (D 2).s (D 2).x)
        go_wp2_with (first
          | (with_reducible refine wp_pg2 (by kernel_rfl) (.tmp 12) rfl w.heap.size D rfl P.out ?_)
          | fail)
        refine CM.out.mono ?_
        rintro e w2 ⟨rfl, hb⟩
        rw [bool_of_not h2.out]
        clear CM
        replace K := hid (K.out.trans (hb.out.mono K.out.size))
        replace P := hid (P.out.below hb.out P.out.lt)
        clear hb
        go_wp2
        go_ret
        exact ⟨false, rfl, ⟨(fun h => by cases h), fun hm => absurd (hm 2 (by omega)) h2.out⟩, K.out⟩
    · replace h1 := hid h1
      go_enter Tryz.func56, Tryz.ntmps56
      go_upto_region 1 with fail
      rw [← HW.out]
      have CM := hid (emay_any (((HR.out 0 (by omega)).below K.out).mono K.out.size) (D 0).s (D 0).x)
      go_wp2_with (first
        | (with_reducible refine wp_pl0 rfl (.tmp 3) rfl w.heap.size D rfl P.out ?_)
        | fail)
      refine CM.out.mono ?_
      rintro e w0 ⟨rfl, hb⟩
      rw [bool_of_dec h0.out]
      clear CM
      replace K := hid (K.out.trans (hb.out.mono K.out.size))
      replace P := hid (P.out.below hb.out P.out.lt)
      clear hb
      have CM := hid (emay_any (((HR.out 1 (by omega)).below K.out).mono K.out.size) (D 1).s (D 1).x)
      go_wp2_with (first
        | (with_reducible refine wp_pg1 (by kernel_rfl) (.tmp 7) rfl w.heap.size D rfl P.out ?_)
        | fail)
      refine CM.out.mono ?_
      rintro e w1 ⟨rfl, hb⟩
      rw [bool_of_not h1.out]
      clear CM
      replace K := hid (K.out.trans (hb.out.mono K.out.size))
      replace P := hid (P.out.below hb.out P.out.lt)
      clear hb
      go_wp2
      go_ret
      exact ⟨false, rfl, ⟨(fun h => by cases h), fun hm => absurd (hm 1 (by omega)) h1.out⟩, K.out⟩
  · replace h0 := hid h0
    go_enter Tryz.func56, Tryz.ntmps56
    go_upto_region 1 with fail
    rw [← HW.out]
    have CM := hid (emay_any (((HR.out 0 (by omega)).below K.out).mono K.out.size) (D 0).s (D 0).x)
    go_wp2_with (first
      | (with_reducible refine wp_pl0 rfl (.tmp 3) rfl w.heap.size D rfl P.out ?_)
      | fail)
    refine CM.out.mono ?_
    rintro e w0 ⟨rfl, hb⟩
    rw [bool_of_not h0.out]
    clear CM
    replace K := hid (K.out.trans (hb.out.mono K.out.size))
    replace P := hid (P.out.below hb.out P.out.lt)
    clear hb
    go_wp2
    go_ret
    exact ⟨false, rfl, ⟨(fun h => by cases h), fun hm => absurd (hm 0 (by omega)) h0.out⟩, K.out⟩
set_option maxHeartbeats 3200000 in
theorem emsame_raw {w : World} {D E : Nat → Dy} {P : Prop} (h : Mrd w w.heap.size D) (h2 : Mrd w w.heap.size E) (HP : Hid (P ↔ ∀ k, k < 4 → Dsm (D k) (E k))) :
    Calls Tryz.prog 38 #[.agg (mcells D), .agg (mcells E)] w (Says w P) := by
  obtain ⟨W, hW⟩ : ∃ W, W = (w.alloc (.cells (mcells D) 26)).alloc (.cells (mcells E) 26) := ⟨_, rfl⟩
  have HW := hid hW
  have K := hid (show Below w.heap.size w W from hW ▸ ((Below.refl _ w).alloc (Nat.le_refl _) _).alloc (by simp) _)
  have PD : Hid (Mbox W w.heap.size D) := hid (hW ▸ (show Mbox (w.alloc _) w.heap.size D from new_at rfl).alloc _)
  have PE : Hid (Mbox W (w.heap.size + 1) E) := hid (hW ▸ (show Mbox ((w.alloc _).alloc _) (w.heap.size + 1) E from new_at (by simp)))
  have HR := hid h
  have HR2 := hid h2
  clear hW h h2
  go_enter Tryz.func38, Tryz.ntmps38
  go_upto_region 1 with fail
  rw [← HW.out]
  have CS := hid (esame_raw (s := (D 0).s) (t := (E 0).s) (x := (D 0).x) (y := (E 0).x) (P := Dsm (D 0) (E 0)) (((HR.out 0 (by omega)).below K.out).mono K.out.size) (((HR2.out 0 (by omega)).below K.out).mono K.out.size) (hid Iff.rfl))
  go_wp2_with (first
    | (with_reducible refine wp_pl0 rfl (.tmp 5) rfl w.heap.size D rfl PD.out ?_)
    | (with_reducible refine wp_pl0 rfl (.tmp 7) rfl (w.heap.size + 1) E rfl PE.out ?_)
    | fail)
  refine CS.out.mono ?_
  rintro e w0 ⟨r, rfl, Hr, hb⟩
  replace K := hid (K.out.trans (hb.out.mono K.out.size))
  replace PD := hid (PD.out.below hb.out PD.out.lt)
  replace PE := hid (PE.out.below hb.out PE.out.lt)
  clear hb CS
  cases r with
  | false =>
    have Hn := hid (show ¬ P from fun hp => by have := Hr.out.2 (HP.out.1 hp 0 (by omega)); cases this)
    clear Hr
    go_wp2
    go_ret
    exact ⟨false, rfl, ⟨(fun h => by cases h), fun hp => absurd hp Hn.out⟩, K.out⟩
  | true =>
    have H0 := hid (Hr.out.1 (by trivial))
    clear Hr
    have CS := hid (esame_raw (s := (D 1).s) (t := (E 1).s) (x := (D 1).x) (y := (E 1).x) (P := Dsm (D 1) (E 1)) (((HR.out 1 (by omega)).below K.out).mono K.out.size) (((HR2.out 1 (by omega)).below K.out).mono K.out.size) (hid Iff.rfl))
    go_wp2_with (first
      | (with_reducible refine wp_pg1 (by kernel_rfl) (.tmp 11) rfl w.heap.size D rfl PD.out ?_)
      | (with_reducible refine wp_pg1 (by kernel_rfl) (.tmp 13) rfl (w.heap.size + 1) E rfl PE.out ?_)
      | fail)
    refine CS.out.mono ?_
    rintro e w1 ⟨r, rfl, Hr, hb⟩
    replace K := hid (K.out.trans (hb.out.mono K.out.size))
    replace PD := hid (PD.out.below hb.out PD.out.lt)
    replace PE := hid (PE.out.below hb.out PE.out.lt)
    clear hb CS
    cases r with
    | false =>
      have Hn := hid (show ¬ P from fun hp => by have := Hr.out.2 (HP.out.1 hp 1 (by omega)); cases this)
      clear Hr
      go_wp2
      go_ret
      exact ⟨false, rfl, ⟨(fun h => by cases h), fun hp => absurd hp Hn.out⟩, K.out⟩
    | true =>
      have H1 := hid (Hr.out.1 (by trivial))
      clear Hr
      have CS := hid (esame_raw (s := (D 2).s) (t := (E 2).s) (x := (D 2).x) (y := (E 2).x) (P := Dsm (D 2) (E 2)) (((HR.out 2 (by omega)).below K.out).mono K.out.size) (((HR2.out 2 (by omega)).below K.out).mono K.out.size) (hid Iff.rfl))
      go_wp2_with (first
        | (with_reducible refine wp_pg2 (by kernel_rfl) (.tmp 18) rfl w.heap.size D rfl PD.out ?_)
        | (with_reducible refine wp_pg2 (by kernel_rfl) (.tmp 20) rfl (w.heap.size + 1) E rfl PE.out ?_)
        | fail)
      refine CS.out.mono ?_
      rintro e w2 ⟨r, rfl, Hr, hb⟩
      replace K := hid (K.out.trans (hb.out.mono K.out.size))
      replace PD := hid (PD.out.below hb.out PD.out.lt)
      replace PE := hid (PE.out.below hb.out PE.out.lt)
      clear hb CS
      cases r with
      | false =>
        have Hn := hid (show ¬ P from fun hp => by have := Hr.out.2 (HP.out.1 hp 2 (by omega)); cases this)
        clear Hr
        go_wp2
        go_ret
        exact ⟨false, rfl, ⟨(fun h => by cases h), fun hp => absurd hp Hn.out⟩, K.out⟩
      | true =>
        have H2 := hid (Hr.out.1 (by trivial))
        clear Hr
        have CS := hid (esame_raw (s := (D 3).s) (t := (E 3).s) (x := (D 3).x) (y := (E 3).x) (P := Dsm (D 3) (E 3)) (((HR.out 3 (by omega)).below K.out).mono K.out.size) (((HR2.out 3 (by omega)).below K.out).mono K.out.size) (hid Iff.rfl))
        go_wp2_with (first
          | (with_reducible refine wp_pg3 (by kernel_rfl) (.tmp 25) rfl w.heap.size D rfl PD.out ?_)
          | (with_reducible refine wp_pg3 (by kernel_rfl) (.tmp 27) rfl (w.heap.size + 1) E rfl PE.out ?_)
          | fail)
        refine CS.out.mono ?_
        rintro e w3 ⟨r, rfl, Hr, hb⟩
        replace K := hid (K.out.trans (hb.out.mono K.out.size))
        replace PD := hid (PD.out.below hb.out PD.out.lt)
        replace PE := hid (PE.out.below hb.out PE.out.lt)
        clear hb CS
        cases r with
        | false =>
          have Hn := hid (show ¬ P from fun hp => by have := Hr.out.2 (HP.out.1 hp 3 (by omega)); cases this)
          clear Hr
          go_wp2
          go_ret
          exact ⟨false, rfl, ⟨(fun h => by cases h), fun hp => absurd hp Hn.out⟩, K.out⟩
        | true =>
          have H3 := hid (Hr.out.1 (by trivial))
          clear Hr
          go_wp2
          go_ret
          exact ⟨true, rfl, ⟨fun _ => HP.out.2 (all_of4 (P := fun k => Dsm (D k) (E k)) H0.out H1.out H2.out H3.out), fun _ => rfl⟩, K.out⟩
open Go.RowKit Go.Shelf
def mneg (d : Dy) : Bool := if d.n = 0 then d.s else !d.s
def minusD (d : Dy) : Dy := ⟨mneg d, d.A, d.n, d.c, d.x, d.f⟩
set_option maxRecDepth 100000 in
set_option maxHeartbeats 3200000 in
theorem emtwin_any {w : World} {D : Nat → Dy} (h : Mrd w w.heap.size D) (hnil : ∀ k, k < 4 → (D k).A = none → (D k).n = 0 ∧ (D k).c = 0) (hn : ∀ k, k < 4 → (D k).n ≤ 42) :
    Calls Tryz.prog 17 #[.agg (mcells D)] w fun e w' => ∃ R, e = .returned (.agg (mcells R)) ∧ Hid (∀ k, k < 4 → Twd w.heap.size w' (D k) (R k)) ∧ Hid (Below w.heap.size w w') := by
  obtain ⟨W, hW⟩ : ∃ W, W = (w.alloc (.cells (mcells D) 26)).alloc (.cells #[.bool false, .slice none 0 0, .int .i64 0, .bool false, .slice none 0 0, .int .i64 0, .bool false, .slice none 0 0, .int .i64 0, .bool false, .slice none 0 0, .int .i64 0] 26) := ⟨_, rfl⟩
  have HW := hid hW
  have K := hid (show Below w.heap.size w W from hW ▸ ((Below.refl _ w).alloc (Nat.le_refl _) _).alloc (by simp) _)
  have PD : Hid (Mbox W w.heap.size D) := hid (hW ▸ (show Mbox (w.alloc _) w.heap.size D from new_at rfl).alloc _)
  have PR : Hid (Mbox W (w.heap.size + 1) D0) := hid (hW ▸ (show Mbox ((w.alloc _).alloc _) (w.heap.size + 1) D0 from new_at (by simp)))
  have Hsz := hid (show w.heap.size + 2 = W.heap.size by rw [hW]; simp)
  have HR := hid h
  have HN := hid hnil
  have Hn := hid hn
  clear hnil hn
  clear hW h
  go_enter Tryz.func17, Tryz.ntmps17
  go_upto_region 1 with fail
  rw [← HW.out]
  have CF : Hid (∀ X, Below W.heap.size W X → Mbox X w.heap.size D) := hid fun X hb => PD.out.below hb PD.out.lt
  have BX : Hid (Below W.heap.size W W.drew) := hid (Below.refl W.heap.size W).drew
  refine wp_region_held_drew (S := fun X => Mbox X w.heap.size D) (by kernel_rfl) (CF.out _ BX.out) (fun hHeld => ?_)
  refine wpAnyH_take (i := 0) (v := ?v1) rfl (by kernel_rfl) (by kernel_rfl) (by kernel_rfl) (fun _ _ _ h => h) (Or.inl ⟨by rfl, ?y1⟩) (by assumption) ?r1
  case y1 => (intro w0 hSw; (try dsimp only at hSw); (try simp only [List.getElem_toArray, List.getElem_cons_zero]); go_simp; try with_reducible rfl)
  (try simp only [Act.put, List.setIfInBounds_toArray, List.set_cons_zero, List.set_cons_succ, List.getElem_toArray, List.getElem_cons_zero])
  refine wpAnyH_take (i := 1) rfl (by kernel_rfl) (by kernel_rfl) (by kernel_rfl) (fun _ _ _ h => h) (yields_pl0 (by rfl) (.tmp 3) rfl w.heap.size D rfl (fun X hX => hX)) hHeld ?_
  (try simp only [Act.put, List.setIfInBounds_toArray, List.set_cons_zero, List.set_cons_succ, List.getElem_toArray, List.getElem_cons_succ, List.getElem_cons_zero])
  refine wpAnyH_take (i := 3) (v := ?v2) rfl (by kernel_rfl) (by kernel_rfl) (by kernel_rfl) (fun _ _ _ h => h) (Or.inl ⟨by rfl, ?y2⟩) (by assumption) ?r2
  case y2 => (intro w0 hSw; (try dsimp only at hSw); (try simp only [List.getElem_toArray, List.getElem_cons_succ, List.getElem_cons_zero]); go_simp; try with_reducible rfl)
  (try simp only [Act.put, List.setIfInBounds_toArray, List.set_cons_zero, List.set_cons_succ, List.getElem_toArray, List.getElem_cons_succ, List.getElem_cons_zero])
  refine wpAnyH_take (i := 4) rfl (by kernel_rfl) (by kernel_rfl) (by kernel_rfl) (fun _ _ _ h => h) (yields_pl1 (by rfl) (.tmp 6) rfl w.heap.size D rfl (fun X hX => hX)) hHeld ?_
  (try simp only [Act.put, List.setIfInBounds_toArray, List.set_cons_zero, List.set_cons_succ, List.getElem_toArray, List.getElem_cons_succ, List.getElem_cons_zero])
  refine wpAnyH_take (i := 6) (v := ?v3) rfl (by kernel_rfl) (by kernel_rfl) (by kernel_rfl) (fun _ _ _ h => h) (Or.inl ⟨by rfl, ?y3⟩) (by assumption) ?r3
  case y3 => (intro w0 hSw; (try dsimp only at hSw); (try simp only [List.getElem_toArray, List.getElem_cons_succ, List.getElem_cons_zero]); go_simp; try with_reducible rfl)
  (try simp only [Act.put, List.setIfInBounds_toArray, List.set_cons_zero, List.set_cons_succ, List.getElem_toArray, List.getElem_cons_succ, List.getElem_cons_zero])
  refine wpAnyH_take (i := 7) rfl (by kernel_rfl) (by kernel_rfl) (by kernel_rfl) (fun _ _ _ h => h) (yields_pl2 (by rfl) (.tmp 9) rfl w.heap.size D rfl (fun X hX => hX)) hHeld ?_
  (try simp only [Act.put, List.setIfInBounds_toArray, List.set_cons_zero, List.set_cons_succ, List.getElem_toArray, List.getElem_cons_succ, List.getElem_cons_zero])
  refine wpAnyH_take (i := 9) (v := ?v4) rfl (by kernel_rfl) (by kernel_rfl) (by kernel_rfl) (fun _ _ _ h => h) (Or.inl ⟨by rfl, ?y4⟩) (by assumption) ?r4
  case y4 => (intro w0 hSw; (try dsimp only at hSw); (try simp only [List.getElem_toArray, List.getElem_cons_succ, List.getElem_cons_zero]); go_simp; try with_reducible rfl)
  (try simp only [Act.put, List.setIfInBounds_toArray, List.set_cons_zero, List.set_cons_succ, List.getElem_toArray, List.getElem_cons_succ, List.getElem_cons_zero])
  refine wpAnyH_take (i := 10) rfl (by kernel_rfl) (by kernel_rfl) (by kernel_rfl) (fun _ _ _ h => h) (yields_pl3 (by rfl) (.tmp 12) rfl w.heap.size D rfl (fun X hX => hX)) hHeld ?_
  (try simp only [Act.put, List.setIfInBounds_toArray, List.set_cons_zero, List.set_cons_succ, List.getElem_toArray, List.getElem_cons_succ, List.getElem_cons_zero])
  refine wpAnyH_ready (rs := [2]) (by kernel_rfl) (by simp) ?_
  refine AllReadyH.cons rfl (fun K' hK => ?_) AllReadyH.nil
  (try simp only [Act.put, List.setIfInBounds_toArray, List.set_cons_zero, List.set_cons_succ, List.getElem_toArray, List.getElem_cons_succ, List.getElem_cons_zero])
  go_simp
  refine (etwin_any (((HR.out 0 (by omega)).below (K.out.trans (BX.out.mono K.out.size))).mono (Nat.le_trans K.out.size BX.out.size)) (HN.out 0 (by omega)) (Hn.out 0 (by omega)) (D 0).s (D 0).x).mono ?_
  rintro e y0 ⟨A0, c0, rfl, hmk, hb⟩
  replace BX := hid (BX.out.trans (hb.out.mono BX.out.size))
  have T0 : Hid (Twd W.heap.size y0 (D 0) ⟨(D 0).s, A0, (D 0).n, c0, (D 0).x, (D 0).f⟩) := hid ⟨hmk.out.mono (Nat.le_refl _), rfl, rfl, rfl, rfl⟩
  have S0 := hid (show W.heap.size ≤ y0.heap.size from BX.out.size)
  clear hmk
  try dsimp only
  refine hK.out _ _ (CF.out _ BX.out) (fun hHeld => ?_)
  clear hK K' hb
  (try simp only [Act.put, List.setIfInBounds_toArray, List.set_cons_zero, List.set_cons_succ, List.getElem_toArray, List.getElem_cons_succ, List.getElem_cons_zero])
  refine wpAnyH_ready (rs := [5]) (by kernel_rfl) (by simp) ?_
  refine AllReadyH.cons rfl (fun K' hK => ?_) AllReadyH.nil
  (try simp only [Act.put, List.setIfInBounds_toArray, List.set_cons_zero, List.set_cons_succ, List.getElem_toArray, List.getElem_cons_succ, List.getElem_cons_zero])
  go_simp
  refine (etwin_any (((HR.out 1 (by omega)).below (K.out.trans (BX.out.mono K.out.size))).mono (Nat.le_trans K.out.size BX.out.size)) (HN.out 1 (by omega)) (Hn.out 1 (by omega)) (D 1).s (D 1).x).mono ?_
  rintro e y1 ⟨A1, c1, rfl, hmk, hb⟩
  replace BX := hid (BX.out.trans (hb.out.mono BX.out.size))
  replace T0 := hid (T0.out.below hb.out)
  have T1 : Hid (Twd W.heap.size y1 (D 1) ⟨(D 1).s, A1, (D 1).n, c1, (D 1).x, (D 1).f⟩) := hid ⟨hmk.out.mono S0.out, rfl, rfl, rfl, rfl⟩
  have S1 := hid (show W.heap.size ≤ y1.heap.size from BX.out.size)
  clear hmk
  try dsimp only
  refine hK.out _ _ (CF.out _ BX.out) (fun hHeld => ?_)
  clear hK K' hb
  (try simp only [Act.put, List.setIfInBounds_toArray, List.set_cons_zero, List.set_cons_succ, List.getElem_toArray, List.getElem_cons_succ, List.getElem_cons_zero])
  refine wpAnyH_ready (rs := [8]) (by kernel_rfl) (by simp) ?_
  refine AllReadyH.cons rfl (fun K' hK => ?_) AllReadyH.nil
  (try simp only [Act.put, List.setIfInBounds_toArray, List.set_cons_zero, List.set_cons_succ, List.getElem_toArray, List.getElem_cons_succ, List.getElem_cons_zero])
  go_simp
  refine (etwin_any (((HR.out 2 (by omega)).below (K.out.trans (BX.out.mono K.out.size))).mono (Nat.le_trans K.out.size BX.out.size)) (HN.out 2 (by omega)) (Hn.out 2 (by omega)) (D 2).s (D 2).x).mono ?_
  rintro e y2 ⟨A2, c2, rfl, hmk, hb⟩
  replace BX := hid (BX.out.trans (hb.out.mono BX.out.size))
  replace T0 := hid (T0.out.below hb.out)
  replace T1 := hid (T1.out.below hb.out)
  have T2 : Hid (Twd W.heap.size y2 (D 2) ⟨(D 2).s, A2, (D 2).n, c2, (D 2).x, (D 2).f⟩) := hid ⟨hmk.out.mono S1.out, rfl, rfl, rfl, rfl⟩
  have S2 := hid (show W.heap.size ≤ y2.heap.size from BX.out.size)
  clear hmk
  try dsimp only
  refine hK.out _ _ (CF.out _ BX.out) (fun hHeld => ?_)
  clear hK K' hb
  (try simp only [Act.put, List.setIfInBounds_toArray, List.set_cons_zero, List.set_cons_succ, List.getElem_toArray, List.getElem_cons_succ, List.getElem_cons_zero])
  refine wpAnyH_ready (rs := [11]) (by kernel_rfl) (by simp) ?_
  refine AllReadyH.cons rfl (fun K' hK => ?_) AllReadyH.nil
  (try simp only [Act.put, List.setIfInBounds_toArray, List.set_cons_zero, List.set_cons_succ, List.getElem_toArray, List.getElem_cons_succ, List.getElem_cons_zero])
  go_simp
  refine (etwin_any (((HR.out 3 (by omega)).below (K.out.trans (BX.out.mono K.out.size))).mono (Nat.le_trans K.out.size BX.out.size)) (HN.out 3 (by omega)) (Hn.out 3 (by omega)) (D 3).s (D 3).x).mono ?_
  rintro e y3 ⟨A3, c3, rfl, hmk, hb⟩
  replace BX := hid (BX.out.trans (hb.out.mono BX.out.size))
  replace T0 := hid (T0.out.below hb.out)
  replace T1 := hid (T1.out.below hb.out)
  replace T2 := hid (T2.out.below hb.out)
  have T3 : Hid (Twd W.heap.size y3 (D 3) ⟨(D 3).s, A3, (D 3).n, c3, (D 3).x, (D 3).f⟩) := hid ⟨hmk.out.mono S2.out, rfl, rfl, rfl, rfl⟩
  have S3 := hid (show W.heap.size ≤ y3.heap.size from BX.out.size)
  clear hmk
  try dsimp only
  refine hK.out _ _ (CF.out _ BX.out) (fun hHeld => ?_)
  clear hK K' hb
  (try simp only [Act.put, List.setIfInBounds_toArray, List.set_cons_zero, List.set_cons_succ, List.getElem_toArray, List.getElem_cons_succ, List.getElem_cons_zero])
  refine wpAnyH_take (i := 12) (v := ?v5) rfl (by kernel_rfl) (by kernel_rfl) (by kernel_rfl) (fun _ _ _ h => h) (Or.inl ⟨by rfl, ?y5⟩) (by assumption) ?r5
  case y5 => (intro w0 hSw; (try dsimp only at hSw); (try simp only [List.getElem_toArray, List.getElem_cons_succ, List.getElem_cons_zero]); go_simp; try with_reducible rfl)
  (try simp only [Act.put, List.setIfInBounds_toArray, List.set_cons_zero, List.set_cons_succ, List.getElem_toArray, List.getElem_cons_succ, List.getElem_cons_zero])
  have HLit := hid (show (#[.bool (D 0).s, .slice A0 (D 0).n c0, .int .i64 (D 0).x, .bool (D 1).s, .slice A1 (D 1).n c1, .int .i64 (D 1).x, .bool (D 2).s, .slice A2 (D 2).n c2, .int .i64 (D 2).x, .bool (D 3).s, .slice A3 (D 3).n c3, .int .i64 (D 3).x] : Array Value) = mcells (of4 ⟨(D 0).s, A0, (D 0).n, c0, (D 0).x, (D 0).f⟩ ⟨(D 1).s, A1, (D 1).n, c1, (D 1).x, (D 1).f⟩ ⟨(D 2).s, A2, (D 2).n, c2, (D 2).x, (D 2).f⟩ ⟨(D 3).s, A3, (D 3).n, c3, (D 3).x, (D 3).f⟩) from rfl)
  have PRz := hid (PR.out.below BX.out PR.out.lt)
  have gz := grown_mstore y3 (w.heap.size + 1) (of4 ⟨(D 0).s, A0, (D 0).n, c0, (D 0).x, (D 0).f⟩ ⟨(D 1).s, A1, (D 1).n, c1, (D 1).x, (D 1).f⟩ ⟨(D 2).s, A2, (D 2).n, c2, (D 2).x, (D 2).f⟩ ⟨(D 3).s, A3, (D 3).n, c3, (D 3).x, (D 3).f⟩)
  have Kz := hid (below_row (K.out.trans (BX.out.mono K.out.size)) gz (Nat.le_trans K.out.size BX.out.size) (by omega))
  have PRs := hid (PRz.out.store (of4 ⟨(D 0).s, A0, (D 0).n, c0, (D 0).x, (D 0).f⟩ ⟨(D 1).s, A1, (D 1).n, c1, (D 1).x, (D 1).f⟩ ⟨(D 2).s, A2, (D 2).n, c2, (D 2).x, (D 2).f⟩ ⟨(D 3).s, A3, (D 3).n, c3, (D 3).x, (D 3).f⟩))
  have CFz := hid ((CF.out _ BX.out).grown gz (by omega))
  have HFin := hid (show ∀ k, k < 4 → Twd w.heap.size (mstore y3 (w.heap.size + 1) (of4 ⟨(D 0).s, A0, (D 0).n, c0, (D 0).x, (D 0).f⟩ ⟨(D 1).s, A1, (D 1).n, c1, (D 1).x, (D 1).f⟩ ⟨(D 2).s, A2, (D 2).n, c2, (D 2).x, (D 2).f⟩ ⟨(D 3).s, A3, (D 3).n, c3, (D 3).x, (D 3).f⟩)) (D k) ((of4 ⟨(D 0).s, A0, (D 0).n, c0, (D 0).x, (D 0).f⟩ ⟨(D 1).s, A1, (D 1).n, c1, (D 1).x, (D 1).f⟩ ⟨(D 2).s, A2, (D 2).n, c2, (D 2).x, (D 2).f⟩ ⟨(D 3).s, A3, (D 3).n, c3, (D 3).x, (D 3).f⟩) k) from all_of4 (P := fun k => Twd w.heap.size (mstore y3 (w.heap.size + 1) (of4 ⟨(D 0).s, A0, (D 0).n, c0, (D 0).x, (D 0).f⟩ ⟨(D 1).s, A1, (D 1).n, c1, (D 1).x, (D 1).f⟩ ⟨(D 2).s, A2, (D 2).n, c2, (D 2).x, (D 2).f⟩ ⟨(D 3).s, A3, (D 3).n, c3, (D 3).x, (D 3).f⟩)) (D k) ((of4 ⟨(D 0).s, A0, (D 0).n, c0, (D 0).x, (D 0).f⟩ ⟨(D 1).s, A1, (D 1).n, c1, (D 1).x, (D 1).f⟩ ⟨(D 2).s, A2, (D 2).n, c2, (D 2).x, (D 2).f⟩ ⟨(D 3).s, A3, (D 3).n, c3, (D 3).x, (D 3).f⟩) k)) ((T0.out.grown gz (by have := Hsz.out; omega)).mono (by have := Hsz.out; omega)) ((T1.out.grown gz (by have := Hsz.out; omega)).mono (by have := Hsz.out; omega)) ((T2.out.grown gz (by have := Hsz.out; omega)).mono (by have := Hsz.out; omega)) ((T3.out.grown gz (by have := Hsz.out; omega)).mono (by have := Hsz.out; omega)))
  refine wpAnyH_ready (rs := [13]) (by kernel_rfl) (by simp) ?_
  refine AllReadyH.cons rfl (fun K' hK => ?_) AllReadyH.nil
  (try simp only [List.getElem_toArray, List.getElem_cons_succ, List.getElem_cons_zero])
  refine ite_go (by kernel_rfl) ?_
  refine wp1_mstore_ (.tmp 2) (.tmp 15) rfl (w.heap.size + 1) D0 (of4 ⟨(D 0).s, A0, (D 0).n, c0, (D 0).x, (D 0).f⟩ ⟨(D 1).s, A1, (D 1).n, c1, (D 1).x, (D 1).f⟩ ⟨(D 2).s, A2, (D 2).n, c2, (D 2).x, (D 2).f⟩ ⟨(D 3).s, A3, (D 3).n, c3, (D 3).x, (D 3).f⟩) _ rfl rfl HLit.out PRz.out ?_
  refine hK.out _ _ CFz.out (fun hHeld => ?_)
  clear hK K' gz
  generalize mstore y3 (w.heap.size + 1) (of4 ⟨(D 0).s, A0, (D 0).n, c0, (D 0).x, (D 0).f⟩ ⟨(D 1).s, A1, (D 1).n, c1, (D 1).x, (D 1).f⟩ ⟨(D 2).s, A2, (D 2).n, c2, (D 2).x, (D 2).f⟩ ⟨(D 3).s, A3, (D 3).n, c3, (D 3).x, (D 3).f⟩) = W5 at *
  (try simp only [Act.put])
  refine wpAnyH_done (by kernel_rfl) ?_ _
  go_wp2
  exact bodyPost_ret (mass_cell rfl _ _ (w.heap.size + 1) (of4 ⟨(D 0).s, A0, (D 0).n, c0, (D 0).x, (D 0).f⟩ ⟨(D 1).s, A1, (D 1).n, c1, (D 1).x, (D 1).f⟩ ⟨(D 2).s, A2, (D 2).n, c2, (D 2).x, (D 2).f⟩ ⟨(D 3).s, A3, (D 3).n, c3, (D 3).x, (D 3).f⟩) rfl PRs.out) rfl ⟨_, rfl, HFin.out, Kz.out⟩
abbrev De := Int × Int
def bad (d : De) : Bool := decide (d.1 < 0) || decide (8 ≤ d.1) || decide (d.2 < 0) || decide (2147483647 < d.2)
def fr (a b : De) : Bool := if a.2 = b.2 then decide (a.1 < b.1) else decide (b.2 < a.2)
def ins (d : De) : List De → List De
  | [] => [d]
  | x :: r => if fr d x then d :: x :: r else x :: ins d r
def srt (l : List De) : List De := l.foldl (fun r d => ins d r) []
def stp (r : List De) (d : De) : List De := if r.any (fun x => x.1 == d.1) then r else r ++ [d]
def fsts (l : List De) : List De := l.foldl stp []
def kchk (l : List De) : Int := if 64 < l.length then 4 else if l.any bad then 8 else 0
def orr (l : List De) : List De := if kchk l = 0 then srt l else []
def bst (l : List De) : List De := if kchk l = 0 then fsts (srt l) else []
def pos (d : De) (l : List De) : Nat := l.findIdx (fun x => fr d x)
def Ord (l : List De) : Prop := l.Pairwise (fun a b => fr b a = false)
def Str (l : List De) : Prop := l.Pairwise (fun a b => fr a b = true)
def Ids (l : List De) : Prop := l.Pairwise (fun a b => a.1 ≠ b.1)
def top (l : List De) : List De := fsts (srt l)
theorem chk_zero {l : List De} : kchk l = 0 ↔ l.length ≤ 64 ∧ l.any bad = false := by
  unfold kchk
  split
  · constructor
    · intro h; cases h
    · intro h; omega
  · split
    · next h => constructor
                · intro h0; cases h0
                · rintro ⟨_, h0⟩; rw [h] at h0; cases h0
    · next h1 h => exact ⟨fun _ => ⟨by omega, by simpa using h⟩, fun _ => rfl⟩
open Go.RowKit
def kdv (d : De) : Value := .agg #[.int .i64 d.1, .int .i64 d.2]
def enc (d : De) : List Value := [.int .i64 d.1, .int .i64 d.2]
theorem bad1_any (a : De) (w : World) :
    Calls Tryz.prog 117 #[kdv a] w fun e w' => e = .returned (.bool (bad a)) ∧ Hid (Below w.heap.size w w') := by
  obtain ⟨a1, a2⟩ := a
  have HB := hid ((Below.refl _ w).alloc (Nat.le_refl _) (.cells #[.int .i64 a1, .int .i64 a2] 73))
  show Calls Tryz.prog 117 #[.agg #[.int .i64 a1, .int .i64 a2]] w _
  have hb : bad (a1, a2) = (decide (a1 < 0) || decide (8 ≤ a1) || decide (a2 < 0) || decide (2147483647 < a2)) := rfl
  rw [hb]
  by_cases h1 : a1 < 0
  · go_enter Tryz.func117, Tryz.ntmps117
    go_wp2
    go_ret
    exact ⟨by (simp; try omega), HB⟩
  by_cases h2 : 8 ≤ a1
  · go_enter Tryz.func117, Tryz.ntmps117
    go_wp2
    go_ret
    exact ⟨by (simp; try omega), HB⟩
  by_cases h3 : a2 < 0
  · go_enter Tryz.func117, Tryz.ntmps117
    go_wp2
    go_ret
    exact ⟨by (simp; try omega), HB⟩
  · go_enter Tryz.func117, Tryz.ntmps117
    go_wp2
    go_ret
    exact ⟨by (simp; try omega), HB⟩
theorem one_any (a : De) (w : World) :
    Calls Tryz.prog 96 #[kdv a] w fun e w' => e = .returned (.bool (!bad a)) ∧ Hid (Below w.heap.size w w') := by
  obtain ⟨a1, a2⟩ := a
  have HB := hid ((Below.refl _ w).alloc (Nat.le_refl _) (.cells #[.int .i64 a1, .int .i64 a2] 73))
  show Calls Tryz.prog 96 #[.agg #[.int .i64 a1, .int .i64 a2]] w _
  have hb : (!bad (a1, a2)) = (decide (0 ≤ a1) && decide (a1 < 8) && decide (0 ≤ a2) && decide (a2 ≤ 2147483647)) := by
    unfold bad
    rw [Bool.eq_iff_iff]
    simp
  rw [hb]
  by_cases h1 : 0 ≤ a1
  case neg =>
    go_enter Tryz.func96, Tryz.ntmps96
    go_wp2
    go_ret
    exact ⟨by (simp; try omega), HB⟩
  by_cases h2 : a1 < 8
  case neg =>
    go_enter Tryz.func96, Tryz.ntmps96
    go_wp2
    go_ret
    exact ⟨by (simp; try omega), HB⟩
  by_cases h3 : 0 ≤ a2
  case neg =>
    go_enter Tryz.func96, Tryz.ntmps96
    go_wp2
    go_ret
    exact ⟨by (simp; try omega), HB⟩
  go_enter Tryz.func96, Tryz.ntmps96
  go_wp2
  go_ret
  exact ⟨by (simp; try omega), HB⟩
open Go.RowKit Go.Shelf
structure Ds (w : World) (B : Nat) (A : Option Addr) (n c : Nat) (l : List De) : Prop where
  len : l.length = n
  cap : n ≤ c
  max : n ≤ 140737488355328
  nil : A = none → n = 0 ∧ c = 0
  at_ : 0 < n → ∃ b off, A = some ⟨b, off, none⟩ ∧ b < B ∧ ∀ (j : Nat) (d : De), l[j]? = some d → w.cell? ⟨b, off + j * 2, none⟩ = some (.int .i64 d.1) ∧ w.cell? ⟨b, off + j * 2 + 1, none⟩ = some (.int .i64 d.2)
section
variable {w w' : World} {B n c : Nat} {A : Option Addr} {l : List De}
theorem Ds.below (h : Ds w B A n c l) (hb : Below B w w') : Ds w' B A n c l :=
  ⟨h.len, h.cap, h.max, h.nil, fun hn => by
    obtain ⟨b, off, rfl, hB, hc⟩ := h.at_ hn
    exact ⟨b, off, rfl, hB, fun j d hj => ⟨(hb.cell (p := ⟨b, off + j * 2, none⟩) hB).trans (hc j d hj).1, (hb.cell (p := ⟨b, off + j * 2 + 1, none⟩) hB).trans (hc j d hj).2⟩⟩⟩
theorem Ds.mono {B' : Nat} (h : Ds w B A n c l) (hb : B ≤ B') : Ds w B' A n c l :=
  ⟨h.len, h.cap, h.max, h.nil, fun hn => by
    obtain ⟨b, off, rfl, hB, hc⟩ := h.at_ hn
    exact ⟨b, off, rfl, by omega, hc⟩⟩
theorem Ds.nil' (w : World) (B : Nat) : Ds w B none 0 0 [] := ⟨rfl, Nat.le_refl _, by omega, fun _ => ⟨rfl, rfl⟩, fun h => absurd h (by omega)⟩
theorem Ds.get (h : Ds w B A n c l) {k : Nat} (hk : k < n) : ∃ d, l[k]? = some d := ⟨l[k]'(by rw [h.len]; exact hk), List.getElem?_eq_getElem _⟩
end
def idx (p : De → Bool) (l : List De) : Int := if l.findIdx p < l.length then ((l.findIdx p : Nat) : Int) else -1
theorem idx_hit {p : De → Bool} {l : List De} {k : Nat} {d : De} (hd : l[k]? = some d) (hp : p d = true) (hn : ∀ j e, j < k → l[j]? = some e → p e = false) : idx p l = k := by
  obtain ⟨hk, rfl⟩ := List.getElem?_eq_some_iff.1 hd
  have : l.findIdx p = k := by
    rw [List.findIdx_eq hk]
    exact ⟨hp, fun j hj => by
      have := hn j _ hj (List.getElem?_eq_getElem (by omega))
      simpa using this⟩
  unfold idx
  rw [this, if_pos hk]
theorem idx_miss {p : De → Bool} {l : List De} (hn : ∀ (j : Nat) e, l[j]? = some e → p e = false) : idx p l = -1 := by
  have : l.findIdx p = l.length := by
    rw [List.findIdx_eq_length]
    intro x hx
    obtain ⟨j, hj⟩ := List.mem_iff_getElem?.1 hx
    exact hn j x hj
  unfold idx
  rw [this, if_neg (by omega)]
theorem idx_any (p : De → Bool) (l : List De) : decide (0 ≤ idx p l) = l.any p := by
  unfold idx
  rw [Bool.eq_iff_iff]
  split
  · next h =>
    rw [List.findIdx_lt_length] at h
    simp only [List.any_eq_true]
    simpa using h
  · next h =>
    rw [List.findIdx_lt_length] at h
    simp only [List.any_eq_true]
    constructor
    · intro h0; simp at h0
    · intro h0; exact absurd h0 h
set_option maxHeartbeats 1600000 in
theorem index_any (p : De → Bool) (g : Nat) (lb : Array Value) (eg : ∀ args w, (callFunc g args).run Tryz.prog w = .ok (.enter g args) w) {w : World} {B n c : Nat} {A : Option Addr} {l : List De} (h : Ds w B A n c l) (hB : B ≤ w.heap.size)
    (hp : ∀ (W : World) (x : De), Below w.heap.size w W → Calls Tryz.prog g (#[kdv x] ++ lb) W fun e w' => e = .returned (.bool (p x)) ∧ Hid (Below W.heap.size W w')) :
    Calls Tryz.prog 118 #[.slice A n c, .func (.func g) #[] lb] w fun e w' => e = .returned (.int .i64 (idx p l)) ∧ Hid (Below w.heap.size w w') := by
  have H := hid (h.mono hB)
  have hm := h.max
  have hcap := h.cap
  have HP := hid hp
  clear h hp
  go_enter Tryz.func118, Tryz.ntmps118
  go_wp2
  go_loopg [5, 8] n (fun gg _ s8 wr => ∃ kk : Nat, kk ≤ n ∧ n - kk ≤ gg ∧ s8 = .int .i64 kk ∧ Hid (Below w.heap.size w wr) ∧ Hid (∀ j e, j < kk → l[j]? = some e → p e = false))
  case atStart => exact ⟨0, Nat.zero_le _, by omega, rfl, hid (Below.refl _ w), hid (fun j _ hj => absurd hj (Nat.not_lt_zero _))⟩
  case round =>
    obtain ⟨kk, hkk, hg, rfl, BW, HA⟩ := hrel
    by_cases hlt : kk < n
    · have hltz : (kk : Int) < (n : Int) := by omega
      obtain ⟨d, hd⟩ := H.out.get hlt
      obtain ⟨b, off, rfl, _, hc⟩ := (H.out.below BW.out).at_ (by omega)
      obtain ⟨c1, c2⟩ := hc kk d hd
      have HC := hid (HP.out wr d BW.out)
      have Hd := hid hd
      clear hc hd
      obtain ⟨d1, d2⟩ := d
      change wr.cell? ⟨b, off + kk * 2, none⟩ = some (.int .i64 d1) at c1
      change wr.cell? ⟨b, off + kk * 2 + 1, none⟩ = some (.int .i64 d2) at c2
      cases hq : p (d1, d2) with
      | true =>
        rw [hq] at HC
        go_wp2_with fail
        refine HC.out.mono ?_
        rintro e w' ⟨rfl, hb⟩
        go_wp2
        go_ret
        refine ⟨?_, hid (BW.out.trans (hb.out.mono BW.out.size))⟩
        rw [idx_hit Hd.out hq HA.out]
        rfl
      | false =>
        rw [hq] at HC
        go_wp2_with fail
        refine HC.out.mono ?_
        rintro e w' ⟨rfl, hb⟩
        go_wp2
        go_roundg (n - (kk + 1))
        case measure => omega
        case rel =>
          refine ⟨kk + 1, by omega, by omega, by go_num, hid (BW.out.trans (hb.out.mono BW.out.size)), hid (fun j e hj he => ?_)⟩
          by_cases hjk : j = kk
          · subst hjk
            rw [Hd.out] at he
            injection he with he
            rw [← he]
            exact hq
          · exact HA.out j e (by omega) he
    · have hltz : ¬ (kk : Int) < (n : Int) := by omega
      obtain rfl : kk = n := by omega
      go_wp2
      go_ret
      refine ⟨?_, BW⟩
      rw [idx_miss (fun j e he => HA.out j e (by have := (List.getElem?_eq_some_iff.1 he).1; rw [H.out.len] at this; exact this) he)]
      rfl
set_option maxHeartbeats 1600000 in
theorem anyBad_any {w : World} {B n c : Nat} {A : Option Addr} {l : List De} (h : Ds w B A n c l) (hB : B ≤ w.heap.size) :
    Calls Tryz.prog 106 #[.slice A n c] w fun e w' => e = .returned (.bool (l.any bad)) ∧ Hid (Below w.heap.size w w') := by
  have HC := hid (index_any bad 117 #[] (enters_of Tryz.func117 (by kernel_rfl) rfl) h hB (fun W x _ => bad1_any x W))
  have hi := idx_any bad l
  generalize l.any bad = r at hi ⊢
  clear h
  go_enter Tryz.func106, Tryz.ntmps106
  go_wp2_with (first
    | (go_at_call 118; refine HC.out.mono ?_; rintro e w' ⟨rfl, hb⟩)
    | go_in)
  go_ret
  exact ⟨by rw [← hi]; rfl, hb⟩
theorem kcheck_any {w : World} {B n c : Nat} {A : Option Addr} {l : List De} (h : Ds w B A n c l) (hB : B ≤ w.heap.size) :
    Calls Tryz.prog 76 #[.slice A n c] w fun e w' => e = .returned (.int .i64 (kchk l)) ∧ Hid (Below w.heap.size w w') := by
  have HC := hid (anyBad_any h hB)
  have hlen := h.len
  have hm := h.max
  clear h
  by_cases hn : 64 < n
  · have hc : kchk l = 4 := by unfold kchk; rw [if_pos (by omega)]
    rw [hc]
    go_enter Tryz.func76, Tryz.ntmps76
    go_wp2_with fail
    go_ret
    exact ⟨rfl, hid (Below.refl _ _)⟩
  · have hc : kchk l = if l.any bad then 8 else 0 := by unfold kchk; rw [if_neg (by omega)]
    rw [hc]
    generalize l.any bad = r at HC ⊢
    cases r with
    | true =>
      go_enter Tryz.func76, Tryz.ntmps76
      go_wp2_with (go_at_call 106; refine HC.out.mono ?_; rintro e w' ⟨rfl, hb⟩)
      go_ret; exact ⟨rfl, hb⟩
    | false =>
      go_enter Tryz.func76, Tryz.ntmps76
      go_wp2_with (go_at_call 106; refine HC.out.mono ?_; rintro e w' ⟨rfl, hb⟩)
      go_ret; exact ⟨rfl, hb⟩
set_option maxHeartbeats 1600000 in
theorem rcheck_any {w : World} {B n c : Nat} {A : Option Addr} {l : List De} (h : Ds w B A n c l) (hB : B ≤ w.heap.size) :
    Calls Tryz.prog 57 #[.slice A n c] w fun e w' => e = .returned (.int .i64 (kchk l)) ∧ Hid (Below w.heap.size w w') := by
  have H := hid (h.mono hB)
  have hlen := h.len
  have hm := h.max
  have hcap := h.cap
  clear h
  by_cases hn : 64 < n
  · have hc : kchk l = 4 := by unfold kchk; rw [if_pos (by omega)]
    rw [hc]
    go_enter Tryz.func57, Tryz.ntmps57
    go_wp2_with fail
    go_ret
    exact ⟨rfl, hid (Below.refl _ _)⟩
  · have hc : Hid (kchk l = if l.any bad then 8 else 0) := hid (by unfold kchk; rw [if_neg (by omega)])
    go_enter Tryz.func57, Tryz.ntmps57
    go_wp2
    go_loopg [3] n (fun gg s3 wr => ∃ kk : Nat, kk ≤ n ∧ n - kk ≤ gg ∧ s3 = .int .i64 kk ∧ Hid (Below w.heap.size w wr) ∧ Hid (∀ j e, j < kk → l[j]? = some e → bad e = false))
    case atStart => exact ⟨0, Nat.zero_le _, by omega, rfl, hid (Below.refl _ w), hid (fun j _ hj => absurd hj (Nat.not_lt_zero _))⟩
    case round =>
      obtain ⟨kk, hkk, hg, rfl, BW, HA⟩ := hrel
      by_cases hlt : kk < n
      · have hltz : (kk : Int) < (n : Int) := by omega
        obtain ⟨d, hd⟩ := H.out.get hlt
        obtain ⟨b, off, rfl, _, hcc⟩ := (H.out.below BW.out).at_ (by omega)
        obtain ⟨c1, c2⟩ := hcc kk d hd
        have HC := hid (one_any d wr)
        have Hd := hid hd
        clear hcc hd
        obtain ⟨d1, d2⟩ := d
        change wr.cell? ⟨b, off + kk * 2, none⟩ = some (.int .i64 d1) at c1
        change wr.cell? ⟨b, off + kk * 2 + 1, none⟩ = some (.int .i64 d2) at c2
        cases hq : bad (d1, d2) with
        | true =>
          rw [hq] at HC
          go_wp2_with (go_at_call 96; refine HC.out.mono ?_; rintro e w' ⟨rfl, hb⟩)
          go_ret
          refine ⟨?_, hid (BW.out.trans (hb.out.mono BW.out.size))⟩
          rw [hc.out, if_pos (List.any_eq_true.2 ⟨_, List.mem_of_getElem? Hd.out, hq⟩)]
          rfl
        | false =>
          rw [hq] at HC
          go_wp2_with (go_at_call 96; refine HC.out.mono ?_; rintro e w' ⟨rfl, hb⟩)
          go_roundg (n - (kk + 1))
          case measure => omega
          case rel =>
            refine ⟨kk + 1, by omega, by omega, by go_num, hid (BW.out.trans (hb.out.mono BW.out.size)), hid (fun j e hj he => ?_)⟩
            by_cases hjk : j = kk
            · subst hjk
              rw [Hd.out] at he
              injection he with he
              rw [← he]
              exact hq
            · exact HA.out j e (by omega) he
      · have hltz : ¬ (kk : Int) < (n : Int) := by omega
        obtain rfl : kk = n := by omega
        go_wp2
        go_ret
        refine ⟨?_, BW⟩
        rw [hc.out, if_neg (by
          rw [Bool.not_eq_true, List.any_eq_false]
          intro x hx
          obtain ⟨j, hj⟩ := List.mem_iff_getElem?.1 hx
          rw [HA.out j x (by have := (List.getElem?_eq_some_iff.1 hj).1; omega) hj]
          simp)]
        rfl
open Go.RowKit Go.Shelf
def cellsD (l : List De) : List Value := l.flatMap enc
theorem cellsD_length : ∀ l : List De, (cellsD l).length = l.length * 2
  | [] => rfl
  | d :: l => by
    have := cellsD_length l
    unfold cellsD at *
    rw [List.flatMap_cons, List.length_append, this, List.length_cons]
    show 2 + _ = _
    omega
theorem cellsD_append (l m : List De) : cellsD (l ++ m) = cellsD l ++ cellsD m := List.flatMap_append
theorem cellsD_cons (d : De) (l : List De) : cellsD (d :: l) = enc d ++ cellsD l := List.flatMap_cons
theorem cellsD_get : ∀ {l : List De} {j : Nat} {d : De}, l[j]? = some d → (cellsD l)[j * 2]? = some (.int .i64 d.1) ∧ (cellsD l)[j * 2 + 1]? = some (.int .i64 d.2)
  | [], _, _, h => by simp at h
  | x :: l, 0, d, h => by
    obtain rfl : x = d := by simpa using h
    exact ⟨rfl, rfl⟩
  | x :: l, j + 1, d, h => by
    have := cellsD_get (l := l) (j := j) (d := d) (by simpa using h)
    rw [cellsD_cons]
    have e : (j + 1) * 2 = j * 2 + 2 := by omega
    rw [e]
    exact this
theorem cellsD_one_cell (l : List De) : ∀ v ∈ cellsD l, v.oneCell' = true := by
  intro v hv
  obtain ⟨d, _, h⟩ := List.mem_flatMap.1 hv
  simp [enc] at h
  rcases h with rfl | rfl <;> rfl
structure Od (w : World) (B : Nat) (v : Value) (l : List De) : Prop where
  own : w.ownsRow B 73 2 v l.length (cellsD l)
  max : l.length ≤ 100000
theorem Od.nil (w : World) (B : Nat) : Od w B (.slice none 0 0) [] := ⟨World.ownsRow_nil w B _ _, by simp⟩
theorem Od.kept {w w' : World} {B : Nat} {v : Value} {l : List De} {row : Option Nat} (h : Od w B v l) (hg : w.grownBy w' row) (hne : v.ownBlock = none ∨ v.ownBlock ≠ row) : Od w' B v l := ⟨h.own.kept hg hne, h.max⟩
theorem below_grown {w w' : World} (h : Below w.heap.size w w') : w.grownBy w' none := ⟨h.os, h.tape, h.output, h.size, fun k hk _ => h.block k hk⟩
theorem Od.below {w w' : World} {B : Nat} {v : Value} {l : List De} (h : Od w B v l) (hb : Below w.heap.size w w') : Od w' B v l := h.kept (below_grown hb) (by cases v.ownBlock <;> simp)
theorem Od.form {w : World} {B : Nat} {v : Value} {l : List De} (h : Od w B v l) : ∃ A c, v = .slice A l.length c ∧ Ds w w.heap.size A l.length c l ∧ c ≤ maxLen ∧ (∀ k, v.ownBlock = some k ↔ A = some ⟨k, 0, none⟩) := by
  obtain ⟨⟨hl, hor⟩, hm⟩ := h
  rcases hor with ⟨rfl, h0⟩ | ⟨g, cap, cur, rfl, hB, hg, hn, hc, hs, ht⟩
  · refine ⟨none, 0, by rw [h0], ?_, by unfold maxLen; omega, fun k => by simp [Value.ownBlock]⟩
    obtain rfl := List.length_eq_zero_iff.1 h0
    exact Ds.nil' w _
  · refine ⟨some ⟨g, 0, none⟩, cap, rfl, ⟨rfl, hn, by omega, fun e => (by cases e), fun _ => ⟨g, 0, rfl, lt_of_heap hg, fun j d hj => ?_⟩⟩, hc, fun k => by simp [Value.ownBlock]⟩
    have hj2 := (List.getElem?_eq_some_iff.1 hj).1
    obtain ⟨e1, e2⟩ := cellsD_get hj
    rw [← ht, List.getElem?_take] at e1 e2
    rw [if_pos (by omega)] at e1 e2
    rw [cell_of_row w g _ cur _ (0, 0) hg, cell_of_row w g _ cur _ (0, 0) hg, Nat.zero_add]
    exact ⟨by simpa using e1, by simpa using e2⟩
theorem infoD : (Tryz.prog.info? 73).map (fun i => (i.zero, i.size, i.bytes)) = some (some (.agg #[.int .i64 0, .int .i64 0]), 2, 16) := by kernel_rfl
open Go.RowKit Go.Shelf Go.Lib
open Go.RowKit Go.Shelf Go.Lib
open Go.RowKit Go.Shelf Go.Lib
structure Turned (w w' : World) (B : Nat) (v v' : Value) (l : List De) : Prop where
  own : Od w' B v' l
  grown : w.grownBy w' v.ownBlock
  at_ : v'.ownBlock = v.ownBlock ∨ v'.ownBlock = some w.heap.size
open Go.RowKit Go.Shelf Go.Lib
open Go.RowKit Go.Shelf Go.Lib
open Go.RowKit Go.Shelf Go.Lib
end Go.Proofs.YtbankbehfjogpaaGreat
