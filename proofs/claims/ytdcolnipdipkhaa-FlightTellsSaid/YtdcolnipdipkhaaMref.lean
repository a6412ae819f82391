/- The document's masses: words; May, Check, Same, Twin, Minus. -/
import Derived.Test.YtdcolnipdipkhaaVai
namespace Go.Proofs.Ytdcolnipdipkhaa
set_option maxRecDepth 100000
open Go.RowKit Go.Shelf

theorem Mbox.range {w : World} {g : Nat} {D : Nat → Dy} (h : Mbox w g D) {k : Nat} (hk : k < 4) : w.rangeAt g (3 * k) [.bool (D k).s, .slice (D k).A (D k).n (D k).c, .int .i64 (D k).x] := fun j v hv => by
  obtain ⟨h0, h1, h2⟩ := h.cell hk
  match j, hv with
  | 0, hv => injection hv with hv; subst hv; exact h0
  | 1, hv => injection hv with hv; subst hv; exact h1
  | 2, hv => injection hv with hv; subst hv; exact h2
  | j + 3, hv => simp at hv
theorem dyad_size_ (d : Dy) : (Try.prog.info? 25).map (·.size) = some [Value.bool d.s, .slice d.A d.n d.c, .int .i64 d.x].length := dyad_size
theorem wp_pl0 {ops : Array Oper} {rest : List Oper} {o : Oper} {a : Act} {w : World} {Q : Exit → Act → World → Prop} (hgd : o.guard = none) (x : Operand) (ho : o.op = .load 25 x)
    (g : Nat) (D : Nat → Dy) (hx : a.eval x = .pointer (some ⟨g, 0, none⟩)) (hg : Mbox w g D) (h : wpList Try.prog ops Q rest (a.put o.dst (.agg #[.bool (D 0).s, .slice (D 0).A (D 0).n (D 0).c, .int .i64 (D 0).x])) w) : wpList Try.prog ops Q (o :: rest) a w :=
  wpList_load_mid hgd _ x ho g 0 hx _ _ (hg.range (k := 0) (by omega)) Try.underlying25 rfl (dyad_size_ (D 0)) h
theorem wp_pg0 {ops : Array Oper} {rest : List Oper} {o : Oper} {a : Act} {w : World} {Q : Exit → Act → World → Prop} (hw : Region.wanted o (yielded ops a.tmps) = true) (x : Operand) (ho : o.op = .load 25 x)
    (g : Nat) (D : Nat → Dy) (hx : a.eval x = .pointer (some ⟨g, 0, none⟩)) (hg : Mbox w g D) (h : wpList Try.prog ops Q rest (a.put o.dst (.agg #[.bool (D 0).s, .slice (D 0).A (D 0).n (D 0).c, .int .i64 (D 0).x])) w) : wpList Try.prog ops Q (o :: rest) a w :=
  wpList_step fun _ hK => by
    rw [if_pos hw]
    exact wp_load_mid _ x ho g 0 hx _ _ (hg.range (k := 0) (by omega)) Try.underlying25 rfl (dyad_size_ (D 0)) (hK _ _ h)
theorem yields_pl0 {ops : Array Oper} {S : World → Prop} {o : Oper} {a : Act} (hw : Region.wanted o (yielded ops a.tmps) = true) (x : Operand) (ho : o.op = .load 25 x)
    (g : Nat) (D : Nat → Dy) (hx : a.eval x = .pointer (some ⟨g, 0, none⟩)) (hS : ∀ w, S w → Mbox w g D) : YieldsIf Try.prog ops S o (.agg #[.bool (D 0).s, .slice (D 0).A (D 0).n (D 0).c, .int .i64 (D 0).x]) a :=
  yieldsIf_load_mid hw _ x ho g 0 hx _ _ (fun w hw => (hS w hw).range (k := 0) (by omega)) Try.underlying25 rfl (dyad_size_ (D 0))
theorem wp_pl1 {ops : Array Oper} {rest : List Oper} {o : Oper} {a : Act} {w : World} {Q : Exit → Act → World → Prop} (hgd : o.guard = none) (x : Operand) (ho : o.op = .load 25 x)
    (g : Nat) (D : Nat → Dy) (hx : a.eval x = .pointer (some ⟨g, 3, none⟩)) (hg : Mbox w g D) (h : wpList Try.prog ops Q rest (a.put o.dst (.agg #[.bool (D 1).s, .slice (D 1).A (D 1).n (D 1).c, .int .i64 (D 1).x])) w) : wpList Try.prog ops Q (o :: rest) a w :=
  wpList_load_mid hgd _ x ho g 3 hx _ _ (hg.range (k := 1) (by omega)) Try.underlying25 rfl (dyad_size_ (D 1)) h
theorem wp_pg1 {ops : Array Oper} {rest : List Oper} {o : Oper} {a : Act} {w : World} {Q : Exit → Act → World → Prop} (hw : Region.wanted o (yielded ops a.tmps) = true) (x : Operand) (ho : o.op = .load 25 x)
    (g : Nat) (D : Nat → Dy) (hx : a.eval x = .pointer (some ⟨g, 3, none⟩)) (hg : Mbox w g D) (h : wpList Try.prog ops Q rest (a.put o.dst (.agg #[.bool (D 1).s, .slice (D 1).A (D 1).n (D 1).c, .int .i64 (D 1).x])) w) : wpList Try.prog ops Q (o :: rest) a w :=
  wpList_step fun _ hK => by
    rw [if_pos hw]
    exact wp_load_mid _ x ho g 3 hx _ _ (hg.range (k := 1) (by omega)) Try.underlying25 rfl (dyad_size_ (D 1)) (hK _ _ h)
theorem yields_pl1 {ops : Array Oper} {S : World → Prop} {o : Oper} {a : Act} (hw : Region.wanted o (yielded ops a.tmps) = true) (x : Operand) (ho : o.op = .load 25 x)
    (g : Nat) (D : Nat → Dy) (hx : a.eval x = .pointer (some ⟨g, 3, none⟩)) (hS : ∀ w, S w → Mbox w g D) : YieldsIf Try.prog ops S o (.agg #[.bool (D 1).s, .slice (D 1).A (D 1).n (D 1).c, .int .i64 (D 1).x]) a :=
  yieldsIf_load_mid hw _ x ho g 3 hx _ _ (fun w hw => (hS w hw).range (k := 1) (by omega)) Try.underlying25 rfl (dyad_size_ (D 1))
theorem wp_pl2 {ops : Array Oper} {rest : List Oper} {o : Oper} {a : Act} {w : World} {Q : Exit → Act → World → Prop} (hgd : o.guard = none) (x : Operand) (ho : o.op = .load 25 x)
    (g : Nat) (D : Nat → Dy) (hx : a.eval x = .pointer (some ⟨g, 6, none⟩)) (hg : Mbox w g D) (h : wpList Try.prog ops Q rest (a.put o.dst (.agg #[.bool (D 2).s, .slice (D 2).A (D 2).n (D 2).c, .int .i64 (D 2).x])) w) : wpList Try.prog ops Q (o :: rest) a w :=
  wpList_load_mid hgd _ x ho g 6 hx _ _ (hg.range (k := 2) (by omega)) Try.underlying25 rfl (dyad_size_ (D 2)) h
theorem wp_pg2 {ops : Array Oper} {rest : List Oper} {o : Oper} {a : Act} {w : World} {Q : Exit → Act → World → Prop} (hw : Region.wanted o (yielded ops a.tmps) = true) (x : Operand) (ho : o.op = .load 25 x)
    (g : Nat) (D : Nat → Dy) (hx : a.eval x = .pointer (some ⟨g, 6, none⟩)) (hg : Mbox w g D) (h : wpList Try.prog ops Q rest (a.put o.dst (.agg #[.bool (D 2).s, .slice (D 2).A (D 2).n (D 2).c, .int .i64 (D 2).x])) w) : wpList Try.prog ops Q (o :: rest) a w :=
  wpList_step fun _ hK => by
    rw [if_pos hw]
    exact wp_load_mid _ x ho g 6 hx _ _ (hg.range (k := 2) (by omega)) Try.underlying25 rfl (dyad_size_ (D 2)) (hK _ _ h)
theorem yields_pl2 {ops : Array Oper} {S : World → Prop} {o : Oper} {a : Act} (hw : Region.wanted o (yielded ops a.tmps) = true) (x : Operand) (ho : o.op = .load 25 x)
    (g : Nat) (D : Nat → Dy) (hx : a.eval x = .pointer (some ⟨g, 6, none⟩)) (hS : ∀ w, S w → Mbox w g D) : YieldsIf Try.prog ops S o (.agg #[.bool (D 2).s, .slice (D 2).A (D 2).n (D 2).c, .int .i64 (D 2).x]) a :=
  yieldsIf_load_mid hw _ x ho g 6 hx _ _ (fun w hw => (hS w hw).range (k := 2) (by omega)) Try.underlying25 rfl (dyad_size_ (D 2))
theorem wp_pl3 {ops : Array Oper} {rest : List Oper} {o : Oper} {a : Act} {w : World} {Q : Exit → Act → World → Prop} (hgd : o.guard = none) (x : Operand) (ho : o.op = .load 25 x)
    (g : Nat) (D : Nat → Dy) (hx : a.eval x = .pointer (some ⟨g, 9, none⟩)) (hg : Mbox w g D) (h : wpList Try.prog ops Q rest (a.put o.dst (.agg #[.bool (D 3).s, .slice (D 3).A (D 3).n (D 3).c, .int .i64 (D 3).x])) w) : wpList Try.prog ops Q (o :: rest) a w :=
  wpList_load_mid hgd _ x ho g 9 hx _ _ (hg.range (k := 3) (by omega)) Try.underlying25 rfl (dyad_size_ (D 3)) h
theorem wp_pg3 {ops : Array Oper} {rest : List Oper} {o : Oper} {a : Act} {w : World} {Q : Exit → Act → World → Prop} (hw : Region.wanted o (yielded ops a.tmps) = true) (x : Operand) (ho : o.op = .load 25 x)
    (g : Nat) (D : Nat → Dy) (hx : a.eval x = .pointer (some ⟨g, 9, none⟩)) (hg : Mbox w g D) (h : wpList Try.prog ops Q rest (a.put o.dst (.agg #[.bool (D 3).s, .slice (D 3).A (D 3).n (D 3).c, .int .i64 (D 3).x])) w) : wpList Try.prog ops Q (o :: rest) a w :=
  wpList_step fun _ hK => by
    rw [if_pos hw]
    exact wp_load_mid _ x ho g 9 hx _ _ (hg.range (k := 3) (by omega)) Try.underlying25 rfl (dyad_size_ (D 3)) (hK _ _ h)
theorem yields_pl3 {ops : Array Oper} {S : World → Prop} {o : Oper} {a : Act} (hw : Region.wanted o (yielded ops a.tmps) = true) (x : Operand) (ho : o.op = .load 25 x)
    (g : Nat) (D : Nat → Dy) (hx : a.eval x = .pointer (some ⟨g, 9, none⟩)) (hS : ∀ w, S w → Mbox w g D) : YieldsIf Try.prog ops S o (.agg #[.bool (D 3).s, .slice (D 3).A (D 3).n (D 3).c, .int .i64 (D 3).x]) a :=
  yieldsIf_load_mid hw _ x ho g 9 hx _ _ (fun w hw => (hS w hw).range (k := 3) (by omega)) Try.underlying25 rfl (dyad_size_ (D 3))
theorem wp1_mstore_ {o : Oper} {a : Act} {w : World} {K : Act → World → Prop} {Q : Exit → Act → World → Prop} (x y : Operand) (ho : o.op = .store 27 x y)
    (g : Nat) (D E : Nat → Dy) (cs : Array Value) (hx : a.eval x = .pointer (some ⟨g, 0, none⟩)) (hy : a.eval y = .agg cs) (he : cs = mcells E) (hg : Mbox w g D) (h : K (a.put o.dst undef) (mstore w g E)) : o.wp Try.prog a w K Q :=
  wp1_mstore x y ho g D E hx (he ▸ hy) hg h
/-- A dyad that is read: it may be just if q; then it is M. -/
structure Drd (w : World) (q : Prop) (M : Int) (d : Dy) : Prop where
  rd : Rd w w.heap.size d.A d.n d.c d.f
  may : q ↔ DMay d.s d.n d.f d.x
  val : q → ∃ X : Nat, d.x = (X : Int) ∧ M = dv d.s (vl d.f d.n) X
theorem Dyr.drd {w : World} {q : Prop} {M : Int} {d : Dy} (h : Dyr w q M d) : Drd w q M d := ⟨h.rd, h.may, h.val⟩
theorem Drd.arg {w : World} {q : Prop} {M : Int} {d : Dy} (h : Drd w q M d) : DArg w q M (dyv d) := ⟨_, _, _, _, _, _, rfl, h.rd, h.may, h.val⟩
theorem Drd.below {w w' : World} {q : Prop} {M : Int} {d : Dy} (h : Drd w q M d) (hb : Below w.heap.size w w') : Drd w' q M d := ⟨(h.rd.below hb).mono hb.size, h.may, h.val⟩
theorem Dv.drd {w : World} {M : Int} {v : Value} (h : Dv w M v) : ∃ d, v = dyv d ∧ Drd w True M d := by
  obtain ⟨s, u, X, V, rfl, hn, hc, hX, hd⟩ := h
  obtain ⟨A, n, c, f, rfl, hr, hf, rfl⟩ := hn
  exact ⟨⟨s, A, n, c, (X : Int), f⟩, rfl, hr, ⟨fun _ => canon_may hf hc hX, fun _ => trivial⟩, fun _ => ⟨X, rfl, hd.symm⟩⟩
/-- A mass that is read. -/
def Mrr (w : World) (q : Nat → Prop) (M : Nat → Int) (D : Nat → Dy) : Prop := ∀ k, k < 4 → Drd w (q k) (M k) (D k)
theorem Mar.mrr {w : World} {q : Nat → Prop} {M : Nat → Int} {D : Nat → Dy} (h : Mar w q M D) : Mrr w q M D := fun k hk => (h k hk).drd
theorem Mrr.below {w w' : World} {q : Nat → Prop} {M : Nat → Int} {D : Nat → Dy} (h : Mrr w q M D) (hb : Below w.heap.size w w') : Mrr w' q M D := fun k hk => (h k hk).below hb
theorem Mrr.mrd {w : World} {q : Nat → Prop} {M : Nat → Int} {D : Nat → Dy} (h : Mrr w q M D) : Mrd w w.heap.size D := fun k hk => (h k hk).rd
theorem Mrr.may {w : World} {q : Nat → Prop} {M : Nat → Int} {D : Nat → Dy} (h : Mrr w q M D) : All4 q ↔ MMay D := ⟨fun ha k hk => (h k hk).may.1 (ha k hk), fun hm k hk => (h k hk).may.2 (hm k hk)⟩
theorem mrr4 {w : World} {q0 q1 q2 q3 : Prop} {M0 M1 M2 M3 : Int} {a b c d : Dy} (h0 : Drd w q0 M0 a) (h1 : Drd w q1 M1 b) (h2 : Drd w q2 M2 c) (h3 : Drd w q3 M3 d) : Mrr w (of4 q0 q1 q2 q3) (of4 M0 M1 M2 M3) (of4 a b c d) :=
  all_of4 (P := fun k => Drd w (of4 q0 q1 q2 q3 k) (of4 M0 M1 M2 M3 k) (of4 a b c d k)) h0 h1 h2 h3
/-- What a call of the document's own hands back that answers a mass and an error. -/
def EMRes (w : World) (E : Int → Prop) (M : Nat → Int) (e : Ending) (w' : World) : Prop := ∃ D er, e = .returned (.tuple #[.agg (mcells D), .int .i64 er]) ∧ Hid (E er) ∧ Hid (Mrr w' (fun _ => True) (resM er M) D) ∧ Hid (Below w.heap.size w w')

set_option maxHeartbeats 1600000 in
theorem emmay_any {w : World} {D : Nat → Dy} (h : Mrd w w.heap.size D) :
    Calls Try.prog 31 #[.agg (mcells D)] w fun e w' => ∃ r : Bool, e = .returned (.bool r) ∧ Hid (r = true ↔ MMay D) ∧ Hid (Below w.heap.size w w') := by
  obtain ⟨W, hW⟩ : ∃ W, W = w.alloc (.cells (mcells D) 27) := ⟨_, rfl⟩
  have HW := hid hW
  have K := hid (show Below w.heap.size w W from hW ▸ (Below.refl _ w).alloc (Nat.le_refl _) _)
  have P := hid (show Mbox W w.heap.size D from hW ▸ heap_alloc_new w _)
  have HR := hid h
  clear hW h
  by_cases h0 : DMay (D 0).s (D 0).n (D 0).f (D 0).x
  · replace h0 := hid h0
    by_cases h1 : DMay (D 1).s (D 1).n (D 1).f (D 1).x
    · replace h1 := hid h1
      by_cases h2 : DMay (D 2).s (D 2).n (D 2).f (D 2).x
      · replace h2 := hid h2
        by_cases h3 : DMay (D 3).s (D 3).n (D 3).f (D 3).x
        · replace h3 := hid h3
          go_enter Try.func31, Try.ntmps31
          go_upto_region 1 with fail
          rw [← HW.out]
          have CM := hid (emay_any (((HR.out 0 (by omega)).below K.out).mono K.out.size) (D 0).s (D 0).x)
          go_wp2_with (first
            | (with_reducible refine wp_pl0 rfl (.tmp 3) rfl w.heap.size D rfl P.out ?_)
            | fail)
          refine CM.out.mono ?_
          rintro e w0 ⟨rfl, hb⟩
          rw [bool_of_dec h0.out]
          clear CM
          replace K := hid (K.out.trans (hb.out.mono K.out.size))
          replace P := hid (P.out.below hb.out P.out.lt)
          clear hb
          have CM := hid (emay_any (((HR.out 1 (by omega)).below K.out).mono K.out.size) (D 1).s (D 1).x)
          go_wp2_with (first
            | (with_reducible refine wp_pg1 (by kernel_rfl) (.tmp 7) rfl w.heap.size D rfl P.out ?_)
            | fail)
          refine CM.out.mono ?_
          rintro e w1 ⟨rfl, hb⟩
          rw [bool_of_dec h1.out]
          clear CM
          replace K := hid (K.out.trans (hb.out.mono K.out.size))
          replace P := hid (P.out.below hb.out P.out.lt)
          clear hb
          have CM := hid (emay_any (((HR.out 2 (by omega)).below K.out).mono K.out.size) (D 2).s (D 2).x)
          go_wp2_with (first
            | (with_reducible refine wp_pg2 (by kernel_rfl) (.tmp 12) rfl w.heap.size D rfl P.out ?_)
            | fail)
          refine CM.out.mono ?_
          rintro e w2 ⟨rfl, hb⟩
          rw [bool_of_dec h2.out]
          clear CM
          replace K := hid (K.out.trans (hb.out.mono K.out.size))
          replace P := hid (P.out.below hb.out P.out.lt)
          clear hb
          have CM := hid (emay_any (((HR.out 3 (by omega)).below K.out).mono K.out.size) (D 3).s (D 3).x)
          go_wp2_with (first
            | (with_reducible refine wp_pg3 (by kernel_rfl) (.tmp 17) rfl w.heap.size D rfl P.out ?_)
            | fail)
          refine CM.out.mono ?_
          rintro e w3 ⟨rfl, hb⟩
          rw [bool_of_dec h3.out]
          clear CM
          replace K := hid (K.out.trans (hb.out.mono K.out.size))
          replace P := hid (P.out.below hb.out P.out.lt)
          clear hb
          go_wp2
          go_ret
          exact ⟨true, rfl, ⟨fun _ => all_of4 (P := fun k => DMay (D k).s (D k).n (D k).f (D k).x) h0.out h1.out h2.out h3.out, fun _ => rfl⟩, K.out⟩
        · replace h3 := hid h3
          go_enter Try.func31, Try.ntmps31
          go_upto_region 1 with fail
          rw [← HW.out]
          have CM := hid (emay_any (((HR.out 0 (by omega)).below K.out).mono K.out.size) (D 0).s (D 0).x)
          go_wp2_with (first
            | (with_reducible refine wp_pl0 rfl (.tmp 3) rfl w.heap.size D rfl P.out ?_)
            | fail)
          refine CM.out.mono ?_
          rintro e w0 ⟨rfl, hb⟩
          rw [bool_of_dec h0.out]
          clear CM
          replace K := hid (K.out.trans (hb.out.mono K.out.size))
          replace P := hid (P.out.below hb.out P.out.lt)
          clear hb
          have CM := hid (emay_any (((HR.out 1 (by omega)).below K.out).mono K.out.size) (D 1).s (D 1).x)
          go_wp2_with (first
            | (with_reducible refine wp_pg1 (by kernel_rfl) (.tmp 7) rfl w.heap.size D rfl P.out ?_)
            | fail)
          refine CM.out.mono ?_
          rintro e w1 ⟨rfl, hb⟩
          rw [bool_of_dec h1.out]
          clear CM
          replace K := hid (K.out.trans (hb.out.mono K.out.size))
          replace P := hid (P.out.below hb.out P.out.lt)
          clear hb
          have CM := hid (emay_any (((HR.out 2 (by omega)).below K.out).mono K.out.size) (D 2).s (D 2).x)
          go_wp2_with (first
            | (with_reducible refine wp_pg2 (by kernel_rfl) (.tmp 12) rfl w.heap.size D rfl P.out ?_)
            | fail)
          refine CM.out.mono ?_
          rintro e w2 ⟨rfl, hb⟩
          rw [bool_of_dec h2.out]
          clear CM
          replace K := hid (K.out.trans (hb.out.mono K.out.size))
          replace P := hid (P.out.below hb.out P.out.lt)
          clear hb
          have CM := hid (emay_any (((HR.out 3 (by omega)).below K.out).mono K.out.size) (D 3).s (D 3).x)
          go_wp2_with (first
            | (with_reducible refine wp_pg3 (by kernel_rfl) (.tmp 17) rfl w.heap.size D rfl P.out ?_)
            | fail)
          refine CM.out.mono ?_
          rintro e w3 ⟨rfl, hb⟩
          rw [bool_of_not h3.out]
          clear CM
          replace K := hid (K.out.trans (hb.out.mono K.out.size))
          replace P := hid (P.out.below hb.out P.out.lt)
          clear hb
          go_wp2
          go_ret
          exact ⟨false, rfl, ⟨(fun h => by cases h), fun hm => absurd (hm 3 (by omega)) h3.out⟩, K.out⟩
      · replace h2 := hid h2
        go_enter Try.func31, Try.ntmps31
        go_upto_region 1 with fail
        rw [← HW.out]
        have CM := hid (emay_any (((HR.out 0 (by omega)).below K.out).mono K.out.size) (D 0).s (D 0).x)
        go_wp2_with (first
          | (with_reducible refine wp_pl0 rfl (.tmp 3) rfl w.heap.size D rfl P.out ?_)
          | fail)
        refine CM.out.mono ?_
        rintro e w0 ⟨rfl, hb⟩
        rw [bool_of_dec h0.out]
        clear CM
        replace K := hid (K.out.trans (hb.out.mono K.out.size))
        replace P := hid (P.out.below hb.out P.out.lt)
        clear hb
        have CM := hid (emay_any (((HR.out 1 (by omega)).below K.out).mono K.out.size) (D 1).s (D 1).x)
        go_wp2_with (first
          | (with_reducible refine wp_pg1 (by kernel_rfl) (.tmp 7) rfl w.heap.size D rfl P.out ?_)
          | fail)
        refine CM.out.mono ?_
        rintro e w1 ⟨rfl, hb⟩
        rw [bool_of_dec h1.out]
        clear CM
        replace K := hid (K.out.trans (hb.out.mono K.out.size))
        replace P := hid (P.out.below hb.out P.out.lt)
        clear hb
        have CM := hid (emay_any (((HR.out 2 (by omega)).below K.out).mono K.out.size) (D 2).s (D 2).x)
        go_wp2_with (first
          | (with_reducible refine wp_pg2 (by kernel_rfl) (.tmp 12) rfl w.heap.size D rfl P.out ?_)
          | fail)
        refine CM.out.mono ?_
        rintro e w2 ⟨rfl, hb⟩
        rw [bool_of_not h2.out]
        clear CM
        replace K := hid (K.out.trans (hb.out.mono K.out.size))
        replace P := hid (P.out.below hb.out P.out.lt)
        clear hb
        go_wp2
        go_ret
        exact ⟨false, rfl, ⟨(fun h => by cases h), fun hm => absurd (hm 2 (by omega)) h2.out⟩, K.out⟩
    · replace h1 := hid h1
      go_enter Try.func31, Try.ntmps31
      go_upto_region 1 with fail
      rw [← HW.out]
      have CM := hid (emay_any (((HR.out 0 (by omega)).below K.out).mono K.out.size) (D 0).s (D 0).x)
      go_wp2_with (first
        | (with_reducible refine wp_pl0 rfl (.tmp 3) rfl w.heap.size D rfl P.out ?_)
        | fail)
      refine CM.out.mono ?_
      rintro e w0 ⟨rfl, hb⟩
      rw [bool_of_dec h0.out]
      clear CM
      replace K := hid (K.out.trans (hb.out.mono K.out.size))
      replace P := hid (P.out.below hb.out P.out.lt)
      clear hb
      have CM := hid (emay_any (((HR.out 1 (by omega)).below K.out).mono K.out.size) (D 1).s (D 1).x)
      go_wp2_with (first
        | (with_reducible refine wp_pg1 (by kernel_rfl) (.tmp 7) rfl w.heap.size D rfl P.out ?_)
        | fail)
      refine CM.out.mono ?_
      rintro e w1 ⟨rfl, hb⟩
      rw [bool_of_not h1.out]
      clear CM
      replace K := hid (K.out.trans (hb.out.mono K.out.size))
      replace P := hid (P.out.below hb.out P.out.lt)
      clear hb
      go_wp2
      go_ret
      exact ⟨false, rfl, ⟨(fun h => by cases h), fun hm => absurd (hm 1 (by omega)) h1.out⟩, K.out⟩
  · replace h0 := hid h0
    go_enter Try.func31, Try.ntmps31
    go_upto_region 1 with fail
    rw [← HW.out]
    have CM := hid (emay_any (((HR.out 0 (by omega)).below K.out).mono K.out.size) (D 0).s (D 0).x)
    go_wp2_with (first
      | (with_reducible refine wp_pl0 rfl (.tmp 3) rfl w.heap.size D rfl P.out ?_)
      | fail)
    refine CM.out.mono ?_
    rintro e w0 ⟨rfl, hb⟩
    rw [bool_of_not h0.out]
    clear CM
    replace K := hid (K.out.trans (hb.out.mono K.out.size))
    replace P := hid (P.out.below hb.out P.out.lt)
    clear hb
    go_wp2
    go_ret
    exact ⟨false, rfl, ⟨(fun h => by cases h), fun hm => absurd (hm 0 (by omega)) h0.out⟩, K.out⟩

set_option maxHeartbeats 3200000 in
theorem emsame_raw {w : World} {D E : Nat → Dy} {P : Prop} (h : Mrd w w.heap.size D) (h2 : Mrd w w.heap.size E) (HP : Hid (P ↔ ∀ k, k < 4 → Dsm (D k) (E k))) :
    Calls Try.prog 21 #[.agg (mcells D), .agg (mcells E)] w (Says w P) := by
  obtain ⟨W, hW⟩ : ∃ W, W = (w.alloc (.cells (mcells D) 27)).alloc (.cells (mcells E) 27) := ⟨_, rfl⟩
  have HW := hid hW
  have K := hid (show Below w.heap.size w W from hW ▸ ((Below.refl _ w).alloc (Nat.le_refl _) _).alloc (by simp) _)
  have PD : Hid (Mbox W w.heap.size D) := hid (hW ▸ (show Mbox (w.alloc _) w.heap.size D from new_at rfl).alloc _)
  have PE : Hid (Mbox W (w.heap.size + 1) E) := hid (hW ▸ (show Mbox ((w.alloc _).alloc _) (w.heap.size + 1) E from new_at (by simp)))
  have HR := hid h
  have HR2 := hid h2
  clear hW h h2
  go_enter Try.func21, Try.ntmps21
  go_upto_region 1 with fail
  rw [← HW.out]
  have CS := hid (esame_raw (s := (D 0).s) (t := (E 0).s) (x := (D 0).x) (y := (E 0).x) (P := Dsm (D 0) (E 0)) (((HR.out 0 (by omega)).below K.out).mono K.out.size) (((HR2.out 0 (by omega)).below K.out).mono K.out.size) (hid Iff.rfl))
  go_wp2_with (first
    | (with_reducible refine wp_pl0 rfl (.tmp 5) rfl w.heap.size D rfl PD.out ?_)
    | (with_reducible refine wp_pl0 rfl (.tmp 7) rfl (w.heap.size + 1) E rfl PE.out ?_)
    | fail)
  refine CS.out.mono ?_
  rintro e w0 ⟨r, rfl, Hr, hb⟩
  replace K := hid (K.out.trans (hb.out.mono K.out.size))
  replace PD := hid (PD.out.below hb.out PD.out.lt)
  replace PE := hid (PE.out.below hb.out PE.out.lt)
  clear hb CS
  cases r with
  | false =>
    have Hn := hid (show ¬ P from fun hp => by have := Hr.out.2 (HP.out.1 hp 0 (by omega)); cases this)
    clear Hr
    go_wp2
    go_ret
    exact ⟨false, rfl, ⟨(fun h => by cases h), fun hp => absurd hp Hn.out⟩, K.out⟩
  | true =>
    have H0 := hid (Hr.out.1 (by trivial))
    clear Hr
    have CS := hid (esame_raw (s := (D 1).s) (t := (E 1).s) (x := (D 1).x) (y := (E 1).x) (P := Dsm (D 1) (E 1)) (((HR.out 1 (by omega)).below K.out).mono K.out.size) (((HR2.out 1 (by omega)).below K.out).mono K.out.size) (hid Iff.rfl))
    go_wp2_with (first
      | (with_reducible refine wp_pg1 (by kernel_rfl) (.tmp 11) rfl w.heap.size D rfl PD.out ?_)
      | (with_reducible refine wp_pg1 (by kernel_rfl) (.tmp 13) rfl (w.heap.size + 1) E rfl PE.out ?_)
      | fail)
    refine CS.out.mono ?_
    rintro e w1 ⟨r, rfl, Hr, hb⟩
    replace K := hid (K.out.trans (hb.out.mono K.out.size))
    replace PD := hid (PD.out.below hb.out PD.out.lt)
    replace PE := hid (PE.out.below hb.out PE.out.lt)
    clear hb CS
    cases r with
    | false =>
      have Hn := hid (show ¬ P from fun hp => by have := Hr.out.2 (HP.out.1 hp 1 (by omega)); cases this)
      clear Hr
      go_wp2
      go_ret
      exact ⟨false, rfl, ⟨(fun h => by cases h), fun hp => absurd hp Hn.out⟩, K.out⟩
    | true =>
      have H1 := hid (Hr.out.1 (by trivial))
      clear Hr
      have CS := hid (esame_raw (s := (D 2).s) (t := (E 2).s) (x := (D 2).x) (y := (E 2).x) (P := Dsm (D 2) (E 2)) (((HR.out 2 (by omega)).below K.out).mono K.out.size) (((HR2.out 2 (by omega)).below K.out).mono K.out.size) (hid Iff.rfl))
      go_wp2_with (first
        | (with_reducible refine wp_pg2 (by kernel_rfl) (.tmp 18) rfl w.heap.size D rfl PD.out ?_)
        | (with_reducible refine wp_pg2 (by kernel_rfl) (.tmp 20) rfl (w.heap.size + 1) E rfl PE.out ?_)
        | fail)
      refine CS.out.mono ?_
      rintro e w2 ⟨r, rfl, Hr, hb⟩
      replace K := hid (K.out.trans (hb.out.mono K.out.size))
      replace PD := hid (PD.out.below hb.out PD.out.lt)
      replace PE := hid (PE.out.below hb.out PE.out.lt)
      clear hb CS
      cases r with
      | false =>
        have Hn := hid (show ¬ P from fun hp => by have := Hr.out.2 (HP.out.1 hp 2 (by omega)); cases this)
        clear Hr
        go_wp2
        go_ret
        exact ⟨false, rfl, ⟨(fun h => by cases h), fun hp => absurd hp Hn.out⟩, K.out⟩
      | true =>
        have H2 := hid (Hr.out.1 (by trivial))
        clear Hr
        have CS := hid (esame_raw (s := (D 3).s) (t := (E 3).s) (x := (D 3).x) (y := (E 3).x) (P := Dsm (D 3) (E 3)) (((HR.out 3 (by omega)).below K.out).mono K.out.size) (((HR2.out 3 (by omega)).below K.out).mono K.out.size) (hid Iff.rfl))
        go_wp2_with (first
          | (with_reducible refine wp_pg3 (by kernel_rfl) (.tmp 25) rfl w.heap.size D rfl PD.out ?_)
          | (with_reducible refine wp_pg3 (by kernel_rfl) (.tmp 27) rfl (w.heap.size + 1) E rfl PE.out ?_)
          | fail)
        refine CS.out.mono ?_
        rintro e w3 ⟨r, rfl, Hr, hb⟩
        replace K := hid (K.out.trans (hb.out.mono K.out.size))
        replace PD := hid (PD.out.below hb.out PD.out.lt)
        replace PE := hid (PE.out.below hb.out PE.out.lt)
        clear hb CS
        cases r with
        | false =>
          have Hn := hid (show ¬ P from fun hp => by have := Hr.out.2 (HP.out.1 hp 3 (by omega)); cases this)
          clear Hr
          go_wp2
          go_ret
          exact ⟨false, rfl, ⟨(fun h => by cases h), fun hp => absurd hp Hn.out⟩, K.out⟩
        | true =>
          have H3 := hid (Hr.out.1 (by trivial))
          clear Hr
          go_wp2
          go_ret
          exact ⟨true, rfl, ⟨fun _ => HP.out.2 (all_of4 (P := fun k => Dsm (D k) (E k)) H0.out H1.out H2.out H3.out), fun _ => rfl⟩, K.out⟩

theorem emsame_val {w : World} {q p : Nat → Prop} {M N : Nat → Int} {D E : Nat → Dy} (h : Mrr w q M D) (h2 : Mrr w p N E) (hq : All4 q) (hp : All4 p) :
    Calls Try.prog 21 #[.agg (mcells D), .agg (mcells E)] w (Says w (∀ k, k < 4 → M k = N k)) := by
  refine emsame_raw h.mrd h2.mrd (hid ?_)
  have key : ∀ k, k < 4 → (M k = N k ↔ Dsm (D k) (E k)) := fun k hk => by
    have a := h k hk
    have b := h2 k hk
    obtain ⟨X, hX, hM⟩ := a.val (hq k hk)
    obtain ⟨Y, hY, hN⟩ := b.val (hp k hk)
    have m1 := a.may.1 (hq k hk)
    have m2 := b.may.1 (hp k hk)
    obtain ⟨X', e1, c1, l1⟩ := may_canon m1 a.rd.out
    obtain ⟨Y', e2, c2, l2⟩ := may_canon m2 b.rd.out
    obtain rfl : X = X' := by omega
    obtain rfl : Y = Y' := by omega
    constructor
    · intro he
      rw [hM, hN] at he
      obtain ⟨hs, hV, hXY⟩ := canon_uniq c1 c2 (by omega) (by omega) he
      have hf := a.rd.same b.rd m1.1.2 m2.1.2 hV
      exact ⟨hs, by rw [hX, hY, hXY], hf.1, hf.2⟩
    · rintro ⟨hs, hx, hn, hf⟩
      obtain rfl : X = Y := by omega
      rw [hM, hN, hs, hn, vl_congr (fun j _ => hf j)]
  exact ⟨fun h0 k hk => (key k hk).1 (h0 k hk), fun h0 k hk => (key k hk).2 (h0 k hk)⟩
theorem emsame_true {w : World} {q p : Nat → Prop} {M N : Nat → Int} {D E : Nat → Dy} (h : Mrr w q M D) (h2 : Mrr w p N E) (hq : All4 q) (hp : All4 p) (he : ∀ k, k < 4 → M k = N k) :
    Calls Try.prog 21 #[.agg (mcells D), .agg (mcells E)] w fun e w' => e = .returned (.bool true) ∧ Hid (Below w.heap.size w w') := by
  refine (emsame_val h h2 hq hp).mono ?_
  rintro e w' ⟨r, rfl, Hr, hb⟩
  obtain rfl : r = true := Hr.out.2 he
  exact ⟨rfl, hb⟩
/-- A mass and its twin. -/
theorem emsame_twin {w w0 : World} {B : Nat} {D R : Nat → Dy} (h : Mrd w w.heap.size D) (ht : ∀ k, k < 4 → Twd B w0 (D k) (R k)) (hr : Mrd w w.heap.size R) :
    Calls Try.prog 21 #[.agg (mcells R), .agg (mcells D)] w fun e w' => e = .returned (.bool true) ∧ Hid (Below w.heap.size w w') := by
  refine (emsame_raw (P := True) hr h (hid ⟨fun _ k hk => ⟨(ht k hk).s, (ht k hk).x, (ht k hk).n, fun j => by rw [(ht k hk).f]⟩, fun _ => trivial⟩)).mono ?_
  rintro e w' ⟨r, rfl, Hr, hb⟩
  obtain rfl : r = true := Hr.out.2 trivial
  exact ⟨rfl, hb⟩

end Go.Proofs.Ytdcolnipdipkhaa
