/- The document's masses: words; May, Check, Same, Twin, Minus. -/
/- The document's masses: Twin, Minus. -/
/- Descriptors as pairs (Id, Stamp): which may be, which is fresher, order, and the best ones. No program is named here. -/
/- The best descriptors, told by what is in them. No program is named here. -/
/- Package desc and the document's: of two descriptors. -/
/- Lists of descriptors in memory; slices.IndexFunc and slices.ContainsFunc over them, Same of both sides, Check of both. -/
/- Lists of descriptors of a call's own; slices.Insert into one. -/
import Derived.Test.YtbankbehfjogpaaVaf
import Derived.Lib.SlBy
import Derived.Lib.SlBy2
import Derived.Test.YtbankbehfjogpaaVaa
import Derived.Test.YtbankbehfjogpaaChecked
import Derived.RegionTactic
import Derived.IntWalk
import Derived.Laws.StructEq
import Derived.BigQuiet
import Derived.Shelf.Abstract
import Derived.Deep.AppendLies
import Derived.Lib.AppendZerosOnto
import Derived.Lib.Overlaps
import Derived.Shelf.RegionOpenPlain
import Derived.Shelf.Spec.SlicesInsert

namespace Go.Proofs.Ytbankbehfjogpaa
open Go.RowKit Go.Shelf

theorem Mbox.range {w : World} {g : Nat} {D : Nat → Dy} (h : Mbox w g D) {k : Nat} (hk : k < 4) : w.rangeAt g (3 * k) [.bool (D k).s, .slice (D k).A (D k).n (D k).c, .int .i64 (D k).x] := fun j v hv => by
  obtain ⟨h0, h1, h2⟩ := h.cell hk
  match j, hv with
  | 0, hv => injection hv with hv; subst hv; exact h0
  | 1, hv => injection hv with hv; subst hv; exact h1
  | 2, hv => injection hv with hv; subst hv; exact h2
  | j + 3, hv => simp at hv
theorem dyad_size_ (d : Dy) : (Try.prog.info? 24).map (·.size) = some [Value.bool d.s, .slice d.A d.n d.c, .int .i64 d.x].length := dyad_size
theorem wp_pl0 {ops : Array Oper} {rest : List Oper} {o : Oper} {a : Act} {w : World} {Q : Exit → Act → World → Prop} (hgd : o.guard = none) (x : Operand) (ho : o.op = .load 24 x)
    (g : Nat) (D : Nat → Dy) (hx : a.eval x = .pointer (some ⟨g, 0, none⟩)) (hg : Mbox w g D) (h : wpList Try.prog ops Q rest (a.put o.dst (.agg #[.bool (D 0).s, .slice (D 0).A (D 0).n (D 0).c, .int .i64 (D 0).x])) w) : wpList Try.prog ops Q (o :: rest) a w :=
  wpList_load_mid hgd _ x ho g 0 hx _ _ (hg.range (k := 0) (by omega)) Try.underlying24 rfl (dyad_size_ (D 0)) h
theorem wp_pg0 {ops : Array Oper} {rest : List Oper} {o : Oper} {a : Act} {w : World} {Q : Exit → Act → World → Prop} (hw : Region.wanted o (yielded ops a.tmps) = true) (x : Operand) (ho : o.op = .load 24 x)
    (g : Nat) (D : Nat → Dy) (hx : a.eval x = .pointer (some ⟨g, 0, none⟩)) (hg : Mbox w g D) (h : wpList Try.prog ops Q rest (a.put o.dst (.agg #[.bool (D 0).s, .slice (D 0).A (D 0).n (D 0).c, .int .i64 (D 0).x])) w) : wpList Try.prog ops Q (o :: rest) a w :=
  wpList_step fun _ hK => by
    rw [if_pos hw]
    exact wp_load_mid _ x ho g 0 hx _ _ (hg.range (k := 0) (by omega)) Try.underlying24 rfl (dyad_size_ (D 0)) (hK _ _ h)
theorem yields_pl0 {ops : Array Oper} {S : World → Prop} {o : Oper} {a : Act} (hw : Region.wanted o (yielded ops a.tmps) = true) (x : Operand) (ho : o.op = .load 24 x)
    (g : Nat) (D : Nat → Dy) (hx : a.eval x = .pointer (some ⟨g, 0, none⟩)) (hS : ∀ w, S w → Mbox w g D) : YieldsIf Try.prog ops S o (.agg #[.bool (D 0).s, .slice (D 0).A (D 0).n (D 0).c, .int .i64 (D 0).x]) a :=
  yieldsIf_load_mid hw _ x ho g 0 hx _ _ (fun w hw => (hS w hw).range (k := 0) (by omega)) Try.underlying24 rfl (dyad_size_ (D 0))
theorem wp_pl1 {ops : Array Oper} {rest : List Oper} {o : Oper} {a : Act} {w : World} {Q : Exit → Act → World → Prop} (hgd : o.guard = none) (x : Operand) (ho : o.op = .load 24 x)
    (g : Nat) (D : Nat → Dy) (hx : a.eval x = .pointer (some ⟨g, 3, none⟩)) (hg : Mbox w g D) (h : wpList Try.prog ops Q rest (a.put o.dst (.agg #[.bool (D 1).s, .slice (D 1).A (D 1).n (D 1).c, .int .i64 (D 1).x])) w) : wpList Try.prog ops Q (o :: rest) a w :=
  wpList_load_mid hgd _ x ho g 3 hx _ _ (hg.range (k := 1) (by omega)) Try.underlying24 rfl (dyad_size_ (D 1)) h
theorem wp_pg1 {ops : Array Oper} {rest : List Oper} {o : Oper} {a : Act} {w : World} {Q : Exit → Act → World → Prop} (hw : Region.wanted o (yielded ops a.tmps) = true) (x : Operand) (ho : o.op = .load 24 x)
    (g : Nat) (D : Nat → Dy) (hx : a.eval x = .pointer (some ⟨g, 3, none⟩)) (hg : Mbox w g D) (h : wpList Try.prog ops Q rest (a.put o.dst (.agg #[.bool (D 1).s, .slice (D 1).A (D 1).n (D 1).c, .int .i64 (D 1).x])) w) : wpList Try.prog ops Q (o :: rest) a w :=
  wpList_step fun _ hK => by
    rw [if_pos hw]
    exact wp_load_mid _ x ho g 3 hx _ _ (hg.range (k := 1) (by omega)) Try.underlying24 rfl (dyad_size_ (D 1)) (hK _ _ h)
theorem yields_pl1 {ops : Array Oper} {S : World → Prop} {o : Oper} {a : Act} (hw : Region.wanted o (yielded ops a.tmps) = true) (x : Operand) (ho : o.op = .load 24 x)
    (g : Nat) (D : Nat → Dy) (hx : a.eval x = .pointer (some ⟨g, 3, none⟩)) (hS : ∀ w, S w → Mbox w g D) : YieldsIf Try.prog ops S o (.agg #[.bool (D 1).s, .slice (D 1).A (D 1).n (D 1).c, .int .i64 (D 1).x]) a :=
  yieldsIf_load_mid hw _ x ho g 3 hx _ _ (fun w hw => (hS w hw).range (k := 1) (by omega)) Try.underlying24 rfl (dyad_size_ (D 1))
theorem wp_pl2 {ops : Array Oper} {rest : List Oper} {o : Oper} {a : Act} {w : World} {Q : Exit → Act → World → Prop} (hgd : o.guard = none) (x : Operand) (ho : o.op = .load 24 x)
    (g : Nat) (D : Nat → Dy) (hx : a.eval x = .pointer (some ⟨g, 6, none⟩)) (hg : Mbox w g D) (h : wpList Try.prog ops Q rest (a.put o.dst (.agg #[.bool (D 2).s, .slice (D 2).A (D 2).n (D 2).c, .int .i64 (D 2).x])) w) : wpList Try.prog ops Q (o :: rest) a w :=
  wpList_load_mid hgd _ x ho g 6 hx _ _ (hg.range (k := 2) (by omega)) Try.underlying24 rfl (dyad_size_ (D 2)) h
theorem wp_pg2 {ops : Array Oper} {rest : List Oper} {o : Oper} {a : Act} {w : World} {Q : Exit → Act → World → Prop} (hw : Region.wanted o (yielded ops a.tmps) = true) (x : Operand) (ho : o.op = .load 24 x)
    (g : Nat) (D : Nat → Dy) (hx : a.eval x = .pointer (some ⟨g, 6, none⟩)) (hg : Mbox w g D) (h : wpList Try.prog ops Q rest (a.put o.dst (.agg #[.bool (D 2).s, .slice (D 2).A (D 2).n (D 2).c, .int .i64 (D 2).x])) w) : wpList Try.prog ops Q (o :: rest) a w :=
  wpList_step fun _ hK => by
    rw [if_pos hw]
    exact wp_load_mid _ x ho g 6 hx _ _ (hg.range (k := 2) (by omega)) Try.underlying24 rfl (dyad_size_ (D 2)) (hK _ _ h)
theorem yields_pl2 {ops : Array Oper} {S : World → Prop} {o : Oper} {a : Act} (hw : Region.wanted o (yielded ops a.tmps) = true) (x : Operand) (ho : o.op = .load 24 x)
    (g : Nat) (D : Nat → Dy) (hx : a.eval x = .pointer (some ⟨g, 6, none⟩)) (hS : ∀ w, S w → Mbox w g D) : YieldsIf Try.prog ops S o (.agg #[.bool (D 2).s, .slice (D 2).A (D 2).n (D 2).c, .int .i64 (D 2).x]) a :=
  yieldsIf_load_mid hw _ x ho g 6 hx _ _ (fun w hw => (hS w hw).range (k := 2) (by omega)) Try.underlying24 rfl (dyad_size_ (D 2))
theorem wp_pl3 {ops : Array Oper} {rest : List Oper} {o : Oper} {a : Act} {w : World} {Q : Exit → Act → World → Prop} (hgd : o.guard = none) (x : Operand) (ho : o.op = .load 24 x)
    (g : Nat) (D : Nat → Dy) (hx : a.eval x = .pointer (some ⟨g, 9, none⟩)) (hg : Mbox w g D) (h : wpList Try.prog ops Q rest (a.put o.dst (.agg #[.bool (D 3).s, .slice (D 3).A (D 3).n (D 3).c, .int .i64 (D 3).x])) w) : wpList Try.prog ops Q (o :: rest) a w :=
  wpList_load_mid hgd _ x ho g 9 hx _ _ (hg.range (k := 3) (by omega)) Try.underlying24 rfl (dyad_size_ (D 3)) h
theorem wp_pg3 {ops : Array Oper} {rest : List Oper} {o : Oper} {a : Act} {w : World} {Q : Exit → Act → World → Prop} (hw : Region.wanted o (yielded ops a.tmps) = true) (x : Operand) (ho : o.op = .load 24 x)
    (g : Nat) (D : Nat → Dy) (hx : a.eval x = .pointer (some ⟨g, 9, none⟩)) (hg : Mbox w g D) (h : wpList Try.prog ops Q rest (a.put o.dst (.agg #[.bool (D 3).s, .slice (D 3).A (D 3).n (D 3).c, .int .i64 (D 3).x])) w) : wpList Try.prog ops Q (o :: rest) a w :=
  wpList_step fun _ hK => by
    rw [if_pos hw]
    exact wp_load_mid _ x ho g 9 hx _ _ (hg.range (k := 3) (by omega)) Try.underlying24 rfl (dyad_size_ (D 3)) (hK _ _ h)
theorem yields_pl3 {ops : Array Oper} {S : World → Prop} {o : Oper} {a : Act} (hw : Region.wanted o (yielded ops a.tmps) = true) (x : Operand) (ho : o.op = .load 24 x)
    (g : Nat) (D : Nat → Dy) (hx : a.eval x = .pointer (some ⟨g, 9, none⟩)) (hS : ∀ w, S w → Mbox w g D) : YieldsIf Try.prog ops S o (.agg #[.bool (D 3).s, .slice (D 3).A (D 3).n (D 3).c, .int .i64 (D 3).x]) a :=
  yieldsIf_load_mid hw _ x ho g 9 hx _ _ (fun w hw => (hS w hw).range (k := 3) (by omega)) Try.underlying24 rfl (dyad_size_ (D 3))
theorem wp1_mstore_ {o : Oper} {a : Act} {w : World} {K : Act → World → Prop} {Q : Exit → Act → World → Prop} (x y : Operand) (ho : o.op = .store 26 x y)
    (g : Nat) (D E : Nat → Dy) (cs : Array Value) (hx : a.eval x = .pointer (some ⟨g, 0, none⟩)) (hy : a.eval y = .agg cs) (he : cs = mcells E) (hg : Mbox w g D) (h : K (a.put o.dst undef) (mstore w g E)) : o.wp Try.prog a w K Q :=
  wp1_mstore x y ho g D E hx (he ▸ hy) hg h
/-- A dyad that is read: it may be just if q; then it is M. -/
structure Drd (w : World) (q : Prop) (M : Int) (d : Dy) : Prop where
  rd : Rd w w.heap.size d.A d.n d.c d.f
  may : q ↔ DMay d.s d.n d.f d.x
  val : q → ∃ X : Nat, d.x = (X : Int) ∧ M = dv d.s (vl d.f d.n) X
theorem Dyr.drd {w : World} {q : Prop} {M : Int} {d : Dy} (h : Dyr w q M d) : Drd w q M d := ⟨h.rd, h.may, h.val⟩
theorem Drd.arg {w : World} {q : Prop} {M : Int} {d : Dy} (h : Drd w q M d) : DArg w q M (dyv d) := ⟨_, _, _, _, _, _, rfl, h.rd, h.may, h.val⟩
theorem Drd.below {w w' : World} {q : Prop} {M : Int} {d : Dy} (h : Drd w q M d) (hb : Below w.heap.size w w') : Drd w' q M d := ⟨(h.rd.below hb).mono hb.size, h.may, h.val⟩
theorem Dv.drd {w : World} {M : Int} {v : Value} (h : Dv w M v) : ∃ d, v = dyv d ∧ Drd w True M d := by
  obtain ⟨s, u, X, V, rfl, hn, hc, hX, hd⟩ := h
  obtain ⟨A, n, c, f, rfl, hr, hf, rfl⟩ := hn
  exact ⟨⟨s, A, n, c, (X : Int), f⟩, rfl, hr, ⟨fun _ => canon_may hf hc hX, fun _ => trivial⟩, fun _ => ⟨X, rfl, hd.symm⟩⟩
/-- A mass that is read. -/
def Mrr (w : World) (q : Nat → Prop) (M : Nat → Int) (D : Nat → Dy) : Prop := ∀ k, k < 4 → Drd w (q k) (M k) (D k)
theorem Mar.mrr {w : World} {q : Nat → Prop} {M : Nat → Int} {D : Nat → Dy} (h : Mar w q M D) : Mrr w q M D := fun k hk => (h k hk).drd
theorem Mrr.below {w w' : World} {q : Nat → Prop} {M : Nat → Int} {D : Nat → Dy} (h : Mrr w q M D) (hb : Below w.heap.size w w') : Mrr w' q M D := fun k hk => (h k hk).below hb
theorem Mrr.mrd {w : World} {q : Nat → Prop} {M : Nat → Int} {D : Nat → Dy} (h : Mrr w q M D) : Mrd w w.heap.size D := fun k hk => (h k hk).rd
theorem Mrr.may {w : World} {q : Nat → Prop} {M : Nat → Int} {D : Nat → Dy} (h : Mrr w q M D) : All4 q ↔ MMay D := ⟨fun ha k hk => (h k hk).may.1 (ha k hk), fun hm k hk => (h k hk).may.2 (hm k hk)⟩
theorem mrr4 {w : World} {q0 q1 q2 q3 : Prop} {M0 M1 M2 M3 : Int} {a b c d : Dy} (h0 : Drd w q0 M0 a) (h1 : Drd w q1 M1 b) (h2 : Drd w q2 M2 c) (h3 : Drd w q3 M3 d) : Mrr w (of4 q0 q1 q2 q3) (of4 M0 M1 M2 M3) (of4 a b c d) :=
  all_of4 (P := fun k => Drd w (of4 q0 q1 q2 q3 k) (of4 M0 M1 M2 M3 k) (of4 a b c d k)) h0 h1 h2 h3
/-- What a call of the document's own hands back that answers a mass and an error. -/
def EMRes (w : World) (E : Int → Prop) (M : Nat → Int) (e : Ending) (w' : World) : Prop := ∃ D er, e = .returned (.tuple #[.agg (mcells D), .int .i64 er]) ∧ Hid (E er) ∧ Hid (Mrr w' (fun _ => True) (resM er M) D) ∧ Hid (Below w.heap.size w w')

end Go.Proofs.Ytbankbehfjogpaa


namespace Go.Proofs.Ytbankbehfjogpaa
open Go.RowKit Go.Shelf

/-- A dyad, its sign turned. -/
def mneg (d : Dy) : Bool := if d.n = 0 then d.s else !d.s
def minusD (d : Dy) : Dy := ⟨mneg d, d.A, d.n, d.c, d.x, d.f⟩
theorem Drd.minus {w : World} {q : Prop} {M : Int} {d : Dy} (h : Drd w q M d) : Drd w q (-M) (minusD d) := by
  refine ⟨h.rd, ?_, fun hq => ?_⟩
  · rw [h.may]
    show DMay d.s d.n d.f d.x ↔ DMay (mneg d) d.n d.f d.x
    by_cases h0 : d.n = 0
    · rw [show mneg d = d.s from if_pos h0]
    · rw [show mneg d = !d.s from if_neg h0]
      exact ⟨fun k => ⟨k.1, k.2.1, k.2.2.1, fun e => absurd e h0, k.2.2.2.2⟩, fun k => ⟨k.1, k.2.1, k.2.2.1, fun e => absurd e h0, k.2.2.2.2⟩⟩
  · obtain ⟨X, hx, hM⟩ := h.val hq
    refine ⟨X, hx, ?_⟩
    show -M = dv (mneg d) (vl d.f d.n) X
    by_cases h0 : d.n = 0
    · rw [show mneg d = d.s from if_pos h0, hM, h0]
      simp [vl, dv, num]
    · rw [show mneg d = !d.s from if_neg h0, hM]
      unfold dv
      rw [num_neg]
end Go.Proofs.Ytbankbehfjogpaa


namespace Go.Proofs.Ytbankbehfjogpaa

/-- An Id and a Stamp. -/
abbrev De := Int × Int
/-- It may not be. -/
def bad (d : De) : Bool := decide (d.1 < 0) || decide (8 ≤ d.1) || decide (d.2 < 0) || decide (2147483647 < d.2)
/-- One is fresher than another one. -/
def fr (a b : De) : Bool := if a.2 = b.2 then decide (a.1 < b.1) else decide (b.2 < a.2)
/-- Ahead of the first one that it is fresher than. -/
def ins (d : De) : List De → List De
  | [] => [d]
  | x :: r => if fr d x then d :: x :: r else x :: ins d r
def srt (l : List De) : List De := l.foldl (fun r d => ins d r) []
def stp (r : List De) (d : De) : List De := if r.any (fun x => x.1 == d.1) then r else r ++ [d]
/-- The first one of each Id. -/
def fsts (l : List De) : List De := l.foldl stp []
/-- The error of a list. -/
def kchk (l : List De) : Int := if 64 < l.length then 4 else if l.any bad then 8 else 0
def orr (l : List De) : List De := if kchk l = 0 then srt l else []
def bst (l : List De) : List De := if kchk l = 0 then fsts (srt l) else []

theorem fr_irrefl (a : De) : fr a a = false := by simp [fr]
theorem fr_asymm {a b : De} (h : fr a b = true) : fr b a = false := by
  unfold fr at *
  split at h <;> split <;> simp at * <;> omega
theorem fr_trans {a b c : De} (h : fr a b = true) (k : fr b c = true) : fr a c = true := by
  unfold fr at *
  split at h <;> split at k <;> split <;> simp at * <;> omega
theorem fr_total {a b : De} (h : fr a b = false) (k : fr b a = false) : a = b := by
  obtain ⟨a1, a2⟩ := a
  obtain ⟨b1, b2⟩ := b
  unfold fr at *
  split at h <;> split at k <;> simp at * <;> omega

/-- Where it is laid. -/
def pos (d : De) (l : List De) : Nat := l.findIdx (fun x => fr d x)
theorem pos_le (d : De) (l : List De) : pos d l ≤ l.length := List.findIdx_le_length
theorem ins_pos (d : De) : ∀ l : List De, ins d l = l.take (pos d l) ++ d :: l.drop (pos d l)
  | [] => rfl
  | x :: r => by
    unfold ins pos
    rw [List.findIdx_cons]
    cases h : fr d x with
    | true => simp
    | false =>
      have := ins_pos d r
      unfold pos at this
      simp [this]
theorem ins_length (d : De) (l : List De) : (ins d l).length = l.length + 1 := by
  have := pos_le d l
  rw [ins_pos]
  simp
  omega
theorem ins_perm (d : De) (l : List De) : (ins d l).Perm (d :: l) := by
  rw [ins_pos]
  refine (List.perm_middle).trans ?_
  rw [List.take_append_drop]

theorem srt_snoc (l : List De) (d : De) : srt (l ++ [d]) = ins d (srt l) := by
  unfold srt
  rw [List.foldl_append]
  rfl
theorem fsts_snoc (l : List De) (d : De) : fsts (l ++ [d]) = stp (fsts l) d := by
  unfold fsts
  rw [List.foldl_append]
  rfl
theorem foldl_ins_perm : ∀ (l r : List De), (l.foldl (fun r d => ins d r) r).Perm (l ++ r)
  | [], r => List.Perm.refl _
  | d :: l, r => by
    rw [List.foldl_cons]
    refine (foldl_ins_perm l _).trans ?_
    refine ((ins_perm d r).append_left l).trans ?_
    exact List.perm_middle
theorem srt_perm (l : List De) : (srt l).Perm l := by
  have := foldl_ins_perm l []
  rwa [List.append_nil] at this
theorem srt_length (l : List De) : (srt l).length = l.length := (srt_perm l).length_eq
theorem mem_srt {l : List De} {d : De} : d ∈ srt l ↔ d ∈ l := (srt_perm l).mem_iff

/-- In order. -/
def Ord (l : List De) : Prop := l.Pairwise (fun a b => fr b a = false)
theorem mem_ins {d x : De} {l : List De} : x ∈ ins d l ↔ x = d ∨ x ∈ l := by
  rw [(ins_perm d l).mem_iff, List.mem_cons]
theorem fr_false_trans {a b c : De} (h : fr b a = false) (k : fr c b = false) : fr c a = false := by
  obtain ⟨a1, a2⟩ := a
  obtain ⟨b1, b2⟩ := b
  obtain ⟨c1, c2⟩ := c
  unfold fr at *
  split at h <;> split at k <;> split <;> simp at * <;> omega
theorem Ord.ins {d : De} : ∀ {l : List De}, Ord l → Ord (ins d l)
  | [], _ => List.pairwise_singleton _ _
  | x :: r, h => by
    unfold Ord at h
    rw [List.pairwise_cons] at h
    unfold Go.Proofs.Ytbankbehfjogpaa.ins
    cases hf : fr d x with
    | true =>
      rw [if_pos rfl]
      have hx := fr_asymm hf
      refine List.pairwise_cons.2 ⟨fun y hy => ?_, List.pairwise_cons.2 h⟩
      rcases List.mem_cons.1 hy with rfl | hy
      · exact hx
      · exact fr_false_trans hx (h.1 y hy)
    | false =>
      rw [if_neg (by simp)]
      refine List.pairwise_cons.2 ⟨fun y hy => ?_, Ord.ins h.2⟩
      rcases mem_ins.1 hy with rfl | hy
      · exact hf
      · exact h.1 y hy
theorem foldl_ord : ∀ (l r : List De), Ord r → Ord (l.foldl (fun r d => Go.Proofs.Ytbankbehfjogpaa.ins d r) r)
  | [], _, h => h
  | _ :: l, _, h => foldl_ord l _ h.ins
theorem srt_ord (l : List De) : Ord (srt l) := foldl_ord l [] List.Pairwise.nil

theorem any_stp (r : List De) (d : De) (i : Int) : (stp r d).any (fun x => x.1 == i) = (r.any (fun x => x.1 == i) || d.1 == i) := by
  unfold stp
  split
  · next h =>
    cases hi : (d.1 == i) with
    | false => simp
    | true =>
      have : d.1 = i := by simpa using hi
      rw [← this, h]
      rfl
  · simp
theorem any_foldl : ∀ (l r : List De) (i : Int), (l.foldl stp r).any (fun x => x.1 == i) = (r.any (fun x => x.1 == i) || l.any (fun x => x.1 == i))
  | [], r, i => by simp
  | d :: l, r, i => by
    rw [List.foldl_cons, any_foldl l, any_stp, List.any_cons, Bool.or_assoc]
theorem any_fsts (l : List De) (i : Int) : (fsts l).any (fun x => x.1 == i) = l.any (fun x => x.1 == i) := by
  unfold fsts
  rw [any_foldl]
  simp
theorem fsts_length_le : ∀ (l r : List De), (l.foldl stp r).length ≤ r.length + l.length
  | [], r => Nat.le_refl _
  | d :: l, r => by
    rw [List.foldl_cons]
    refine Nat.le_trans (fsts_length_le l _) ?_
    unfold stp
    split <;> simp <;> omega

/-- How often it is there. -/
theorem count_perm {l r : List De} (h : l.Perm r) (d : De) : l.count d = r.count d := h.count_eq d

end Go.Proofs.Ytbankbehfjogpaa


namespace Go.Proofs.Ytbankbehfjogpaa

/-- Each one is fresher than all behind it. -/
def Str (l : List De) : Prop := l.Pairwise (fun a b => fr a b = true)
/-- No Id twice. -/
def Ids (l : List De) : Prop := l.Pairwise (fun a b => a.1 ≠ b.1)
theorem stp_sublist (r : List De) (d : De) : (stp r d).Sublist (r ++ [d]) := by
  unfold stp
  split
  · exact List.sublist_append_left _ _
  · exact List.Sublist.refl _
theorem foldl_stp_sublist : ∀ (l r : List De), (l.foldl stp r).Sublist (r ++ l)
  | [], r => by rw [List.append_nil]; exact List.Sublist.refl _
  | d :: l, r => by
    rw [List.foldl_cons]
    refine (foldl_stp_sublist l _).trans ?_
    have := (stp_sublist r d).append (List.Sublist.refl l)
    rwa [List.append_assoc] at this
theorem fsts_sublist (l : List De) : (fsts l).Sublist l := foldl_stp_sublist l []
theorem stp_ids {r : List De} {d : De} (h : Ids r) : Ids (stp r d) := by
  unfold stp
  split
  · exact h
  · next hn =>
    refine List.pairwise_append.2 ⟨h, List.pairwise_singleton _ _, fun a ha b hb => ?_⟩
    rw [List.mem_singleton] at hb
    subst hb
    intro e
    exact hn (List.any_eq_true.2 ⟨a, ha, by simp [e]⟩)
theorem foldl_ids : ∀ (l r : List De), Ids r → Ids (l.foldl stp r)
  | [], _, h => h
  | _ :: l, _, h => foldl_ids l _ (stp_ids h)
theorem fsts_ids (l : List De) : Ids (fsts l) := foldl_ids l [] List.Pairwise.nil
theorem fsts_str {l : List De} (h : Ord l) : Str (fsts l) := by
  have h1 : Ord (fsts l) := h.sublist (fsts_sublist l)
  refine (h1.and (fsts_ids l)).imp ?_
  intro a b hab
  cases hf : fr a b with
  | true => rfl
  | false => exact absurd (congrArg Prod.fst (fr_total hf hab.1)) hab.2
theorem mem_fsts_rev : ∀ r : List De, Ord r.reverse → ∀ d, d ∈ fsts r.reverse ↔ d ∈ r.reverse ∧ ∀ e ∈ r.reverse, e.1 = d.1 → e.2 ≤ d.2
  | [], _, d => by simp [fsts]
  | x :: r, h, d => by
    rw [List.reverse_cons] at h ⊢
    obtain ⟨h1, _, h3⟩ := List.pairwise_append.1 h
    have ih := mem_fsts_rev r h1 d
    rw [fsts_snoc]
    unfold stp
    have hx : ∀ y ∈ r.reverse, fr x y = false := fun y hy => h3 y hy x List.mem_cons_self
    have hx2 : ∀ y ∈ r.reverse, y.1 = x.1 → x.2 ≤ y.2 := fun y hy e => by
      have := hx y hy
      unfold fr at this
      split at this <;> simp at this <;> omega
    rw [any_fsts]
    by_cases hy : r.reverse.any (fun y => y.1 == x.1) = true
    · rw [if_pos hy, ih]
      obtain ⟨y, hy1, hy2⟩ := List.any_eq_true.1 hy
      have hy2 : y.1 = x.1 := by simpa using hy2
      constructor
      · rintro ⟨hd, hall⟩
        refine ⟨List.mem_append_left _ hd, fun e he hid => ?_⟩
        rcases List.mem_append.1 he with he | he
        · exact hall e he hid
        · rw [List.mem_singleton] at he
          subst he
          exact hx2 d hd hid.symm
      · rintro ⟨hd, hall⟩
        have hall' : ∀ e ∈ r.reverse, e.1 = d.1 → e.2 ≤ d.2 := fun e he => hall e (List.mem_append_left _ he)
        refine ⟨?_, hall'⟩
        rcases List.mem_append.1 hd with hd | hd
        · exact hd
        · rw [List.mem_singleton] at hd
          subst hd
          have a := hall' y hy1 hy2
          have b := hx2 y hy1 hy2
          have : d = y := Prod.ext hy2.symm (by omega)
          rw [this]
          exact hy1
    · rw [if_neg hy, List.mem_append, List.mem_singleton, ih]
      have hno : ∀ y ∈ r.reverse, y.1 ≠ x.1 := fun y hy1 e => hy (List.any_eq_true.2 ⟨y, hy1, by simp [e]⟩)
      constructor
      · rintro (⟨hd, hall⟩ | rfl)
        · refine ⟨List.mem_append_left _ hd, fun e he hid => ?_⟩
          rcases List.mem_append.1 he with he | he
          · exact hall e he hid
          · rw [List.mem_singleton] at he
            subst he
            exact absurd hid.symm (hno d hd)
        · refine ⟨List.mem_append_right _ List.mem_cons_self, fun e he hid => ?_⟩
          rcases List.mem_append.1 he with he | he
          · exact absurd hid (hno e he)
          · rw [List.mem_singleton] at he
            subst he
            exact Int.le_refl _
      · rintro ⟨hd, hall⟩
        rcases List.mem_append.1 hd with hd | hd
        · exact .inl ⟨hd, fun e he => hall e (List.mem_append_left _ he)⟩
        · rw [List.mem_singleton] at hd
          exact .inr hd
theorem mem_fsts {l : List De} (h : Ord l) (d : De) : d ∈ fsts l ↔ d ∈ l ∧ ∀ e ∈ l, e.1 = d.1 → e.2 ≤ d.2 := by
  have := mem_fsts_rev l.reverse
  rw [List.reverse_reverse] at this
  exact this h d
/-- The best ones. -/
def top (l : List De) : List De := fsts (srt l)
theorem top_str (l : List De) : Str (top l) := fsts_str (srt_ord l)
theorem top_ids (l : List De) : Ids (top l) := fsts_ids _
theorem mem_top {l : List De} {d : De} : d ∈ top l ↔ d ∈ l ∧ ∀ e ∈ l, e.1 = d.1 → e.2 ≤ d.2 := by
  unfold top
  rw [mem_fsts (srt_ord l)]
  simp only [mem_srt]
theorem top_has {l : List De} {e : De} (h : e ∈ l) : ∃ d ∈ top l, d.1 = e.1 ∧ e.2 ≤ d.2 := by
  have h1 : (top l).any (fun x => x.1 == e.1) = true := by
    unfold top
    rw [any_fsts]
    exact List.any_eq_true.2 ⟨e, mem_srt.2 h, by simp⟩
  obtain ⟨d, hd, hid⟩ := List.any_eq_true.1 h1
  have hid : d.1 = e.1 := by simpa using hid
  exact ⟨d, hd, hid, (mem_top.1 hd).2 e h hid.symm⟩
theorem top_length_le (l : List De) : (top l).length ≤ l.length := by
  have := (fsts_sublist (srt l)).length_le
  rwa [srt_length] at this
theorem Str.nodup {l : List De} (h : Str l) : l.Nodup := h.imp fun {a b} hab e => by
  subst e
  rw [fr_irrefl] at hab
  cases hab
theorem str_ext {l m : List De} (h : Str l) (k : Str m) (hm : ∀ d, d ∈ l ↔ d ∈ m) : l = m :=
  List.Perm.eq_of_pairwise (le := fun a b => fr a b = true) (fun a b _ _ x y => by rw [fr_asymm x] at y; cases y) h k ((List.perm_ext_iff_of_nodup h.nodup k.nodup).2 hm)
theorem top_congr {l m : List De} (h : ∀ d, d ∈ l ↔ d ∈ m) : top l = top m := str_ext (top_str l) (top_str m) fun d => by
  rw [mem_top, mem_top]
  constructor
  · rintro ⟨a, b⟩
    exact ⟨(h d).1 a, fun e he => b e ((h e).2 he)⟩
  · rintro ⟨a, b⟩
    exact ⟨(h d).2 a, fun e he => b e ((h e).1 he)⟩
theorem top_top (l : List De) : top (top l) = top l := str_ext (top_str _) (top_str _) fun d => by
  rw [mem_top]
  constructor
  · exact fun h => h.1
  · exact fun h => ⟨h, fun e he hid => (mem_top.1 h).2 e (mem_top.1 he).1 hid⟩
theorem top_join (l m : List De) : top (top l ++ m) = top (l ++ m) := str_ext (top_str _) (top_str _) fun d => by
  rw [mem_top, mem_top]
  simp only [List.mem_append]
  constructor
  · rintro ⟨a, b⟩
    refine ⟨a.imp (fun h => (mem_top.1 h).1) id, fun e he hid => ?_⟩
    rcases he with he | he
    · obtain ⟨e', h1, h2, h3⟩ := top_has he
      have := b e' (.inl h1) (h2.trans hid)
      omega
    · exact b e (.inr he) hid
  · rintro ⟨a, b⟩
    have hall : ∀ e, e ∈ top l ∨ e ∈ m → e.1 = d.1 → e.2 ≤ d.2 := fun e he hid => b e (he.imp (fun h => (mem_top.1 h).1) id) hid
    refine ⟨?_, hall⟩
    rcases a with a | a
    · exact .inl (mem_top.2 ⟨a, fun e he hid => b e (.inl he) hid⟩)
    · exact .inr a
/-- Of each Id that there is there is just one. -/
theorem top_one {l : List De} {d : De} (h : d ∈ l) : ((top l).filter (fun x => x.1 == d.1)).length = 1 := by
  obtain ⟨e, he, hid, _⟩ := top_has h
  have hn : (((top l).filter (fun x => x.1 == d.1))).Pairwise (fun a b : De => a.1 ≠ b.1) := (top_ids l).sublist List.filter_sublist
  have hm : e ∈ (top l).filter (fun x => x.1 == d.1) := List.mem_filter.2 ⟨he, by simp [hid]⟩
  have hall : ∀ x ∈ (top l).filter (fun x => x.1 == d.1), x.1 = d.1 := fun x hx => by simpa using (List.mem_filter.1 hx).2
  generalize (top l).filter (fun x => x.1 == d.1) = r at hn hm hall
  match r, hn, hm, hall with
  | [_], _, _, _ => rfl
  | a :: b :: r, hn, _, hall =>
    have h1 := (List.pairwise_cons.1 hn).1 b List.mem_cons_self
    exact absurd ((hall a List.mem_cons_self).trans (hall b (List.mem_cons_of_mem _ List.mem_cons_self)).symm) h1
/-- The error counts descriptors and looks whether all may be. -/
theorem chk_zero {l : List De} : kchk l = 0 ↔ l.length ≤ 64 ∧ l.any bad = false := by
  unfold kchk
  split
  · constructor
    · intro h; cases h
    · intro h; omega
  · split
    · next h => constructor
                · intro h0; cases h0
                · rintro ⟨_, h0⟩; rw [h] at h0; cases h0
    · next h1 h => exact ⟨fun _ => ⟨by omega, by simpa using h⟩, fun _ => rfl⟩
theorem any_bad_mem {l m : List De} (h : ∀ d, d ∈ l → d ∈ m) (k : m.any bad = false) : l.any bad = false := by
  rw [List.any_eq_false] at k ⊢
  exact fun d hd => k d (h d hd)
end Go.Proofs.Ytbankbehfjogpaa


namespace Go.Proofs.Ytbankbehfjogpaa
set_option maxRecDepth 100000
open Go.RowKit

/-- A descriptor's value, and its cells. -/
def kdv (d : De) : Value := .agg #[.int .i64 d.1, .int .i64 d.2]
def enc (d : De) : List Value := [.int .i64 d.1, .int .i64 d.2]

theorem bad1_any (a : De) (w : World) :
    Calls Try.prog 82 #[kdv a] w fun e w' => e = .returned (.bool (bad a)) ∧ Hid (Below w.heap.size w w') := by
  obtain ⟨a1, a2⟩ := a
  have HB := hid ((Below.refl _ w).alloc (Nat.le_refl _) (.cells #[.int .i64 a1, .int .i64 a2] 86))
  show Calls Try.prog 82 #[.agg #[.int .i64 a1, .int .i64 a2]] w _
  have hb : bad (a1, a2) = (decide (a1 < 0) || decide (8 ≤ a1) || decide (a2 < 0) || decide (2147483647 < a2)) := rfl
  rw [hb]
  by_cases h1 : a1 < 0
  · go_enter Try.func82, Try.ntmps82
    go_wp2
    go_ret
    exact ⟨by (simp; try omega), HB⟩
  by_cases h2 : 8 ≤ a1
  · go_enter Try.func82, Try.ntmps82
    go_wp2
    go_ret
    exact ⟨by (simp; try omega), HB⟩
  by_cases h3 : a2 < 0
  · go_enter Try.func82, Try.ntmps82
    go_wp2
    go_ret
    exact ⟨by (simp; try omega), HB⟩
  · go_enter Try.func82, Try.ntmps82
    go_wp2
    go_ret
    exact ⟨by (simp; try omega), HB⟩

end Go.Proofs.Ytbankbehfjogpaa


namespace Go.Proofs.Ytbankbehfjogpaa
set_option maxRecDepth 100000
open Go.RowKit Go.Shelf

/-- The slice value '.slice A n c' reads, in the world w, as the descriptors l, below block B. -/
structure Ds (w : World) (B : Nat) (A : Option Addr) (n c : Nat) (l : List De) : Prop where
  len : l.length = n
  cap : n ≤ c
  max : n ≤ 140737488355328
  nil : A = none → n = 0 ∧ c = 0
  at_ : 0 < n → ∃ b off, A = some ⟨b, off, none⟩ ∧ b < B ∧ ∀ (j : Nat) (d : De), l[j]? = some d → w.cell? ⟨b, off + j * 2, none⟩ = some (.int .i64 d.1) ∧ w.cell? ⟨b, off + j * 2 + 1, none⟩ = some (.int .i64 d.2)

section
variable {w w' : World} {B n c : Nat} {A : Option Addr} {l : List De}
theorem Ds.below (h : Ds w B A n c l) (hb : Below B w w') : Ds w' B A n c l :=
  ⟨h.len, h.cap, h.max, h.nil, fun hn => by
    obtain ⟨b, off, rfl, hB, hc⟩ := h.at_ hn
    exact ⟨b, off, rfl, hB, fun j d hj => ⟨(hb.cell (p := ⟨b, off + j * 2, none⟩) hB).trans (hc j d hj).1, (hb.cell (p := ⟨b, off + j * 2 + 1, none⟩) hB).trans (hc j d hj).2⟩⟩⟩
theorem Ds.mono {B' : Nat} (h : Ds w B A n c l) (hb : B ≤ B') : Ds w B' A n c l :=
  ⟨h.len, h.cap, h.max, h.nil, fun hn => by
    obtain ⟨b, off, rfl, hB, hc⟩ := h.at_ hn
    exact ⟨b, off, rfl, by omega, hc⟩⟩
theorem Ds.nil' (w : World) (B : Nat) : Ds w B none 0 0 [] := ⟨rfl, Nat.le_refl _, by omega, fun _ => ⟨rfl, rfl⟩, fun h => absurd h (by omega)⟩
theorem Ds.get (h : Ds w B A n c l) {k : Nat} (hk : k < n) : ∃ d, l[k]? = some d := ⟨l[k]'(by rw [h.len]; exact hk), List.getElem?_eq_getElem _⟩
end

/-- The first place at which p holds, or -1. -/
def idx (p : De → Bool) (l : List De) : Int := if l.findIdx p < l.length then ((l.findIdx p : Nat) : Int) else -1
theorem idx_hit {p : De → Bool} {l : List De} {k : Nat} {d : De} (hd : l[k]? = some d) (hp : p d = true) (hn : ∀ j e, j < k → l[j]? = some e → p e = false) : idx p l = k := by
  obtain ⟨hk, rfl⟩ := List.getElem?_eq_some_iff.1 hd
  have : l.findIdx p = k := by
    rw [List.findIdx_eq hk]
    exact ⟨hp, fun j hj => by
      have := hn j _ hj (List.getElem?_eq_getElem (by omega))
      simpa using this⟩
  unfold idx
  rw [this, if_pos hk]
theorem idx_miss {p : De → Bool} {l : List De} (hn : ∀ (j : Nat) e, l[j]? = some e → p e = false) : idx p l = -1 := by
  have : l.findIdx p = l.length := by
    rw [List.findIdx_eq_length]
    intro x hx
    obtain ⟨j, hj⟩ := List.mem_iff_getElem?.1 hx
    exact hn j x hj
  unfold idx
  rw [this, if_neg (by omega)]
theorem idx_any (p : De → Bool) (l : List De) : decide (0 ≤ idx p l) = l.any p := by
  unfold idx
  rw [Bool.eq_iff_iff]
  split
  · next h =>
    rw [List.findIdx_lt_length] at h
    simp only [List.any_eq_true]
    simpa using h
  · next h =>
    rw [List.findIdx_lt_length] at h
    simp only [List.any_eq_true]
    constructor
    · intro h0; simp at h0
    · intro h0; exact absurd h0 h

set_option maxHeartbeats 1600000 in
theorem index_any (p : De → Bool) (g : Nat) (lb : Array Value) (eg : ∀ args w, (callFunc g args).run Try.prog w = .ok (.enter g args) w) {w : World} {B n c : Nat} {A : Option Addr} {l : List De} (h : Ds w B A n c l) (hB : B ≤ w.heap.size)
    (hp : ∀ (W : World) (x : De), Below w.heap.size w W → Calls Try.prog g (#[kdv x] ++ lb) W fun e w' => e = .returned (.bool (p x)) ∧ Hid (Below W.heap.size W w')) :
    Calls Try.prog 84 #[.slice A n c, .func (.func g) #[] lb] w fun e w' => e = .returned (.int .i64 (idx p l)) ∧ Hid (Below w.heap.size w w') := by
  have H := hid (h.mono hB)
  have hm := h.max
  have hcap := h.cap
  have HP := hid hp
  clear h hp
  go_enter Try.func84, Try.ntmps84
  go_wp2
  go_loopg [5, 8] n (fun gg _ s8 wr => ∃ kk : Nat, kk ≤ n ∧ n - kk ≤ gg ∧ s8 = .int .i64 kk ∧ Hid (Below w.heap.size w wr) ∧ Hid (∀ j e, j < kk → l[j]? = some e → p e = false))
  case atStart => exact ⟨0, Nat.zero_le _, by omega, rfl, hid (Below.refl _ w), hid (fun j _ hj => absurd hj (Nat.not_lt_zero _))⟩
  case round =>
    obtain ⟨kk, hkk, hg, rfl, BW, HA⟩ := hrel
    by_cases hlt : kk < n
    · have hltz : (kk : Int) < (n : Int) := by omega
      obtain ⟨d, hd⟩ := H.out.get hlt
      obtain ⟨b, off, rfl, _, hc⟩ := (H.out.below BW.out).at_ (by omega)
      obtain ⟨c1, c2⟩ := hc kk d hd
      have HC := hid (HP.out wr d BW.out)
      have Hd := hid hd
      clear hc hd
      obtain ⟨d1, d2⟩ := d
      change wr.cell? ⟨b, off + kk * 2, none⟩ = some (.int .i64 d1) at c1
      change wr.cell? ⟨b, off + kk * 2 + 1, none⟩ = some (.int .i64 d2) at c2
      cases hq : p (d1, d2) with
      | true =>
        rw [hq] at HC
        go_wp2_with fail
        refine HC.out.mono ?_
        rintro e w' ⟨rfl, hb⟩
        go_wp2
        go_ret
        refine ⟨?_, hid (BW.out.trans (hb.out.mono BW.out.size))⟩
        rw [idx_hit Hd.out hq HA.out]
        rfl
      | false =>
        rw [hq] at HC
        go_wp2_with fail
        refine HC.out.mono ?_
        rintro e w' ⟨rfl, hb⟩
        go_wp2
        go_roundg (n - (kk + 1))
        case measure => omega
        case rel =>
          refine ⟨kk + 1, by omega, by omega, by go_num, hid (BW.out.trans (hb.out.mono BW.out.size)), hid (fun j e hj he => ?_)⟩
          by_cases hjk : j = kk
          · subst hjk
            rw [Hd.out] at he
            injection he with he
            rw [← he]
            exact hq
          · exact HA.out j e (by omega) he
    · have hltz : ¬ (kk : Int) < (n : Int) := by omega
      obtain rfl : kk = n := by omega
      go_wp2
      go_ret
      refine ⟨?_, BW⟩
      rw [idx_miss (fun j e he => HA.out j e (by have := (List.getElem?_eq_some_iff.1 he).1; rw [H.out.len] at this; exact this) he)]
      rfl

set_option maxHeartbeats 1600000 in
theorem anyBad_any {w : World} {B n c : Nat} {A : Option Addr} {l : List De} (h : Ds w B A n c l) (hB : B ≤ w.heap.size) :
    Calls Try.prog 67 #[.slice A n c] w fun e w' => e = .returned (.bool (l.any bad)) ∧ Hid (Below w.heap.size w w') := by
  have HC := hid (index_any bad 82 #[] (enters_of Try.func82 (by kernel_rfl) rfl) h hB (fun W x _ => bad1_any x W))
  have hi := idx_any bad l
  generalize l.any bad = r at hi ⊢
  clear h
  go_enter Try.func67, Try.ntmps67
  go_wp2_with (first
    | (go_at_call 84; refine HC.out.mono ?_; rintro e w' ⟨rfl, hb⟩)
    | go_in)
  go_ret
  exact ⟨by rw [← hi]; rfl, hb⟩

theorem kcheck_any {w : World} {B n c : Nat} {A : Option Addr} {l : List De} (h : Ds w B A n c l) (hB : B ≤ w.heap.size) :
    Calls Try.prog 40 #[.slice A n c] w fun e w' => e = .returned (.int .i64 (kchk l)) ∧ Hid (Below w.heap.size w w') := by
  have HC := hid (anyBad_any h hB)
  have hlen := h.len
  have hm := h.max
  clear h
  by_cases hn : 64 < n
  · have hc : kchk l = 4 := by unfold kchk; rw [if_pos (by omega)]
    rw [hc]
    go_enter Try.func40, Try.ntmps40
    go_wp2_with fail
    go_ret
    exact ⟨rfl, hid (Below.refl _ _)⟩
  · have hc : kchk l = if l.any bad then 8 else 0 := by unfold kchk; rw [if_neg (by omega)]
    rw [hc]
    generalize l.any bad = r at HC ⊢
    cases r with
    | true =>
      go_enter Try.func40, Try.ntmps40
      go_wp2_with (go_at_call 67; refine HC.out.mono ?_; rintro e w' ⟨rfl, hb⟩)
      go_ret; exact ⟨rfl, hb⟩
    | false =>
      go_enter Try.func40, Try.ntmps40
      go_wp2_with (go_at_call 67; refine HC.out.mono ?_; rintro e w' ⟨rfl, hb⟩)
      go_ret; exact ⟨rfl, hb⟩

end Go.Proofs.Ytbankbehfjogpaa


namespace Go.Proofs.Ytbankbehfjogpaa
open Go.RowKit Go.Shelf

/-- The cells of descriptors. -/
def cellsD (l : List De) : List Value := l.flatMap enc
theorem cellsD_length : ∀ l : List De, (cellsD l).length = l.length * 2
  | [] => rfl
  | d :: l => by
    have := cellsD_length l
    unfold cellsD at *
    rw [List.flatMap_cons, List.length_append, this, List.length_cons]
    show 2 + _ = _
    omega
theorem cellsD_append (l m : List De) : cellsD (l ++ m) = cellsD l ++ cellsD m := List.flatMap_append
theorem cellsD_cons (d : De) (l : List De) : cellsD (d :: l) = enc d ++ cellsD l := List.flatMap_cons
theorem cellsD_one (d : De) : cellsD [d] = enc d := by rw [cellsD_cons]; rfl
theorem cellsD_get : ∀ {l : List De} {j : Nat} {d : De}, l[j]? = some d → (cellsD l)[j * 2]? = some (.int .i64 d.1) ∧ (cellsD l)[j * 2 + 1]? = some (.int .i64 d.2)
  | [], _, _, h => by simp at h
  | x :: l, 0, d, h => by
    obtain rfl : x = d := by simpa using h
    exact ⟨rfl, rfl⟩
  | x :: l, j + 1, d, h => by
    have := cellsD_get (l := l) (j := j) (d := d) (by simpa using h)
    rw [cellsD_cons]
    have e : (j + 1) * 2 = j * 2 + 2 := by omega
    rw [e]
    exact this
theorem cellsD_take (l : List De) (k : Nat) : (cellsD l).take (k * 2) = cellsD (l.take k) := by
  rcases Nat.le_total k l.length with h | h
  · have h1 : cellsD l = cellsD (l.take k) ++ cellsD (l.drop k) := by rw [← cellsD_append, List.take_append_drop]
    rw [h1, List.take_append_of_le_length (by rw [cellsD_length, List.length_take]; omega), List.take_of_length_le (by rw [cellsD_length, List.length_take]; omega)]
  · rw [List.take_of_length_le h, List.take_of_length_le (by rw [cellsD_length]; omega)]
theorem cellsD_drop (l : List De) (k : Nat) : (cellsD l).drop (k * 2) = cellsD (l.drop k) := by
  rcases Nat.le_total k l.length with h | h
  · have h1 : cellsD l = cellsD (l.take k) ++ cellsD (l.drop k) := by rw [← cellsD_append, List.take_append_drop]
    rw [h1, List.drop_append_of_le_length (by rw [cellsD_length, List.length_take]; omega), List.drop_of_length_le (by rw [cellsD_length, List.length_take]; omega), List.nil_append]
  · rw [List.drop_of_length_le h, List.drop_of_length_le (by rw [cellsD_length]; omega)]
    rfl
theorem cellsD_one_cell (l : List De) : ∀ v ∈ cellsD l, v.oneCell' = true := by
  intro v hv
  obtain ⟨d, _, h⟩ := List.mem_flatMap.1 hv
  simp [enc] at h
  rcases h with rfl | rfl <;> rfl

/-- The value v is a slice of the call's own, from block B on, that holds l. -/
structure Od (w : World) (B : Nat) (v : Value) (l : List De) : Prop where
  own : w.ownsRow B 86 2 v l.length (cellsD l)
  max : l.length ≤ 100000

theorem Od.nil (w : World) (B : Nat) : Od w B (.slice none 0 0) [] := ⟨World.ownsRow_nil w B _ _, by simp⟩
theorem Od.kept {w w' : World} {B : Nat} {v : Value} {l : List De} {row : Option Nat} (h : Od w B v l) (hg : w.grownBy w' row) (hne : v.ownBlock = none ∨ v.ownBlock ≠ row) : Od w' B v l := ⟨h.own.kept hg hne, h.max⟩
theorem below_grown {w w' : World} (h : Below w.heap.size w w') : w.grownBy w' none := ⟨h.os, h.tape, h.output, h.size, fun k hk _ => h.block k hk⟩
theorem Od.below {w w' : World} {B : Nat} {v : Value} {l : List De} (h : Od w B v l) (hb : Below w.heap.size w w') : Od w' B v l := h.kept (below_grown hb) (by cases v.ownBlock <;> simp)
theorem Od.form {w : World} {B : Nat} {v : Value} {l : List De} (h : Od w B v l) : ∃ A c, v = .slice A l.length c ∧ Ds w w.heap.size A l.length c l ∧ c ≤ maxLen ∧ (∀ k, v.ownBlock = some k ↔ A = some ⟨k, 0, none⟩) := by
  obtain ⟨⟨hl, hor⟩, hm⟩ := h
  rcases hor with ⟨rfl, h0⟩ | ⟨g, cap, cur, rfl, hB, hg, hn, hc, hs, ht⟩
  · refine ⟨none, 0, by rw [h0], ?_, by unfold maxLen; omega, fun k => by simp [Value.ownBlock]⟩
    obtain rfl := List.length_eq_zero_iff.1 h0
    exact Ds.nil' w _
  · refine ⟨some ⟨g, 0, none⟩, cap, rfl, ⟨rfl, hn, by omega, fun e => (by cases e), fun _ => ⟨g, 0, rfl, lt_of_heap hg, fun j d hj => ?_⟩⟩, hc, fun k => by simp [Value.ownBlock]⟩
    have hj2 := (List.getElem?_eq_some_iff.1 hj).1
    obtain ⟨e1, e2⟩ := cellsD_get hj
    rw [← ht, List.getElem?_take] at e1 e2
    rw [if_pos (by omega)] at e1 e2
    rw [cell_of_row w g _ cur _ (0, 0) hg, cell_of_row w g _ cur _ (0, 0) hg, Nat.zero_add]
    exact ⟨by simpa using e1, by simpa using e2⟩

theorem infoD : (Try.prog.info? 86).map (fun i => (i.zero, i.size, i.bytes)) = some (some (.agg #[.int .i64 0, .int .i64 0]), 2, 16) := by kernel_rfl

/-- copy onto a row that is known whole, of elements of k cells. -/
theorem run_copy_rowk {P : Program} (w : World) (dT sT ty elem : TypeId) (k g o dLen dCap : Nat) (a : Addr) (sLen sCap : Nat) (cur : Array Value) (t : TypeId) (cs : List Value)
    (hu : P.underlying dT = some (.slice elem)) (hs : (P.info? elem).map (·.size) = some k)
    (hg : w.heap[g]? = some (.cells cur t (0, 0))) (hn : cs.length = Nat.min sLen dLen * k)
    (hsrc : ∀ j v, cs[j]? = some v → w.cell? (a.add j) = some v) (hfit : o + cs.length ≤ cur.size) (h1 : ∀ v ∈ cs, v.oneCell' = true) :
    (Builtin.copy_ #[dT, sT] ty #[.slice (some ⟨g, o, none⟩) dLen dCap, .slice (some a) sLen sCap]).run P w =
      .ok (goInt (Nat.min sLen dLen)) (w.setRow g (cur.toList.take o ++ cs ++ cur.toList.drop (o + cs.length)).toArray) := by
  have hl := run_loadCells_list (P := P) w a cs hsrc
  have hst := run_storeCells_at P g o t cs 0 cur w hg (by simpa using hfit) h1
  cases hq : P.info? elem with
  | none => simp [hq] at hs
  | some i =>
    have hi : i.size = k := by simpa [hq] using hs
    simp [Builtin.copy_, run_underlying hu, Builtin.lenOf, Builtin.firstCells, sizeOf, typeInfo, hq, hi, ← hn, hl, hst]
end Go.Proofs.Ytbankbehfjogpaa

