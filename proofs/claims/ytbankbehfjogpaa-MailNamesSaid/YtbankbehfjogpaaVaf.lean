/- The document's dyads: May, Same, Twin, Minus; what is spoilt. -/
/- slices.Clone over limbs; dyad.Twin. -/
/- Package mass: Twin. -/
/- Package mass: halved. -/
/- Package mass: pairs. -/
/- Package mass: joined, over dyad.Add and over dyad.Sub. -/
/- Package mass: Same. -/
/- Package mass: Add, Sub. -/
/- Package mass: Split. -/
import Derived.Test.YtbankbehfjogpaaVac
import Derived.Test.YtbankbehfjogpaaVae
import Derived.Test.YtbankbehfjogpaaVad

namespace Go.Proofs.Ytbankbehfjogpaa
open Go.RowKit

/-- A dyad that may be, and is M. -/
def Dv (w : World) (M : Int) (d : Value) : Prop := ∃ s v x V, d = .agg #[.bool s, v, .int .i64 ((x : Nat) : Int)] ∧ Val w V v ∧ Canon s V x ∧ x ≤ 1024 ∧ dv s V x = M
theorem Dn.dv {B : Nat} {w : World} {M : Int} {d : Value} (h : Dn B w M d) : Dv w M d := by
  obtain ⟨s, v, x, V, hd, hn, hc, hx, hM⟩ := h
  exact ⟨s, v, x, V, hd, hn.val, hc, hx, hM⟩
theorem Dv.below {w w' : World} {M : Int} {d : Value} (h : Dv w M d) (hb : Below w.heap.size w w') : Dv w' M d := by
  obtain ⟨s, v, x, V, hd, hn, hc, hx, hM⟩ := h
  exact ⟨s, v, x, V, hd, hn.below hb, hc, hx, hM⟩
theorem Dv.parts {w : World} {M : Int} {d : Value} (h : Dv w M d) : ∃ s A n c x, d = .agg #[.bool s, .slice A n c, .int .i64 x] := by
  obtain ⟨s, u, X, V, rfl, hn, _⟩ := h
  obtain ⟨A, n, c, rfl⟩ := hn.shape
  exact ⟨s, A, n, c, _, rfl⟩
theorem Dv.arg {w : World} {M : Int} {v : Value} (h : Dv w M v) : DArg w True M v := by
  obtain ⟨s, u, X, V, rfl, hn, hc, hX, hd⟩ := h
  obtain ⟨A, n, c, f, rfl, hr, hf, rfl⟩ := hn
  exact ⟨s, A, n, c, f, _, rfl, hr, ⟨fun _ => canon_may hf hc hX, fun _ => trivial⟩, fun _ => ⟨X, rfl, hd.symm⟩⟩
theorem Dv.zero (w : World) : Dv w 0 (.agg #[.bool false, .slice none 0 0, .int .i64 0]) := (Dn.zero 0 w).dv
theorem Mk.far {w : World} {e : TypeId} {B g n c : Nat} {A : Option Addr} {f : Nat → Nat} (h : Mk w e B A n c f) (hg : g < B) (j : Nat) (u : Value) : Mk (w.setCell ⟨g, j, none⟩ u) e B A n c f :=
  ⟨h.cap, h.max, h.lt, h.out, by
    rcases h.own with h0 | ⟨b, cs, hA, hB, hh, hs, hc⟩
    · exact .inl h0
    · exact .inr ⟨b, cs, hA, hB, (Below.heap_setCell w ⟨g, j, none⟩ u b (by show b ≠ g; omega)).trans hh, hs, hc⟩⟩
theorem Mk.put3 {w : World} {e : TypeId} {B g n c : Nat} {A : Option Addr} {f : Nat → Nat} {s : Bool} {u : Value} {x : Int} (h : Mk w e B A n c f) (hg : g < B) : Mk (put3 w g s u x) e B A n c f := ((h.far hg 0 _).far hg 1 _).far hg 2 _
theorem Dbox.set1 {w : World} {g : Nat} {s : Bool} {v : Value} {x : Int} (h : Dbox w g s v x) (u : Value) : Dbox (w.setCell ⟨g, 1, none⟩ u) g s u x := heap_setCell_same w g 1 _ _ u h
theorem Dbox.set0 {w : World} {g : Nat} {s : Bool} {v : Value} {x : Int} (h : Dbox w g s v x) (t : Bool) : Dbox (w.setCell ⟨g, 0, none⟩ (.bool t)) g t v x := heap_setCell_same w g 0 _ _ (.bool t) h
theorem Dbox.far {w : World} {g k : Nat} {s : Bool} {v : Value} {x : Int} (h : Dbox w g s v x) (hk : g ≠ k) (j : Nat) (u : Value) : Dbox (w.setCell ⟨k, j, none⟩ u) g s v x := (Below.heap_setCell w ⟨k, j, none⟩ u g hk).trans h
/-- A row of the call's own, its cells the limbs f. -/
theorem mk_of_row {w : World} {B n : Nat} {v : Value} {f : Nat → Nat} (h : w.ownsRow B 34 1 v n ((List.range n).map fun j => Value.int .u32 (f j : Int))) (hmax : n ≤ 140737488355328) (hlt : ∀ j, f j < 4294967296) (hout : ∀ j, n ≤ j → f j = 0) :
    ∃ A c, v = .slice A n c ∧ Mk w 34 B A n c f := by
  obtain ⟨_, hor⟩ := h
  rcases hor with ⟨rfl, rfl⟩ | ⟨g, cap, cur, rfl, hg, hh, hn, hc, hs, ht⟩
  · exact ⟨none, 0, rfl, ⟨Nat.le_refl _, hmax, hlt, hout, .inl ⟨rfl, rfl, rfl⟩⟩⟩
  · refine ⟨some ⟨g, 0, none⟩, cap, rfl, ⟨hn, hmax, hlt, hout, .inr ⟨g, cur, rfl, hg, hh, by omega, fun j hj => ?_⟩⟩⟩
    rw [← Array.getElem?_toList]
    have e : ((List.range n).map fun j => Value.int .u32 (f j : Int))[j]? = some (.int .u32 (f j : Int)) := by simp [hj]
    rw [← ht, List.getElem?_take, Nat.mul_one, if_pos hj] at e
    exact e

/-- Limbs stay when a dyad's block is written. -/
theorem Rd.stay {w : World} {n c g : Nat} {A : Option Addr} {f : Nat → Nat} {s t : Bool} {D : Option Addr} {m d : Nat} {x y : Int} {u : Value} (h : Rd w w.heap.size A n c f) (hg : Dbox w g s (.slice D m d) x) : Rd (put3 w g t u y) (put3 w g t u y).heap.size A n c f := by
  refine ⟨h.cap, h.max, h.lt, h.out, fun hn => ?_⟩
  obtain ⟨b, off, rfl, hB, hc⟩ := h.at_ hn
  have hne : b ≠ g := by
    rintro rfl
    have h0 := hc 0 hn
    rw [Nat.add_zero, cell_of_row w b off _ _ (0, 0) hg] at h0
    match off, h0 with
    | 0, h0 => simp at h0
    | 1, h0 => simp at h0
    | 2, h0 => simp at h0
    | k + 3, h0 => simp at h0
  refine ⟨b, off, rfl, by simpa [put3, World.setCell] using hB, fun j hj => ?_⟩
  rw [← hc j hj]
  exact World.cell?_of_block ((Below.heap_setCell _ ⟨g, 2, none⟩ _ b hne).trans ((Below.heap_setCell _ ⟨g, 1, none⟩ _ b hne).trans (Below.heap_setCell w ⟨g, 0, none⟩ _ b hne)))

end Go.Proofs.Ytbankbehfjogpaa


namespace Go.Proofs.Ytbankbehfjogpaa
open Go.RowKit

end Go.Proofs.Ytbankbehfjogpaa


namespace Go.Proofs.Ytbankbehfjogpaa
set_option maxRecDepth 100000
open Go.RowKit Go.Shelf
attribute [local go_sem] Oper.semAt_some

theorem fst4_pre {s : List (Idx 4)} (h : s.map (·.1) = fst 4) : s.length = 4 := by
  have e := congrArg List.length h
  rwa [List.length_map, fst_length] at e
/-- What the loop keeps: the parts that were gone through are twins. -/
def TwI (w : World) (M : Nat → Dy) (Z : Nat) (pre : List (Idx 4)) (X : World) : Prop :=
  Mbox X (w.heap.size + 1) D0 ∧ Below w.heap.size w X ∧ ∃ R, Mbox X w.heap.size R ∧ (∀ k, k < 4 → k < pre.length → Twd Z X (M k) (R k)) ∧ ∀ k, k < 4 → ¬ k < pre.length → R k = M k

theorem mcells_at {w : World} {g : Nat} {M : Nat → Dy} (h : Mbox w g M) {k : Nat} (hk : k < 4) {m : Dy} (hm : M k = m) : w.cell? ⟨g, 3 * k, none⟩ = some (.bool m.s) ∧ w.cell? ⟨g, 3 * k + 1, none⟩ = some (.slice m.A m.n m.c) ∧ w.cell? ⟨g, 3 * k + 2, none⟩ = some (.int .i64 m.x) := by
  subst hm
  exact h.cell hk

end Go.Proofs.Ytbankbehfjogpaa


namespace Go.Proofs.Ytbankbehfjogpaa
set_option maxRecDepth 100000
open Go.RowKit Go.Shelf
attribute [local go_sem] Oper.semAt_some

/-- What the loop keeps: the parts that were gone through are halves; and where it returns. -/
def HaI (w : World) (H : Nat → Int) (D : Nat → Dy) (Z : Nat) (pre : List (Idx 4)) (X : World) : Prop :=
  Mbox X (w.heap.size + 1) D0 ∧ Boxed X (w.heap.size + 2) 35 (.int .i64 0) ∧ Below w.heap.size w X ∧
    ∃ R, Mbox X w.heap.size R ∧ (∀ k, k < 4 → k < pre.length → Owd Z X (H k) (R k) ∧ Okay (H k)) ∧ ∀ k, k < 4 → ¬ k < pre.length → R k = D k
def HaX (w : World) (H : Nat → Int) (X : World) : Prop := Mbox X (w.heap.size + 1) D0 ∧ Boxed X (w.heap.size + 2) 35 (.int .i64 10) ∧ Below w.heap.size w X ∧ ∃ k, k < 4 ∧ ¬ Okay (H k)

end Go.Proofs.Ytbankbehfjogpaa


namespace Go.Proofs.Ytbankbehfjogpaa
set_option maxRecDepth 100000
open Go.RowKit Go.Shelf
attribute [local go_sem] Oper.semAt_some

set_option maxRecDepth 100000 in
set_option maxHeartbeats 4000000 in
theorem pairs1_in (n : Nat) (hn : 1 ≤ n) (l Bs Bt g h : Nat) (R : World → World → Prop) (J Jx : List (Idx 4) → World → Prop)
    (hdr : ∀ W W' m, R W W' → R W (W'.drewN m)) (htr : ∀ W W' W'', R W W' → R W' W'' → R W W'')
    (hRa : ∀ W W' o, R W W' → R W (W'.alloc o)) (hJa : ∀ pre W o, J pre W → J pre (W.alloc o))
    (hJd : ∀ pre W m, J pre W → J pre (W.drewN m))
    (hY : ∀ pre x W, J pre W → Pre4 (pre ++ [x]) → YieldAt Fence.wide (n - 1) Try.prog l #[pptr g x.1, pptr h x.1] W fun e W' =>
      (e = .returned (.bool true) ∧ J (pre ++ [x]) W' ∧ R W W') ∨ (e = .returned (.bool false) ∧ Jx (pre ++ [x]) W'))
    (W : World) (hR0 : R W W) (hBs : W.cell? ⟨Bs, 0, none⟩ = some (.pointer (some ⟨g, 0, none⟩))) (hBt : W.cell? ⟨Bt, 0, none⟩ = some (.pointer (some ⟨h, 0, none⟩))) (h0 : J [] W) :
    CallsIn Fence.wide n Try.prog 76 #[.func (.yield l) #[] #[], .pointer (some ⟨Bs, 0, none⟩), .pointer (some ⟨Bt, 0, none⟩)] W fun e W' => (∃ v, e = .returned v) ∧
      ((∃ ys : List (Idx 4), ys.map (·.1) = fst 4 ∧ J ys W') ∨ (∃ pre : List (Idx 4), (∃ k, k ≤ 4 ∧ pre.map (·.1) = fst k) ∧ Jx pre W')) := by
  have i0 : ∀ w : World, (Instr.index 127 (.agg #[.pointer (some ⟨g, 0, none⟩), .pointer (some ⟨h, 0, none⟩), .pointer (some ⟨g, 3, none⟩), .pointer (some ⟨h, 3, none⟩), .pointer (some ⟨g, 6, none⟩), .pointer (some ⟨h, 6, none⟩), .pointer (some ⟨g, 9, none⟩), .pointer (some ⟨h, 9, none⟩)]) (.int .i64 0)).run Try.prog w = .ok (.agg #[.pointer (some ⟨g, 0, none⟩), .pointer (some ⟨h, 0, none⟩)]) w := fun _ => by kernel_rfl
  have i1 : ∀ w : World, (Instr.index 127 (.agg #[.pointer (some ⟨g, 0, none⟩), .pointer (some ⟨h, 0, none⟩), .pointer (some ⟨g, 3, none⟩), .pointer (some ⟨h, 3, none⟩), .pointer (some ⟨g, 6, none⟩), .pointer (some ⟨h, 6, none⟩), .pointer (some ⟨g, 9, none⟩), .pointer (some ⟨h, 9, none⟩)]) (.int .i64 1)).run Try.prog w = .ok (.agg #[.pointer (some ⟨g, 3, none⟩), .pointer (some ⟨h, 3, none⟩)]) w := fun _ => by kernel_rfl
  have i2 : ∀ w : World, (Instr.index 127 (.agg #[.pointer (some ⟨g, 0, none⟩), .pointer (some ⟨h, 0, none⟩), .pointer (some ⟨g, 3, none⟩), .pointer (some ⟨h, 3, none⟩), .pointer (some ⟨g, 6, none⟩), .pointer (some ⟨h, 6, none⟩), .pointer (some ⟨g, 9, none⟩), .pointer (some ⟨h, 9, none⟩)]) (.int .i64 2)).run Try.prog w = .ok (.agg #[.pointer (some ⟨g, 6, none⟩), .pointer (some ⟨h, 6, none⟩)]) w := fun _ => by kernel_rfl
  have i3 : ∀ w : World, (Instr.index 127 (.agg #[.pointer (some ⟨g, 0, none⟩), .pointer (some ⟨h, 0, none⟩), .pointer (some ⟨g, 3, none⟩), .pointer (some ⟨h, 3, none⟩), .pointer (some ⟨g, 6, none⟩), .pointer (some ⟨h, 6, none⟩), .pointer (some ⟨g, 9, none⟩), .pointer (some ⟨h, 9, none⟩)]) (.int .i64 3)).run Try.prog w = .ok (.agg #[.pointer (some ⟨g, 9, none⟩), .pointer (some ⟨h, 9, none⟩)]) w := fun _ => by kernel_rfl
  refine callsIn_of_wp Try.func76 rfl trivial ?_ rfl
  simp only [Try.ntmps76, List.size_toArray, List.length_cons, List.length_nil, Nat.reduceAdd, Nat.reduceSub, Array.replicate_succ, Array.replicate_zero, List.push_toArray, List.append_toArray, List.nil_append, List.cons_append]
  gi_wp2
  gi_quiet (fail)
  gi_wp2
  gi_loopw [35] (fun i wr => ∃ (k : Nat) (pre : List (Idx 4)), k ≤ 4 ∧ i = .int .i64 (k : Int) ∧ pre.map (·.1) = fst k ∧ J pre wr ∧ R W wr)
    (fun i _ => 4 - (intOf i).toNat)
  case atStart => exact ⟨0, [], by omega, rfl, rfl, hJd _ _ _ h0, hdr _ _ _ hR0⟩
  case round =>
    obtain ⟨k, pre, hk, rfl, hpre, hJs, hRr⟩ := hrel
    by_cases hk4 : k < 4
    · have hk1 : k + 1 ≤ 4 := by omega
      have hb : (pre ++ [(⟨k, hk4⟩ : Idx 4)]).map (·.1) = fst (k + 1) := by
        unfold fst at hpre ⊢
        rw [List.map_append, hpre, upto_succ]
        rfl
      obtain ⟨fn, tmps, assign, body, hy, hR⟩ := hY pre ⟨k, hk4⟩ (wr.alloc (.cells #[pptr g k, pptr h k] 126)) (hJa _ _ _ hJs) (pre4_of hb)
      dsimp only at hy
      unfold pptr at hy
      have hc : k = 0 ∨ k = 1 ∨ k = 2 ∨ k = 3 := by omega
      rcases hc with rfl | rfl | rfl | rfl
      all_goals
        simp only [Nat.mul_zero, Nat.mul_one, Nat.reduceMul] at hy
        gi_wp2
        refine hR.mono ?_
        rintro e W3 (⟨rfl, hJ3, hR3⟩ | ⟨rfl, hJx3⟩)
        · gi_wp2
          go_roundw
          case rel => exact ⟨_, _, hk1, rfl, hb, hJ3, htr _ _ _ (hRa _ _ _ hRr) hR3⟩
          case measure => simp [intOf]
        · gi_wp2
          refine bodyPost_ret (results_none rfl _ _ _) rfl ?_
          exact ⟨⟨_, rfl⟩, .inr ⟨_, ⟨_, hk1, hb⟩, hJx3⟩⟩
    · obtain rfl : k = 4 := by omega
      gi_wp2
      go_end0
      exact ⟨⟨_, rfl⟩, .inl ⟨_, hpre, hJs⟩⟩


/-- pairs$1, as the law of a loop over an iterator wants it. -/
theorem pairs_comes (n : Nat) (hn : 1 ≤ n) {Bs Bt g h : Nat} {K : Nat → Prop} {w : World} (hBs : w.cell? ⟨Bs, 0, none⟩ = some (.pointer (some ⟨g, 0, none⟩))) (hBt : w.cell? ⟨Bt, 0, none⟩ = some (.pointer (some ⟨h, 0, none⟩))) (hlt : Bs < w.heap.size) (hlt2 : Bt < w.heap.size) (hKw : ∀ b, K b → b < w.heap.size) :
    Comes Fence.wide n Try.prog 76 #[.pointer (some ⟨Bs, 0, none⟩), .pointer (some ⟨Bt, 0, none⟩)] (fun x : Idx 4 => #[pptr g x.1, pptr h x.1]) K Bs (fun ys _ => ys.map (·.1) = fst 4) (fun pre => ∃ k, k ≤ 4 ∧ pre.map (·.1) = fst k) w := by
  intro l J Jx W hW hJg hY h0
  refine pairs1_in n hn l Bs Bt g h (fun X Y => w.heap.size ≤ X.heap.size → Kb K X Y) J Jx (fun X Y m k hX => ⟨(k hX).size, (k hX).block⟩) (fun X Y Z k1 k2 hX => (k1 hX).trans (k2 (Nat.le_trans hX (k1 hX).size)))
    (fun X Y o k hX => ⟨Nat.le_trans (k hX).size (by simp), fun b hb => (Below.heap_alloc Y o b (Nat.lt_of_lt_of_le (hKw b hb) (Nat.le_trans hX (k hX).size))).trans ((k hX).block b hb)⟩) (fun pre X o k => hJg _ _ _ k (World.grownBy_alloc X o _)) (fun pre X m k => hJg _ _ _ k (grownBy_drewN X m _))
    (fun pre x X k _ => ?_) W (fun _ => Kb.refl K W) ((hW.cell (p := ⟨Bs, 0, none⟩) hlt).trans hBs) ((hW.cell (p := ⟨Bt, 0, none⟩) hlt2).trans hBt) h0
  obtain ⟨fn, tmps, assign, body, hy, hR⟩ := hY pre x X k
  refine ⟨fn, tmps, assign, body, hy, hR.mono ?_⟩
  rintro e Y (⟨h1, h2, h3⟩ | h4)
  · exact .inl ⟨h1, h2, fun _ => h3⟩
  · exact .inr h4

/-- pairs$1, as XMover's law of a loop wants it. -/
theorem pairs_comesG (n : Nat) (hn : 1 ≤ n) {Bs Bt g h : Nat} {K : Nat → Prop} {w : World} (hBs : w.cell? ⟨Bs, 0, none⟩ = some (.pointer (some ⟨g, 0, none⟩))) (hBt : w.cell? ⟨Bt, 0, none⟩ = some (.pointer (some ⟨h, 0, none⟩))) (hlt : Bs < w.heap.size) (hlt2 : Bt < w.heap.size) (hKw : ∀ b, K b → b < w.heap.size) :
    ComesG Fence.wide n Try.prog 76 #[.pointer (some ⟨Bs, 0, none⟩), .pointer (some ⟨Bt, 0, none⟩)] (fun x : Idx 4 => #[pptr g x.1, pptr h x.1]) K Bs Pre4 (fun ys _ => ys.map (·.1) = fst 4) (fun pre => ∃ k, k ≤ 4 ∧ pre.map (·.1) = fst k) w := by
  intro l J Jx W hW hJg hY h0
  refine pairs1_in n hn l Bs Bt g h (fun X Y => w.heap.size ≤ X.heap.size → Kb K X Y) J Jx (fun X Y m k hX => ⟨(k hX).size, (k hX).block⟩) (fun X Y Z k1 k2 hX => (k1 hX).trans (k2 (Nat.le_trans hX (k1 hX).size)))
    (fun X Y o k hX => ⟨Nat.le_trans (k hX).size (by simp), fun b hb => (Below.heap_alloc Y o b (Nat.lt_of_lt_of_le (hKw b hb) (Nat.le_trans hX (k hX).size))).trans ((k hX).block b hb)⟩) (fun pre X o k => hJg _ _ _ k (World.grownBy_alloc X o _)) (fun pre X m k => hJg _ _ _ k (grownBy_drewN X m _))
    (fun pre x X k hg => ?_) W (fun _ => Kb.refl K W) ((hW.cell (p := ⟨Bs, 0, none⟩) hlt).trans hBs) ((hW.cell (p := ⟨Bt, 0, none⟩) hlt2).trans hBt) h0
  obtain ⟨fn, tmps, assign, body, hy, hR⟩ := hY pre x X hg k
  refine ⟨fn, tmps, assign, body, hy, hR.mono ?_⟩
  rintro e Y (⟨h1, h2, h3⟩ | h4)
  · exact .inl ⟨h1, h2, fun _ => h3⟩
  · exact .inr h4

set_option maxHeartbeats 1000000 in
theorem pairs_any (n : Nat) (g h : Nat) (w : World) :
    CallsIn Fence.wide n Try.prog 62 #[.pointer (some ⟨g, 0, none⟩), .pointer (some ⟨h, 0, none⟩)] w fun e w' => e = .returned (.func (.func 76) #[] #[.pointer (some ⟨w.heap.size, 0, none⟩), .pointer (some ⟨w.heap.size + 1, 0, none⟩)]) ∧ w' = (w.alloc (.cells #[.pointer (some ⟨g, 0, none⟩)] 105)).alloc (.cells #[.pointer (some ⟨h, 0, none⟩)] 105) := by
  refine callsIn_of_wp Try.func62 rfl trivial ?_ rfl
  simp only [Try.ntmps62, List.size_toArray, List.length_cons, List.length_nil, Nat.reduceAdd, Nat.reduceSub, Array.replicate_succ, Array.replicate_zero, List.push_toArray, List.append_toArray, List.nil_append, List.cons_append]
  gi_wp2
  go_ret
  exact ⟨rfl, rfl⟩

end Go.Proofs.Ytbankbehfjogpaa


namespace Go.Proofs.Ytbankbehfjogpaa
set_option maxRecDepth 100000
open Go.RowKit Go.Shelf
attribute [local go_sem] Oper.semAt_some

theorem new_at {w : World} {o : Obj} {g : Nat} (hg : g = w.heap.size) : (w.alloc o).heap[g]? = some o := by
  subst hg
  exact heap_alloc_new w o
theorem Boxed.alloc_ {W : World} {B : Nat} {t : TypeId} {v : Value} (h : Boxed W B t v) (o : Obj) : Boxed (W.alloc o) B t v := (Below.heap_alloc W o B h.lt).trans h
def JoX (w : World) (H : Nat → Int) (X : World) : Prop := Mbox X (w.heap.size + 3) D0 ∧ Boxed X (w.heap.size + 4) 35 (.int .i64 10) ∧ Below w.heap.size w X ∧ ∃ k, k < 4 ∧ ¬ Okay (H k)

end Go.Proofs.Ytbankbehfjogpaa


namespace Go.Proofs.Ytbankbehfjogpaa
set_option maxRecDepth 100000
open Go.RowKit Go.Shelf
attribute [local go_sem] Oper.semAt_some

/-- All of two dyads is the same. -/
def Dsm (d e : Dy) : Prop := d.s = e.s ∧ d.x = e.x ∧ d.n = e.n ∧ ∀ j, d.f j = e.f j
def SaI (w : World) (D E : Nat → Dy) (pre : List (Idx 4)) (X : World) : Prop :=
  Mbox X w.heap.size D ∧ Mbox X (w.heap.size + 1) E ∧ Boxed X (w.heap.size + 2) 4 (.bool false) ∧ Below w.heap.size w X ∧ ∀ p ∈ pre, Dsm (D p.1) (E p.1)
def SaX (w : World) (D E : Nat → Dy) (X : World) : Prop := Boxed X (w.heap.size + 2) 4 (.bool false) ∧ Below w.heap.size w X ∧ ¬ ∀ k, k < 4 → Dsm (D k) (E k)

set_option maxRecDepth 100000 in
set_option maxHeartbeats 4000000 in
theorem msame_raw {w : World} {D E : Nat → Dy} {P : Prop} (h : Mrd w w.heap.size D) (h2 : Mrd w w.heap.size E) (HP : Hid (P ↔ ∀ k, k < 4 → Dsm (D k) (E k))) :
    Calls Try.prog 34 #[.agg (mcells D), .agg (mcells E)] w (Says w P) := by
  obtain ⟨W, hW⟩ : ∃ W, W = ((w.alloc (.cells (mcells D) 26)).alloc (.cells (mcells E) 26)).alloc (.cells #[.bool false] 4) := ⟨_, rfl⟩
  have B0 := hid (show Below w.heap.size w W from hW ▸ (((Below.refl _ w).alloc (Nat.le_refl _) _).alloc (by simp) _).alloc (by simp; omega) _)
  have P0 : Hid (Mbox W w.heap.size D) := hid (hW ▸ ((show Mbox (w.alloc _) w.heap.size D from new_at rfl).alloc _).alloc _)
  have P1 : Hid (Mbox W (w.heap.size + 1) E) := hid (hW ▸ (show Mbox ((w.alloc _).alloc _) (w.heap.size + 1) E from new_at (by simp)).alloc _)
  have P2 : Hid (Boxed W (w.heap.size + 2) 4 (.bool false)) := hid (hW ▸ (new_at (by simp)))
  have HR := hid h
  have HR2 := hid h2
  have HW := hid hW
  clear hW h h2
  refine (callsIn_wide (n := 9)).1 ?_
  refine callsIn_of_wp_marks Try.func34 rfl trivial (wpIn_wide.2 ?_) rfl
  simp only [Try.ntmps34, List.size_toArray, List.length_cons, List.length_nil, Nat.reduceAdd, Nat.reduceSub, Array.replicate_succ, Array.replicate_zero, List.push_toArray, List.append_toArray, List.nil_append, List.cons_append]
  go_upto_region 1 with fail
  rw [← HW.out]
  go_wp2_with fail
  refine (callsIn_wide.1 (pairs_any 9 w.heap.size (w.heap.size + 1) W)).mono ?_
  rintro e W1 ⟨rfl, hW1⟩
  have bS : Boxed W1 W.heap.size 105 (.pointer (some ⟨w.heap.size, 0, none⟩)) := by rw [hW1]; exact heap_alloc2_old W _ _
  have bT : Boxed W1 (W.heap.size + 1) 105 (.pointer (some ⟨w.heap.size + 1, 0, none⟩)) := by rw [hW1]; exact heap_alloc2_new W _ _
  have B1 : Below W.heap.size W W1 := by rw [hW1]; exact ((Below.refl _ W).alloc (Nat.le_refl _) _).alloc (by simp) _
  have hsz : w.heap.size + 3 = W.heap.size := by rw [HW.out]; simp
  have Q0 := hid (P0.out.below B1 P0.out.lt)
  have Q1 := hid (P1.out.below B1 P1.out.lt)
  have Q2 := hid (Boxed.below' P2.out B1 P2.out.lt)
  have hs1 : W.heap.size + 2 = W1.heap.size := by rw [hW1]; simp
  have Hsz := hid hsz
  have Hs1 := hid hs1
  have HB1 := hid (B0.out.trans (B1.mono (by omega)))
  have HbS := hid bS
  have HbT := hid bT
  have hI0 : SaI w D E [] W1 := ⟨Q0.out, Q1.out, Q2.out, HB1.out, fun p hp => by cases hp⟩
  clear hW1 B1 bS bT hsz hs1
  go_wp2_with fail
  refine wpIn_wide.1 (range_overG (F := Fence.wide) (n := 9) (gf := 76) rfl (by omega) rfl trivial (enters_of Try.func76 (by kernel_rfl) rfl) (K := fun b => b = W.heap.size ∨ b = W.heap.size + 1) (g := W.heap.size) (.inl rfl) ?kw
    (pairs_comesG 8 (by omega) HbS.out.cell HbT.out.cell HbS.out.lt HbT.out.lt ?kw2) (fun _ => rfl) (SaI w D E) (fun _ => SaX w D E)
    ?keep ?keepx
    (fun s X Y r h _ _ => h) hI0 ?a1 ?assign ?body ?done ?stop)
  case kw => intro b hb; have hb2 : b = W.heap.size ∨ b = W.heap.size + 1 := hb; have := Hs1.out; omega
  case kw2 => intro b hb; have hb2 : b = W.heap.size ∨ b = W.heap.size + 1 := hb; have := Hs1.out; omega
  case keep =>
    rintro s X Y r ⟨g1, g2, g3, g4, h5⟩ hg hr
    have a1 := Hsz.out
    have a2 := Hs1.out
    exact ⟨g1.grown hg (by omega), g2.grown hg (by omega), Boxed.grown' g3 hg (by omega), below_row g4 hg g4.size (by omega), h5⟩
  case keepx =>
    rintro s X Y r ⟨h1, h2, h3⟩ hg hr
    have a1 := Hsz.out
    have a2 := Hs1.out
    exact ⟨Boxed.grown' h1 hg (by omega), below_row h2 hg h2.size (by omega), h3⟩
  case assign =>
    intro l x W K hK
    gi_wp2
    exact hK
  case body =>
    intro l pre x Wx hpre hZ hI
    obtain ⟨k, hk⟩ := x
    obtain ⟨hA, hE, hQ, hB, hp⟩ := hI
    have HA0 := hid hA
    have HE0 := hid hE
    have HQ0 := hid hQ
    have HB := hid hB
    have Hp := hid hp
    have HZ := hid hZ
    have Hk := hid hk
    have hd := ((HR.out k hk).below hB).mono hB.size
    have hd2 := ((HR2.out k hk).below hB).mono hB.size
    obtain ⟨m, hmm⟩ : ∃ m, m = D k := ⟨_, rfl⟩
    obtain ⟨m2, hmm2⟩ : ∃ m, m = E k := ⟨_, rfl⟩
    rw [← hmm] at hd
    rw [← hmm2] at hd2
    obtain ⟨y0, y1, y2⟩ := mcells_at hA hk hmm.symm
    obtain ⟨v0, v1, v2⟩ := mcells_at hE hk hmm2.symm
    obtain ⟨P1, hP1⟩ : ∃ P1 : Prop, P1 ↔ Dsm m m2 := ⟨_, Iff.rfl⟩
    have HP1 : Hid (P1 ↔ Dsm (D k) (E k)) := hid (by rw [hP1, hmm, hmm2])
    clear hmm hmm2 hA hE hQ hB hp hI0 hZ hpre
    obtain ⟨s, A, n, c, xx, f⟩ := m
    obtain ⟨s2, A2, n2, c2, xx2, f2⟩ := m2
    dsimp only at y0 y1 y2 v0 v1 v2 hd hd2
    have CC := hid (fun w' (hb : Below Wx.heap.size Wx w') => dsame_raw (s := s) (t := s2) (x := xx) (y := xx2) ((hd.below hb).mono hb.size) ((hd2.below hb).mono hb.size) (hid hP1))
    clear hd hd2 hP1
    have CF : Hid (∀ w', Below Wx.heap.size Wx w' → (w'.cell? ⟨w.heap.size, 3 * k, none⟩ = some (.bool s) ∧ w'.cell? ⟨w.heap.size, 3 * k + 1, none⟩ = some (.slice A n c) ∧ w'.cell? ⟨w.heap.size, 3 * k + 2, none⟩ = some (.int .i64 xx) ∧
        w'.cell? ⟨w.heap.size + 1, 3 * k, none⟩ = some (.bool s2) ∧ w'.cell? ⟨w.heap.size + 1, 3 * k + 1, none⟩ = some (.slice A2 n2 c2) ∧ w'.cell? ⟨w.heap.size + 1, 3 * k + 2, none⟩ = some (.int .i64 xx2))) := hid fun w' hb =>
      ⟨(hb.cell (p := ⟨_, 3 * k, none⟩) HA0.out.lt).trans y0, (hb.cell (p := ⟨_, 3 * k + 1, none⟩) HA0.out.lt).trans y1, (hb.cell (p := ⟨_, 3 * k + 2, none⟩) HA0.out.lt).trans y2, (hb.cell (p := ⟨_, 3 * k, none⟩) HE0.out.lt).trans v0, (hb.cell (p := ⟨_, 3 * k + 1, none⟩) HE0.out.lt).trans v1, (hb.cell (p := ⟨_, 3 * k + 2, none⟩) HE0.out.lt).trans v2⟩
    have HBd : Hid (Below Wx.heap.size Wx Wx.drew) := hid (Below.refl Wx.heap.size Wx).drew
    clear y0 y1 y2 v0 v1 v2
    unfold pptr
    gi_wp2_with fail
    refine region_held (S := fun w' => w'.cell? ⟨w.heap.size, 3 * k, none⟩ = some (.bool s) ∧ w'.cell? ⟨w.heap.size, 3 * k + 1, none⟩ = some (.slice A n c) ∧ w'.cell? ⟨w.heap.size, 3 * k + 2, none⟩ = some (.int .i64 xx) ∧
        w'.cell? ⟨w.heap.size + 1, 3 * k, none⟩ = some (.bool s2) ∧ w'.cell? ⟨w.heap.size + 1, 3 * k + 1, none⟩ = some (.slice A2 n2 c2) ∧ w'.cell? ⟨w.heap.size + 1, 3 * k + 2, none⟩ = some (.int .i64 xx2)) (by kernel_rfl) (by kernel_rfl) (by rintro ⟨a, w, h⟩; exact h) (CF.out _ HBd.out) (fun hHeld => ?_)
    refine wpAnyH_take (i := 0) (v := ?v1) rfl (by kernel_rfl) (by kernel_rfl) (by kernel_rfl) (fun _ _ _ h => h) (Or.inl ⟨by rfl, ?y1⟩) (by assumption) ?r1
    case y1 => (intro w0 hSw; (try dsimp only at hSw); (try simp only [List.getElem_toArray, List.getElem_cons_zero]); go_simp; try with_reducible rfl)
    (try simp only [Act.put, List.setIfInBounds_toArray, List.set_cons_zero, List.set_cons_succ, List.getElem_toArray, List.getElem_cons_zero])
    refine wpAnyH_take (i := 1) (v := ?v2) rfl (by kernel_rfl) (by kernel_rfl) (by kernel_rfl) (fun _ _ _ h => h) (Or.inl ⟨by rfl, ?y2⟩) (by assumption) ?r2
    case y2 => (intro w0 hSw; (try dsimp only at hSw); (try simp only [List.getElem_toArray, List.getElem_cons_succ, List.getElem_cons_zero]); go_simp; try with_reducible rfl)
    (try simp only [Act.put, List.setIfInBounds_toArray, List.set_cons_zero, List.set_cons_succ, List.getElem_toArray, List.getElem_cons_succ, List.getElem_cons_zero])
    refine wpAnyH_take (i := 2) (v := ?v3) rfl (by kernel_rfl) (by kernel_rfl) (by kernel_rfl) (fun _ _ _ h => h) (Or.inl ⟨by rfl, ?y3⟩) (by assumption) ?r3
    case y3 => (intro w0 hSw; (try dsimp only at hSw); (try simp only [List.getElem_toArray, List.getElem_cons_succ, List.getElem_cons_zero]); go_simp; try with_reducible rfl)
    (try simp only [Act.put, List.setIfInBounds_toArray, List.set_cons_zero, List.set_cons_succ, List.getElem_toArray, List.getElem_cons_succ, List.getElem_cons_zero])
    refine wpAnyH_take (i := 3) (v := ?v4) rfl (by kernel_rfl) (by kernel_rfl) (by kernel_rfl) (fun _ _ _ h => h) (Or.inl ⟨by rfl, ?y4⟩) (by assumption) ?r4
    case y4 => (intro w0 hSw; (try dsimp only at hSw); (try simp only [List.getElem_toArray, List.getElem_cons_succ, List.getElem_cons_zero]); go_simp; try with_reducible rfl)
    (try simp only [Act.put, List.setIfInBounds_toArray, List.set_cons_zero, List.set_cons_succ, List.getElem_toArray, List.getElem_cons_succ, List.getElem_cons_zero])
    refine wpAnyH_take (i := 4) (v := ?v5) rfl (by kernel_rfl) (by kernel_rfl) (by kernel_rfl) (fun _ _ _ h => h) (Or.inl ⟨by rfl, ?y5⟩) (by assumption) ?r5
    case y5 => (intro w0 hSw; (try dsimp only at hSw); (try simp only [List.getElem_toArray, List.getElem_cons_succ, List.getElem_cons_zero]); go_simp; try with_reducible rfl)
    (try simp only [Act.put, List.setIfInBounds_toArray, List.set_cons_zero, List.set_cons_succ, List.getElem_toArray, List.getElem_cons_succ, List.getElem_cons_zero])
    refine wpAnyH_take (i := 5) (v := ?v6) rfl (by kernel_rfl) (by kernel_rfl) (by kernel_rfl) (fun _ _ _ h => h) (Or.inl ⟨by rfl, ?y6⟩) (by assumption) ?r6
    case y6 => (intro w0 hSw; (try dsimp only at hSw); (try simp only [List.getElem_toArray, List.getElem_cons_succ, List.getElem_cons_zero]); go_simp; try with_reducible rfl)
    (try simp only [Act.put, List.setIfInBounds_toArray, List.set_cons_zero, List.set_cons_succ, List.getElem_toArray, List.getElem_cons_succ, List.getElem_cons_zero])
    refine wpAnyH_ready (rs := [6]) (by kernel_rfl) (by simp) ?_
    refine AllReadyH.cons rfl (fun K hK => ?_) AllReadyH.nil
    (try simp only [Act.put, List.setIfInBounds_toArray, List.set_cons_zero, List.set_cons_succ, List.getElem_toArray, List.getElem_cons_succ, List.getElem_cons_zero])
    go_simp
    refine (CC.out _ HBd.out).mono ?_
    rintro e Wy ⟨r, rfl, Hr, hbel⟩
    have HBy := hid (HBd.out.trans (hbel.out.mono HBd.out.size))
    try dsimp only
    refine hK.out _ _ (CF.out _ HBy.out) (fun hHeld => ?_)
    clear hK K
    (try simp only [Act.put, List.setIfInBounds_toArray, List.set_cons_zero, List.set_cons_succ, List.getElem_toArray, List.getElem_cons_succ, List.getElem_cons_zero])
    refine wpAnyH_take (i := 7) (v := ?v7) rfl (by kernel_rfl) (by kernel_rfl) (by kernel_rfl) (fun _ _ _ h => h) (Or.inl ⟨by rfl, ?y7⟩) (by assumption) ?r7
    case y7 => (intro w0 hSw; (try dsimp only at hSw); (try simp only [List.getElem_toArray, List.getElem_cons_succ, List.getElem_cons_zero]); go_simp; try with_reducible rfl)
    (try simp only [Act.put, List.setIfInBounds_toArray, List.set_cons_zero, List.set_cons_succ, List.getElem_toArray, List.getElem_cons_succ, List.getElem_cons_zero])
    refine wpAnyH_done (by kernel_rfl) ?_ _
    clear hHeld
    have HQy := hid (Boxed.below' HQ0.out HBy.out HQ0.out.lt)
    have By := hid (HB.out.trans (HBy.out.mono HB.out.size))
    have q0 := HQy.out.cell
    have q1 := HQy.out.frozen
    cases r with
    | true =>
      clear q0 q1
      gi_wp2
      refine ⟨keeps_below HBy.out, kb_below HBy.out ?kb, HA0.out.below HBy.out HA0.out.lt, HE0.out.below HBy.out HE0.out.lt, HQy.out, By.out, ?_⟩
      case kb => intro b hb; have hb2 : b = W.heap.size ∨ b = W.heap.size + 1 := hb; have := Hs1.out; have := HZ.out; omega
      intro p hp
      rcases List.mem_append.1 hp with h | h
      · exact Hp.out p h
      · obtain rfl : p = ⟨k, Hk.out⟩ := by simpa using h
        exact HP1.out.1 (Hr.out.1 (by trivial))
    | false =>
      gi_wp2
      refine ⟨(keeps_below HBy.out).trans ((KeepsOthers.setCell _ ⟨w.heap.size + 2, 0, none⟩ _).from _), HQy.out.set _, By.out.setCell (p := ⟨w.heap.size + 2, 0, none⟩) (by show w.heap.size ≤ w.heap.size + 2; omega) _, fun hall => ?_⟩
      have := Hr.out.2 (HP1.out.2 (hall k Hk.out))
      cases this
  case done =>
    rintro D' ys Wx rfl hys ⟨hA, hE, hQ, hB, hp⟩ hK
    have e1 := Hsz.out
    have e2 := Hs1.out
    have q0 := hQ.cell
    have q1 := hQ.frozen
    have hK2 := (KeepsOthers.setCell Wx ⟨w.heap.size + 2, 0, none⟩ (.bool true)).same W1.heap.size _ hK rfl
    have g2 := grownBy_putObj' (Wx.setCell ⟨w.heap.size + 2, 0, none⟩ (.bool true)) W1.heap.size (.deferred none)
    have hc := (Boxed.grown' (hQ.set (.bool true)) g2 (by omega)).cell
    have hB2 := (hB.setCell (p := ⟨w.heap.size + 2, 0, none⟩) (by show w.heap.size ≤ w.heap.size + 2; omega) (.bool true))
    have HB2 := hid (below_row hB2 g2 hB2.size (by omega))
    have HK := hid hK2
    have Hc := hid hc
    have HY := hid (show ∀ k, k < 4 → Dsm (D k) (E k) from fun k hk => by obtain ⟨p, hm, e⟩ := mem_fst hys hk; have := hp p hm; rw [e] at this; exact this)
    clear e1 e2 hA hE hQ hB hp hK hK2 g2 hc hB2 hys hI0
    go_wp2
    refine ⟨by simp, .inl ⟨_, _, rfl, run_takeDeferred HK.out, ?_⟩⟩
    have hc := Hc.out
    refine ⟨.bool true, by simp [results, Try.f34, go_sem, hc], true, rfl, ⟨fun _ => HP.out.2 HY.out, fun _ => rfl⟩, HB2.out⟩
  case stop =>
    rintro D' pre Wx rfl ⟨k, hk, hpre⟩ ⟨hQ, hB, hN⟩ hK
    have HN := hid hN
    clear hN hpre
    gi_wp2
    refine ⟨by simp, .inl ⟨_, _, rfl, run_takeDeferred hK, ?_⟩⟩
    have e1 := Hsz.out
    have e2 := Hs1.out
    have g2 := grownBy_putObj' Wx W1.heap.size (.deferred none)
    have hc := (Boxed.grown' hQ g2 (by omega)).cell
    refine ⟨.bool false, by simp [results, Try.f34, go_sem, hc], false, rfl, ⟨(fun h => by cases h), fun h => absurd (HP.out.1 h) HN.out⟩, below_row hB g2 hB.size (by omega)⟩

end Go.Proofs.Ytbankbehfjogpaa


namespace Go.Proofs.Ytbankbehfjogpaa
open Go.RowKit Go.Shelf

theorem ret_mass {fn : Func} {R : Ending → World → Prop} {a : Act} {w : World} {p u : Tmp} {g : Nat} {D : Nat → Dy} {er : Value} (h : fn.results = #[.cell p 26, .tmp u]) (hp : a.tmps.getD p undef = .pointer (some ⟨g, 0, none⟩)) (hu : a.tmps.getD u undef = er)
    (hd : a.defers = []) (hg : Mbox w g D) (hR : R (.returned (.tuple #[.agg (mcells D), er])) w) : bodyPost Try.prog fn R .ret a w := by
  refine bodyPost_ret ?_ hd hR
  rw [← hu]
  exact cells_agg_tmp h a.tmps w g _ _ _ _ hp hg Try.underlying26 rfl (mass_size_ D)

end Go.Proofs.Ytbankbehfjogpaa


namespace Go.Proofs.Ytbankbehfjogpaa
open Go.RowKit Go.Shelf

theorem yields_mload {ops : Array Oper} {S : World → Prop} {o : Oper} {a : Act} (hw : Region.wanted o (yielded ops a.tmps) = true) (x : Operand) (ho : o.op = .load 26 x)
    (g : Nat) (D : Nat → Dy) (hx : a.eval x = .pointer (some ⟨g, 0, none⟩)) (hS : ∀ w, S w → Mbox w g D) : YieldsIf Try.prog ops S o (.agg (mcells D)) a :=
  .inl ⟨hw, fun w hw' => by
    unfold execOp
    simp only [ho, hx, Instr.loadAt, Instr.sureAddr, Sem.run_bind, Sem.run_pure, Result.andThen_ok, run_loadVar_row w g _ 26 _ _ _ (hS w hw') Try.underlying26 rfl (mass_size_ D)]⟩
theorem wp1_mstore {o : Oper} {a : Act} {w : World} {K : Act → World → Prop} {Q : Exit → Act → World → Prop} (x y : Operand) (ho : o.op = .store 26 x y)
    (g : Nat) (D E : Nat → Dy) (hx : a.eval x = .pointer (some ⟨g, 0, none⟩)) (hy : a.eval y = .agg (mcells E)) (hg : Mbox w g D) (h : K (a.put o.dst undef) (mstore w g E)) : o.wp Try.prog a w K Q :=
  wp_store_mid _ x y ho g 0 (mcells E) hx hy (hg.there E) (mass_size_ E) (mcells_one E) h
theorem results_cct {fn : Func} {p q u : Tmp} {ty tz : TypeId} (h : fn.results = #[.cell p ty, .cell q tz, .tmp u]) (tmps : Array Value) (P : Program) (w : World) :
    (results fn tmps).run P w =
      ((asAddr (tmps.getD p undef)).run P w).andThen fun a w₁ => ((loadVar ty a).run P w₁).andThen fun x w₂ => ((asAddr (tmps.getD q undef)).run P w₂).andThen fun b w₃ => ((loadVar tz b).run P w₃).andThen fun y w₄ => .ok (.tuple #[x, y, tmps.getD u undef]) w₄ := by
  simp only [results, h]
  simp [Sem.run_bind, Result.andThen]
theorem ret_masses {fn : Func} {R : Ending → World → Prop} {a : Act} {w : World} {p q u : Tmp} {g k : Nat} {D E : Nat → Dy} {er : Value} (h : fn.results = #[.cell p 26, .cell q 26, .tmp u]) (hp : a.tmps.getD p undef = .pointer (some ⟨g, 0, none⟩)) (hq : a.tmps.getD q undef = .pointer (some ⟨k, 0, none⟩)) (hu : a.tmps.getD u undef = er)
    (hd : a.defers = []) (hg : Mbox w g D) (hk : Mbox w k E) (hR : R (.returned (.tuple #[.agg (mcells D), .agg (mcells E), er])) w) : bodyPost Try.prog fn R .ret a w := by
  refine bodyPost_ret ?_ hd hR
  have e1 := run_loadVar_row w g _ 26 _ _ _ hg Try.underlying26 rfl (mass_size_ D)
  have e2 := run_loadVar_row w k _ 26 _ _ _ hk Try.underlying26 rfl (mass_size_ E)
  rw [results_cct h, hp, hq, hu]
  simp only [asAddr, Result.andThen, Sem.run_pure, e1, e2]
theorem Mbox.at_ {w : World} {g : Nat} {D : Nat → Dy} (h : Mbox w g D) (j : Nat) (v : Value) (hv : (mcells D)[j]? = some v) : w.cell? ⟨g, j, none⟩ = some v := by
  rw [cell_of_row w g j _ _ (0, 0) h]
  exact hv
theorem ite_go {c P Q : Prop} [Decidable c] (hc : c) (h : P) : if c then P else Q := by rw [if_pos hc]; exact h
/-- Four of a kind. -/
def of4 {α : Type} (a b c d : α) : Nat → α
  | 0 => a
  | 1 => b
  | 2 => c
  | _ => d
theorem all_of4 {P : Nat → Prop} (h0 : P 0) (h1 : P 1) (h2 : P 2) (h3 : P 3) : ∀ k, k < 4 → P k := fun k hk => by
  have hc : k = 0 ∨ k = 1 ∨ k = 2 ∨ k = 3 := by omega
  rcases hc with rfl | rfl | rfl | rfl <;> assumption
/-- The dyad of nothing. -/
abbrev d0 : Dy := ⟨false, none, 0, 0, 0, fun _ => 0⟩
/-- The error of a split. -/
def Serr (p : Prop) (H0 H1 : Int) (er : Int) : Prop := (p → ((Okay H0 ∧ Okay H1) ∧ er = 0) ∨ (¬ (Okay H0 ∧ Okay H1) ∧ er = 10)) ∧ (¬ p → er = 8)
/-- What a split hands back: what is kept lies in memory that was made behind what is sent. -/
def SRes (w : World) (p : Prop) (M : Nat → Int) (H0 H1 : Int) (e : Ending) (w' : World) : Prop :=
  ∃ K S er, e = .returned (.tuple #[.agg (mcells K), .agg (mcells S), .int .i64 er]) ∧ Hid (Serr p H0 H1 er) ∧
    Hid (∃ B, w.heap.size ≤ B ∧ Mow B w' (resM er (of4 H0 H1 (M 2) (M 3))) K ∧ Mow w.heap.size w' (resM er (of4 H0 H1 0 0)) S ∧ Mrd w' B S) ∧ Hid (Below w.heap.size w w')

/-- What the last statement keeps. -/
def SpS (w : World) (g k B : Nat) (MK MS : Nat → Int) (K S : Nat → Dy) (X : World) : Prop :=
  Mbox X g K ∧ Mbox X k S ∧ Mow B X MK K ∧ Mow w.heap.size X MS S ∧ Mrd X B S ∧ Below w.heap.size w X ∧ w.heap.size ≤ g ∧ w.heap.size ≤ k ∧ g < B ∧ k < B ∧ g < k
theorem Mrd.grown_ {B r : Nat} {X Y : World} {S : Nat → Dy} {MS : Nat → Int} {C : Nat} (h : Mrd X B S) (ho : Mow C X MS S) (hg : X.grownBy Y (some r)) (hr : r < C) : Mrd Y B S := fun k hk =>
  ⟨(h k hk).cap, (h k hk).max, (h k hk).lt, (h k hk).out, fun hn => by
    obtain ⟨b, off, hA, hB, hc⟩ := (h k hk).at_ hn
    refine ⟨b, off, hA, hB, fun j hj => ?_⟩
    have hne : b ≠ r := by
      rcases (ho k hk).lim.own with ⟨_, h0, _⟩ | ⟨g, cs, hA2, hB2, _⟩
      · omega
      · rw [hA2] at hA
        injection hA with hA
        injection hA with hA
        omega
    have hlt : b < X.heap.size := block_lt_of_cell (hc j hj)
    rw [← hc j hj]
    exact World.cell?_of_block (hg.block b hlt (by intro e; injection e with e; exact hne e))⟩

theorem Mrd.zero (B : Nat) (w : World) : Mrd w B D0 := fun _ _ => Rd.nil w B
theorem drew_below (B : Nat) (w : World) : Below B w w.drew := (Below.refl B w).drew
theorem SpS.drew_ {w : World} {g k B C : Nat} {MK MS : Nat → Int} {K S : Nat → Dy} {X : World} (h : SpS w g k B MK MS K S X ∧ Mow C X MS S) : SpS w g k B MK MS K S X.drew ∧ Mow C X.drew MS S := by
  obtain ⟨⟨a1, a2, a3, a4, a5, a6, a7, a8, a9, a10, a11⟩, h2⟩ := h
  exact ⟨⟨a1, a2, a3.below (drew_below _ _), a4.below (drew_below _ _), a5.below (drew_below _ _), a6.drew, a7, a8, a9, a10, a11⟩, h2.below (drew_below _ _)⟩

theorem SpS.put {w : World} {g k B C : Nat} {MK MS : Nat → Int} {K S : Nat → Dy} {X Y : World} {r : Nat} (h : SpS w g k B MK MS K S X) (hS : Mow C X MS S) (hC : w.heap.size ≤ C) (hgC : g < C) (hkC : k < C) (hg : X.grownBy Y (some r)) (hr : r = g ∨ r = k) (h1 : Mbox Y g K) (h2 : Mbox Y k S) : SpS w g k B MK MS K S Y ∧ Mow C Y MS S := by
  obtain ⟨a1, a2, a3, a4, a5, a6, a7, a8, a9, a10, a11⟩ := h
  have hS2 : Mow C Y MS S := fun j hj => (hS j hj).grown hg (by omega)
  exact ⟨⟨h1, h2, fun j hj => (a3 j hj).grown hg (by omega), fun j hj => (hS2 j hj).mono hC, a5.grown_ hS hg (by omega), below_row a6 hg a6.size (by omega), a7, a8, a9, a10, a11⟩, hS2⟩


end Go.Proofs.Ytbankbehfjogpaa

