/- Package mass: pairs. -/
import Derived.Test.YtelalanhalbicaaDoorMparts
namespace Go.Proofs.YtelalanhalbicaaDoor
open Go.RowKit Go.Shelf
attribute [local go_sem] Oper.semAt_some

set_option maxRecDepth 100000 in
set_option maxHeartbeats 4000000 in
theorem pairs1_in (n : Nat) (hn : 1 ≤ n) (l Bs Bt g h : Nat) (R : World → World → Prop) (J Jx : List (Idx 4) → World → Prop)
    (hdr : ∀ W W' m, R W W' → R W (W'.drewN m)) (htr : ∀ W W' W'', R W W' → R W' W'' → R W W'')
    (hRa : ∀ W W' o, R W W' → R W (W'.alloc o)) (hJa : ∀ pre W o, J pre W → J pre (W.alloc o))
    (hJd : ∀ pre W m, J pre W → J pre (W.drewN m))
    (hY : ∀ pre x W, J pre W → Pre4 (pre ++ [x]) → YieldAt Fence.wide (n - 1) Tryd.prog l #[pptr g x.1, pptr h x.1] W fun e W' =>
      (e = .returned (.bool true) ∧ J (pre ++ [x]) W' ∧ R W W') ∨ (e = .returned (.bool false) ∧ Jx (pre ++ [x]) W'))
    (W : World) (hR0 : R W W) (hBs : W.cell? ⟨Bs, 0, none⟩ = some (.pointer (some ⟨g, 0, none⟩))) (hBt : W.cell? ⟨Bt, 0, none⟩ = some (.pointer (some ⟨h, 0, none⟩))) (h0 : J [] W) :
    CallsIn Fence.wide n Tryd.prog 59 #[.func (.yield l) #[] #[], .pointer (some ⟨Bs, 0, none⟩), .pointer (some ⟨Bt, 0, none⟩)] W fun e W' => (∃ v, e = .returned v) ∧
      ((∃ ys : List (Idx 4), ys.map (·.1) = fst 4 ∧ J ys W') ∨ (∃ pre : List (Idx 4), (∃ k, k ≤ 4 ∧ pre.map (·.1) = fst k) ∧ Jx pre W')) := by
  have i0 : ∀ w : World, (Instr.index 94 (.agg #[.pointer (some ⟨g, 0, none⟩), .pointer (some ⟨h, 0, none⟩), .pointer (some ⟨g, 3, none⟩), .pointer (some ⟨h, 3, none⟩), .pointer (some ⟨g, 6, none⟩), .pointer (some ⟨h, 6, none⟩), .pointer (some ⟨g, 9, none⟩), .pointer (some ⟨h, 9, none⟩)]) (.int .i64 0)).run Tryd.prog w = .ok (.agg #[.pointer (some ⟨g, 0, none⟩), .pointer (some ⟨h, 0, none⟩)]) w := fun _ => by kernel_rfl
  have i1 : ∀ w : World, (Instr.index 94 (.agg #[.pointer (some ⟨g, 0, none⟩), .pointer (some ⟨h, 0, none⟩), .pointer (some ⟨g, 3, none⟩), .pointer (some ⟨h, 3, none⟩), .pointer (some ⟨g, 6, none⟩), .pointer (some ⟨h, 6, none⟩), .pointer (some ⟨g, 9, none⟩), .pointer (some ⟨h, 9, none⟩)]) (.int .i64 1)).run Tryd.prog w = .ok (.agg #[.pointer (some ⟨g, 3, none⟩), .pointer (some ⟨h, 3, none⟩)]) w := fun _ => by kernel_rfl
  have i2 : ∀ w : World, (Instr.index 94 (.agg #[.pointer (some ⟨g, 0, none⟩), .pointer (some ⟨h, 0, none⟩), .pointer (some ⟨g, 3, none⟩), .pointer (some ⟨h, 3, none⟩), .pointer (some ⟨g, 6, none⟩), .pointer (some ⟨h, 6, none⟩), .pointer (some ⟨g, 9, none⟩), .pointer (some ⟨h, 9, none⟩)]) (.int .i64 2)).run Tryd.prog w = .ok (.agg #[.pointer (some ⟨g, 6, none⟩), .pointer (some ⟨h, 6, none⟩)]) w := fun _ => by kernel_rfl
  have i3 : ∀ w : World, (Instr.index 94 (.agg #[.pointer (some ⟨g, 0, none⟩), .pointer (some ⟨h, 0, none⟩), .pointer (some ⟨g, 3, none⟩), .pointer (some ⟨h, 3, none⟩), .pointer (some ⟨g, 6, none⟩), .pointer (some ⟨h, 6, none⟩), .pointer (some ⟨g, 9, none⟩), .pointer (some ⟨h, 9, none⟩)]) (.int .i64 3)).run Tryd.prog w = .ok (.agg #[.pointer (some ⟨g, 9, none⟩), .pointer (some ⟨h, 9, none⟩)]) w := fun _ => by kernel_rfl
  refine callsIn_of_wp Tryd.func59 rfl trivial ?_ rfl
  simp only [Tryd.ntmps59, List.size_toArray, List.length_cons, List.length_nil, Nat.reduceAdd, Nat.reduceSub, Array.replicate_succ, Array.replicate_zero, List.push_toArray, List.append_toArray, List.nil_append, List.cons_append]
  gi_wp2
  gi_quiet (fail)
  gi_wp2
  gi_loopw [35] (fun i wr => ∃ (k : Nat) (pre : List (Idx 4)), k ≤ 4 ∧ i = .int .i64 (k : Int) ∧ pre.map (·.1) = fst k ∧ J pre wr ∧ R W wr)
    (fun i _ => 4 - (intOf i).toNat)
  case atStart => exact ⟨0, [], by omega, rfl, rfl, hJd _ _ _ h0, hdr _ _ _ hR0⟩
  case round =>
    obtain ⟨k, pre, hk, rfl, hpre, hJs, hRr⟩ := hrel
    by_cases hk4 : k < 4
    · have hk1 : k + 1 ≤ 4 := by omega
      have hb : (pre ++ [(⟨k, hk4⟩ : Idx 4)]).map (·.1) = fst (k + 1) := by
        unfold fst at hpre ⊢
        rw [List.map_append, hpre, upto_succ]
        rfl
      obtain ⟨fn, tmps, assign, body, hy, hR⟩ := hY pre ⟨k, hk4⟩ (wr.alloc (.cells #[pptr g k, pptr h k] 93)) (hJa _ _ _ hJs) (pre4_of hb)
      dsimp only at hy
      unfold pptr at hy
      have hc : k = 0 ∨ k = 1 ∨ k = 2 ∨ k = 3 := by omega
      rcases hc with rfl | rfl | rfl | rfl
      all_goals
        simp only [Nat.mul_zero, Nat.mul_one, Nat.reduceMul] at hy
        gi_wp2
        refine hR.mono ?_
        rintro e W3 (⟨rfl, hJ3, hR3⟩ | ⟨rfl, hJx3⟩)
        · gi_wp2
          go_roundw
          case rel => exact ⟨_, _, hk1, rfl, hb, hJ3, htr _ _ _ (hRa _ _ _ hRr) hR3⟩
          case measure => simp [intOf]
        · gi_wp2
          refine bodyPost_ret (results_none rfl _ _ _) rfl ?_
          exact ⟨⟨_, rfl⟩, .inr ⟨_, ⟨_, hk1, hb⟩, hJx3⟩⟩
    · obtain rfl : k = 4 := by omega
      gi_wp2
      go_end0
      exact ⟨⟨_, rfl⟩, .inl ⟨_, hpre, hJs⟩⟩


/-- pairs$1, as the law of a loop over an iterator wants it. -/
theorem pairs_comes (n : Nat) (hn : 1 ≤ n) {Bs Bt g h : Nat} {K : Nat → Prop} {w : World} (hBs : w.cell? ⟨Bs, 0, none⟩ = some (.pointer (some ⟨g, 0, none⟩))) (hBt : w.cell? ⟨Bt, 0, none⟩ = some (.pointer (some ⟨h, 0, none⟩))) (hlt : Bs < w.heap.size) (hlt2 : Bt < w.heap.size) (hKw : ∀ b, K b → b < w.heap.size) :
    Comes Fence.wide n Tryd.prog 59 #[.pointer (some ⟨Bs, 0, none⟩), .pointer (some ⟨Bt, 0, none⟩)] (fun x : Idx 4 => #[pptr g x.1, pptr h x.1]) K Bs (fun ys _ => ys.map (·.1) = fst 4) (fun pre => ∃ k, k ≤ 4 ∧ pre.map (·.1) = fst k) w := by
  intro l J Jx W hW hJg hY h0
  refine pairs1_in n hn l Bs Bt g h (fun X Y => w.heap.size ≤ X.heap.size → Kb K X Y) J Jx (fun X Y m k hX => ⟨(k hX).size, (k hX).block⟩) (fun X Y Z k1 k2 hX => (k1 hX).trans (k2 (Nat.le_trans hX (k1 hX).size)))
    (fun X Y o k hX => ⟨Nat.le_trans (k hX).size (by simp), fun b hb => (Below.heap_alloc Y o b (Nat.lt_of_lt_of_le (hKw b hb) (Nat.le_trans hX (k hX).size))).trans ((k hX).block b hb)⟩) (fun pre X o k => hJg _ _ _ k (World.grownBy_alloc X o _)) (fun pre X m k => hJg _ _ _ k (grownBy_drewN X m _))
    (fun pre x X k _ => ?_) W (fun _ => Kb.refl K W) ((hW.cell (p := ⟨Bs, 0, none⟩) hlt).trans hBs) ((hW.cell (p := ⟨Bt, 0, none⟩) hlt2).trans hBt) h0
  obtain ⟨fn, tmps, assign, body, hy, hR⟩ := hY pre x X k
  refine ⟨fn, tmps, assign, body, hy, hR.mono ?_⟩
  rintro e Y (⟨h1, h2, h3⟩ | h4)
  · exact .inl ⟨h1, h2, fun _ => h3⟩
  · exact .inr h4

/-- pairs$1, as XMover's law of a loop wants it. -/
theorem pairs_comesG (n : Nat) (hn : 1 ≤ n) {Bs Bt g h : Nat} {K : Nat → Prop} {w : World} (hBs : w.cell? ⟨Bs, 0, none⟩ = some (.pointer (some ⟨g, 0, none⟩))) (hBt : w.cell? ⟨Bt, 0, none⟩ = some (.pointer (some ⟨h, 0, none⟩))) (hlt : Bs < w.heap.size) (hlt2 : Bt < w.heap.size) (hKw : ∀ b, K b → b < w.heap.size) :
    ComesG Fence.wide n Tryd.prog 59 #[.pointer (some ⟨Bs, 0, none⟩), .pointer (some ⟨Bt, 0, none⟩)] (fun x : Idx 4 => #[pptr g x.1, pptr h x.1]) K Bs Pre4 (fun ys _ => ys.map (·.1) = fst 4) (fun pre => ∃ k, k ≤ 4 ∧ pre.map (·.1) = fst k) w := by
  intro l J Jx W hW hJg hY h0
  refine pairs1_in n hn l Bs Bt g h (fun X Y => w.heap.size ≤ X.heap.size → Kb K X Y) J Jx (fun X Y m k hX => ⟨(k hX).size, (k hX).block⟩) (fun X Y Z k1 k2 hX => (k1 hX).trans (k2 (Nat.le_trans hX (k1 hX).size)))
    (fun X Y o k hX => ⟨Nat.le_trans (k hX).size (by simp), fun b hb => (Below.heap_alloc Y o b (Nat.lt_of_lt_of_le (hKw b hb) (Nat.le_trans hX (k hX).size))).trans ((k hX).block b hb)⟩) (fun pre X o k => hJg _ _ _ k (World.grownBy_alloc X o _)) (fun pre X m k => hJg _ _ _ k (grownBy_drewN X m _))
    (fun pre x X k hg => ?_) W (fun _ => Kb.refl K W) ((hW.cell (p := ⟨Bs, 0, none⟩) hlt).trans hBs) ((hW.cell (p := ⟨Bt, 0, none⟩) hlt2).trans hBt) h0
  obtain ⟨fn, tmps, assign, body, hy, hR⟩ := hY pre x X hg k
  refine ⟨fn, tmps, assign, body, hy, hR.mono ?_⟩
  rintro e Y (⟨h1, h2, h3⟩ | h4)
  · exact .inl ⟨h1, h2, fun _ => h3⟩
  · exact .inr h4

set_option maxHeartbeats 1000000 in
theorem pairs_any (n : Nat) (g h : Nat) (w : World) :
    CallsIn Fence.wide n Tryd.prog 40 #[.pointer (some ⟨g, 0, none⟩), .pointer (some ⟨h, 0, none⟩)] w fun e w' => e = .returned (.func (.func 59) #[] #[.pointer (some ⟨w.heap.size, 0, none⟩), .pointer (some ⟨w.heap.size + 1, 0, none⟩)]) ∧ w' = (w.alloc (.cells #[.pointer (some ⟨g, 0, none⟩)] 63)).alloc (.cells #[.pointer (some ⟨h, 0, none⟩)] 63) := by
  refine callsIn_of_wp Tryd.func40 rfl trivial ?_ rfl
  simp only [Tryd.ntmps40, List.size_toArray, List.length_cons, List.length_nil, Nat.reduceAdd, Nat.reduceSub, Array.replicate_succ, Array.replicate_zero, List.push_toArray, List.append_toArray, List.nil_append, List.cons_append]
  gi_wp2
  go_ret
  exact ⟨rfl, rfl⟩

end Go.Proofs.YtelalanhalbicaaDoor
