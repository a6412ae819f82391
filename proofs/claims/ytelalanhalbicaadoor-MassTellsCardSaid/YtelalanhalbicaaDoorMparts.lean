/- Package mass: parts. -/
import Derived.Test.YtelalanhalbicaaDoorRi
import Derived.Test.YtelalanhalbicaaDoorMover
import Derived.Sort.QuietIn
import Derived.Sort.CutIn
namespace Go.Proofs.YtelalanhalbicaaDoor
open Go.RowKit Go.Shelf
attribute [local go_sem] Oper.semAt_some

/-- The pointer to part k of the mass at block g. -/
def pptr (g k : Nat) : Value := .pointer (some ⟨g, 3 * k, none⟩)
/-- The first k parts' numbers. -/
def fst (k : Nat) : List Nat := upto (fun j => j) k

theorem fst_length (k : Nat) : (fst k).length = k := by unfold fst; exact upto_length _ _
/-- A front of the parts, in order. -/
def Pre4 (s : List (Idx 4)) : Prop := s.map (·.1) = fst s.length
theorem pre4_of {s : List (Idx 4)} {k : Nat} (h : s.map (·.1) = fst k) : Pre4 s := by
  have e := congrArg List.length h
  rw [List.length_map, fst_length] at e
  unfold Pre4
  rw [e]
  exact h
theorem Pre4.front {s : List (Idx 4)} {x : Idx 4} (h : Pre4 (s ++ [x])) : x.1 = s.length ∧ Pre4 s := by
  unfold Pre4 at h
  rw [List.length_append, List.length_singleton, List.map_append, show fst (s.length + 1) = fst s.length ++ [s.length] by unfold fst; rw [upto_succ]] at h
  have e := List.append_inj h (by rw [List.length_map, fst_length])
  exact ⟨by simpa using e.2, e.1⟩

set_option maxRecDepth 100000 in
set_option maxHeartbeats 4000000 in
theorem parts1_in (n : Nat) (hn : 1 ≤ n) (l Bs g : Nat) (R : World → World → Prop) (J Jx : List (Idx 4) → World → Prop)
    (hdr : ∀ W W' m, R W W' → R W (W'.drewN m)) (htr : ∀ W W' W'', R W W' → R W' W'' → R W W'')
    (hJd : ∀ pre W m, J pre W → J pre (W.drewN m))
    (hY : ∀ pre x W, J pre W → Pre4 (pre ++ [x]) → YieldAt Fence.wide (n - 1) Tryd.prog l #[pptr g x.1] W fun e W' =>
      (e = .returned (.bool true) ∧ J (pre ++ [x]) W' ∧ R W W') ∨ (e = .returned (.bool false) ∧ Jx (pre ++ [x]) W'))
    (W : World) (hR0 : R W W) (hBs : W.cell? ⟨Bs, 0, none⟩ = some (.pointer (some ⟨g, 0, none⟩))) (h0 : J [] W) :
    CallsIn Fence.wide n Tryd.prog 54 #[.func (.yield l) #[] #[], .pointer (some ⟨Bs, 0, none⟩)] W fun e W' => (∃ v, e = .returned v) ∧
      ((∃ ys : List (Idx 4), ys.map (·.1) = fst 4 ∧ J ys W') ∨ (∃ pre : List (Idx 4), (∃ k, k ≤ 4 ∧ pre.map (·.1) = fst k) ∧ Jx pre W')) := by
  have i0 : ∀ w : World, (Instr.index 87 (.agg #[.pointer (some ⟨g, 0, none⟩), .pointer (some ⟨g, 3, none⟩), .pointer (some ⟨g, 6, none⟩), .pointer (some ⟨g, 9, none⟩)]) (.int .i64 0)).run Tryd.prog w = .ok (.pointer (some ⟨g, 0, none⟩)) w := fun _ => by kernel_rfl
  have i1 : ∀ w : World, (Instr.index 87 (.agg #[.pointer (some ⟨g, 0, none⟩), .pointer (some ⟨g, 3, none⟩), .pointer (some ⟨g, 6, none⟩), .pointer (some ⟨g, 9, none⟩)]) (.int .i64 1)).run Tryd.prog w = .ok (.pointer (some ⟨g, 3, none⟩)) w := fun _ => by kernel_rfl
  have i2 : ∀ w : World, (Instr.index 87 (.agg #[.pointer (some ⟨g, 0, none⟩), .pointer (some ⟨g, 3, none⟩), .pointer (some ⟨g, 6, none⟩), .pointer (some ⟨g, 9, none⟩)]) (.int .i64 2)).run Tryd.prog w = .ok (.pointer (some ⟨g, 6, none⟩)) w := fun _ => by kernel_rfl
  have i3 : ∀ w : World, (Instr.index 87 (.agg #[.pointer (some ⟨g, 0, none⟩), .pointer (some ⟨g, 3, none⟩), .pointer (some ⟨g, 6, none⟩), .pointer (some ⟨g, 9, none⟩)]) (.int .i64 3)).run Tryd.prog w = .ok (.pointer (some ⟨g, 9, none⟩)) w := fun _ => by kernel_rfl
  refine callsIn_of_wp Tryd.func54 rfl trivial ?_ rfl
  simp only [Tryd.ntmps54, List.size_toArray, List.length_cons, List.length_nil, Nat.reduceAdd, Nat.reduceSub, Array.replicate_succ, Array.replicate_zero, List.push_toArray, List.append_toArray, List.nil_append, List.cons_append]
  gi_wp2
  gi_quiet (fail)
  gi_wp2
  gi_loopw [18] (fun i wr => ∃ (k : Nat) (pre : List (Idx 4)), k ≤ 4 ∧ i = .int .i64 (k : Int) ∧ pre.map (·.1) = fst k ∧ J pre wr ∧ R W wr)
    (fun i _ => 4 - (intOf i).toNat)
  case atStart => exact ⟨0, [], by omega, rfl, rfl, hJd _ _ _ h0, hdr _ _ _ hR0⟩
  case round =>
    obtain ⟨k, pre, hk, rfl, hpre, hJs, hRr⟩ := hrel
    by_cases hk4 : k < 4
    · have hk1 : k + 1 ≤ 4 := by omega
      have hb : (pre ++ [(⟨k, hk4⟩ : Idx 4)]).map (·.1) = fst (k + 1) := by
        unfold fst at hpre ⊢
        rw [List.map_append, hpre, upto_succ]
        rfl
      obtain ⟨fn, tmps, assign, body, hy, hR⟩ := hY pre ⟨k, hk4⟩ wr hJs (pre4_of hb)
      dsimp only at hy
      unfold pptr at hy
      have hc : k = 0 ∨ k = 1 ∨ k = 2 ∨ k = 3 := by omega
      rcases hc with rfl | rfl | rfl | rfl
      all_goals
        simp only [Nat.mul_zero, Nat.mul_one, Nat.reduceMul] at hy
        gi_wp2
        refine hR.mono ?_
        rintro e W3 (⟨rfl, hJ3, hR3⟩ | ⟨rfl, hJx3⟩)
        · gi_wp2
          go_roundw
          case rel => exact ⟨_, _, hk1, rfl, hb, hJ3, htr _ _ _ hRr hR3⟩
          case measure => simp [intOf]
        · gi_wp2
          refine bodyPost_ret (results_none rfl _ _ _) rfl ?_
          exact ⟨⟨_, rfl⟩, .inr ⟨_, ⟨_, hk1, hb⟩, hJx3⟩⟩
    · obtain rfl : k = 4 := by omega
      gi_wp2
      go_end0
      exact ⟨⟨_, rfl⟩, .inl ⟨_, hpre, hJs⟩⟩

theorem grownBy_drewN (W : World) (m : Nat) (r : Option Nat) : W.grownBy (W.drewN m) r := ⟨rfl, rfl, rfl, Nat.le_refl _, fun _ _ _ => rfl⟩

/-- parts$1, as the law of a loop over an iterator wants it. -/
theorem parts_comes (n : Nat) (hn : 1 ≤ n) {Bs g : Nat} {K : Nat → Prop} {w : World} (hBs : w.cell? ⟨Bs, 0, none⟩ = some (.pointer (some ⟨g, 0, none⟩))) (hlt : Bs < w.heap.size) :
    Comes Fence.wide n Tryd.prog 54 #[.pointer (some ⟨Bs, 0, none⟩)] (fun x : Idx 4 => #[pptr g x.1]) K Bs (fun ys _ => ys.map (·.1) = fst 4) (fun pre => ∃ k, k ≤ 4 ∧ pre.map (·.1) = fst k) w := by
  intro l J Jx W hW hJg hY h0
  refine parts1_in n hn l Bs g (Kb K) J Jx (fun W W' m h => ⟨h.size, h.block⟩) (fun _ _ _ h k => h.trans k) (fun pre W m h => hJg _ _ _ h (grownBy_drewN W m _)) (fun pre x W h _ => hY pre x W h) W (Kb.refl K W) ((hW.cell (p := ⟨Bs, 0, none⟩) hlt).trans hBs) h0

/-- parts$1, as XMover's law of a loop wants it. -/
theorem parts_comesG (n : Nat) (hn : 1 ≤ n) {Bs g : Nat} {K : Nat → Prop} {w : World} (hBs : w.cell? ⟨Bs, 0, none⟩ = some (.pointer (some ⟨g, 0, none⟩))) (hlt : Bs < w.heap.size) :
    ComesG Fence.wide n Tryd.prog 54 #[.pointer (some ⟨Bs, 0, none⟩)] (fun x : Idx 4 => #[pptr g x.1]) K Bs Pre4 (fun ys _ => ys.map (·.1) = fst 4) (fun pre => ∃ k, k ≤ 4 ∧ pre.map (·.1) = fst k) w := by
  intro l J Jx W hW hJg hY h0
  refine parts1_in n hn l Bs g (Kb K) J Jx (fun W W' m h => ⟨h.size, h.block⟩) (fun _ _ _ h k => h.trans k) (fun pre W m h => hJg _ _ _ h (grownBy_drewN W m _)) (fun pre x W h hg => hY pre x W hg h) W (Kb.refl K W) ((hW.cell (p := ⟨Bs, 0, none⟩) hlt).trans hBs) h0

set_option maxHeartbeats 1000000 in
theorem parts_any (n : Nat) (g : Nat) (w : World) :
    CallsIn Fence.wide n Tryd.prog 36 #[.pointer (some ⟨g, 0, none⟩)] w fun e w' => e = .returned (.func (.func 54) #[] #[.pointer (some ⟨w.heap.size, 0, none⟩)]) ∧ w' = w.alloc (.cells #[.pointer (some ⟨g, 0, none⟩)] 63) := by
  refine callsIn_of_wp Tryd.func36 rfl trivial ?_ rfl
  simp only [Tryd.ntmps36, List.size_toArray, List.length_cons, List.length_nil, Nat.reduceAdd, Nat.reduceSub, Array.replicate_succ, Array.replicate_zero, List.push_toArray, List.append_toArray, List.nil_append, List.cons_append]
  gi_wp2
  go_ret
  exact ⟨rfl, rfl⟩

end Go.Proofs.YtelalanhalbicaaDoor
