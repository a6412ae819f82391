/- A long region's order, checked piece by piece. -/
import Derived.Test.YtbpijlghdpflgaaDoorMem
import Derived.Deep.Quiet
namespace Go.Proofs.YtbpijlghdpflgaaDoor
open Go

/-- The listing of the first k. -/
def lexL (ops : Array Oper) (k : Nat) : Array Bool := (List.replicate k true ++ List.replicate (ops.size - k) false).toArray
/-- At k: it is ready, and nothing that is left binds it. -/
def lexAt (md : Region.Mode) (ops : Array Oper) (k : Nat) : Bool := (Region.ready md ops (lexL ops k)).contains k && Region.free md ops (lexL ops k) k
/-- From k on, so many. -/
def lexRun (md : Region.Mode) (ops : Array Oper) : Nat → Nat → Bool
  | 0, _ => true
  | f + 1, k => (Nat.ble ops.size k || lexAt md ops k) && lexRun md ops f (k + 1)
theorem lexRun_spec {md : Region.Mode} {ops : Array Oper} : ∀ (f k : Nat), lexRun md ops f k = true → ∀ j, k ≤ j → j < k + f → j < ops.size → lexAt md ops j = true
  | 0, _, _, j, h1, h2, _ => by omega
  | f + 1, k, h, j, h1, h2, h3 => by
    unfold lexRun at h
    rw [Bool.and_eq_true] at h
    rcases Nat.eq_or_lt_of_le h1 with rfl | h4
    · rcases Bool.or_eq_true_iff.1 h.1 with h5 | h5
      · have := Nat.le_of_ble_eq_true h5; omega
      · exact h5
    · exact lexRun_spec f (k + 1) h.2 j h4 (by omega) h3
theorem lexL_set (ops : Array Oper) (k : Nat) (h : k < ops.size) : (lexL ops k).setIfInBounds k true = lexL ops (k + 1) := by
  unfold lexL
  rw [List.setIfInBounds_toArray]
  congr 1
  rw [List.set_append_right _ _ (by simp)]
  rw [List.length_replicate, Nat.sub_self, show ops.size - k = (ops.size - (k + 1)) + 1 by omega, List.replicate_succ, List.set_cons_zero, show List.replicate (k + 1) true = List.replicate k true ++ [true] from List.replicate_succ', List.append_assoc]
  rfl
theorem lexFrom_of {md : Region.Mode} {ops : Array Oper} (he : (Region.ready md ops (lexL ops ops.size)).isEmpty = true) (h : ∀ j, j < ops.size → lexAt md ops j = true) : ∀ (f k : Nat), k + f = ops.size → Region.lexFrom md ops f k (lexL ops k) = true
  | 0, k, hk => by
    rw [show k = ops.size by omega]
    exact he
  | f + 1, k, hk => by
    unfold Region.lexFrom
    rw [lexL_set ops k (by omega), lexFrom_of he h f (k + 1) (by omega)]
    have := h k (by omega)
    unfold lexAt at this
    rw [this]
    rfl
/-- Eight pieces. -/
theorem lexB_8 (c : Nat) {md : Region.Mode} {ops : Array Oper} (hn : Nat.ble ops.size (8 * c) = true) (hs : Region.noSelect ops = true) (he : (Region.ready md ops (lexL ops ops.size)).isEmpty = true)
    (h0 : lexRun md ops c 0 = true) (h1 : lexRun md ops c c = true) (h2 : lexRun md ops c (2 * c) = true) (h3 : lexRun md ops c (3 * c) = true) (h4 : lexRun md ops c (4 * c) = true) (h5 : lexRun md ops c (5 * c) = true) (h6 : lexRun md ops c (6 * c) = true) (h7 : lexRun md ops c (7 * c) = true) : Region.lexB md ops = true := by
  have hn := Nat.le_of_ble_eq_true hn
  unfold Region.lexB
  rw [hs, Bool.true_and]
  have e : Array.replicate ops.size false = lexL ops 0 := by
    unfold lexL
    simp
  rw [e]
  refine lexFrom_of he (fun j hj => ?_) _ 0 (by omega)
  rcases Nat.lt_or_ge j c with q | q
  · exact lexRun_spec _ _ h0 j (by omega) (by omega) hj
  rcases Nat.lt_or_ge j (2 * c) with q | q
  · exact lexRun_spec _ _ h1 j (by omega) (by omega) hj
  rcases Nat.lt_or_ge j (3 * c) with q | q
  · exact lexRun_spec _ _ h2 j (by omega) (by omega) hj
  rcases Nat.lt_or_ge j (4 * c) with q | q
  · exact lexRun_spec _ _ h3 j (by omega) (by omega) hj
  rcases Nat.lt_or_ge j (5 * c) with q | q
  · exact lexRun_spec _ _ h4 j (by omega) (by omega) hj
  rcases Nat.lt_or_ge j (6 * c) with q | q
  · exact lexRun_spec _ _ h5 j (by omega) (by omega) hj
  rcases Nat.lt_or_ge j (7 * c) with q | q
  · exact lexRun_spec _ _ h6 j (by omega) (by omega) hj
  · exact lexRun_spec _ _ h7 j (by omega) (by omega) hj
end Go.Proofs.YtbpijlghdpflgaaDoor
