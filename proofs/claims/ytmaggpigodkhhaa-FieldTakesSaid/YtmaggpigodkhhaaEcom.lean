/- Laws' walks: what is too great to be gone through; a dyad that came in. -/
import Derived.Test.YtmaggpigodkhhaaDbox
namespace Go.Proofs.Ytmaggpigodkhhaa
open Go.RowKit

set_option maxHeartbeats 800000 in
theorem dgreat_any (s : Bool) (A : Option Addr) (n c : Nat) (x : Int) (w : World) (_hm : n ≤ 140737488355328) :
    Calls Try.prog 5 #[.agg #[.bool s, .slice A n c, .int .i64 x]] w fun e w' => e = .returned (.bool (decide (42 < n ∨ 1100 < x))) ∧ Hid (Below w.heap.size w w') := by
  have B0 := hid ((Below.refl w.heap.size w).alloc (Nat.le_refl _) (.cells #[.bool s, .slice A n c, .int .i64 x] 26))
  by_cases h1 : 42 < n
  · rw [bool_of_dec (.inl h1)]
    go_enter Try.func5, Try.ntmps5
    go_wp2
    go_ret
    exact ⟨rfl, B0.out⟩
  · by_cases h2 : 1100 < x
    · rw [bool_of_dec (.inr h2)]
      go_enter Try.func5, Try.ntmps5
      go_wp2
      go_ret
      exact ⟨rfl, B0.out⟩
    · rw [bool_of_not (fun h => h.elim h1 h2)]
      go_enter Try.func5, Try.ntmps5
      go_wp2
      go_ret
      exact ⟨by simp <;> omega, B0.out⟩

theorem arg_of {w : World} {A : Option Addr} {n c : Nat} {f : Nat → Nat} {s : Bool} {x : Int} (hr : Rd w w.heap.size A n c f) : ∃ (p : Prop) (M : Int), DArg w p M (.agg #[.bool s, .slice A n c, .int .i64 x]) := by
  by_cases hm : DMay s n f x
  · obtain ⟨X, rfl, c1, l1⟩ := may_canon hm hr.out
    exact ⟨True, dv s (vl f n) X, s, A, n, c, f, _, rfl, hr, ⟨fun _ => hm, fun _ => trivial⟩, fun _ => ⟨X, rfl, rfl⟩⟩
  · exact ⟨False, 0, s, A, n, c, f, _, rfl, hr, ⟨fun h => h.elim, fun h => hm h⟩, fun h => h.elim⟩
theorem arg_both {w : World} {A D : Option Addr} {n c d : Nat} {f : Nat → Nat} {s : Bool} {x : Int} (hr : Rd w w.heap.size A n c f) (hs : Rd w w.heap.size D n d f) : ∃ (p : Prop) (M : Int), DArg w p M (.agg #[.bool s, .slice A n c, .int .i64 x]) ∧ DArg w p M (.agg #[.bool s, .slice D n d, .int .i64 x]) := by
  by_cases hm : DMay s n f x
  · obtain ⟨X, rfl, c1, l1⟩ := may_canon hm hr.out
    exact ⟨True, dv s (vl f n) X, ⟨s, A, n, c, f, _, rfl, hr, ⟨fun _ => hm, fun _ => trivial⟩, fun _ => ⟨X, rfl, rfl⟩⟩, ⟨s, D, n, d, f, _, rfl, hs, ⟨fun _ => hm, fun _ => trivial⟩, fun _ => ⟨X, rfl, rfl⟩⟩⟩
  · exact ⟨False, 0, ⟨s, A, n, c, f, _, rfl, hr, ⟨fun h => h.elim, fun h => hm h⟩, fun h => h.elim⟩, ⟨s, D, n, d, f, _, rfl, hs, ⟨fun h => h.elim, fun h => hm h⟩, fun h => h.elim⟩⟩
theorem ret_bool {fn : Func} {R : Ending → World → Prop} {a : Act} {w : World} {p : Tmp} {v : Value} (h : fn.results = #[.tmp p]) (hp : a.tmps[p]?.getD undef = v) (hd : a.defers = []) (hR : R (.returned v) w) : bodyPost Try.prog fn R .ret a w := by
  refine bodyPost_ret (v := v) ?_ hd hR
  rw [results_tmp h]
  simpa using hp

end Go.Proofs.Ytmaggpigodkhhaa
