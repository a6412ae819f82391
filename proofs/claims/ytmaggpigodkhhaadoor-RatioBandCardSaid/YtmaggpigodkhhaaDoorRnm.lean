/- RatioNames, walked. -/
import Derived.Test.YtmaggpigodkhhaaDoorRal
namespace Go.Proofs.YtmaggpigodkhhaaDoor
open Go.RowKit

theorem DRes.bade {w w' : World} {E : Int → Prop} {R er0 : Int} {e : Ending} (h : DRes w E R e w') (h0 : ∀ er, E er → er = er0) : ∃ s A n c x, e = .returned (.tuple #[.agg #[.bool s, .slice A n c, .int .i64 x], .int .i64 er0]) ∧ Hid (Below w.heap.size w w') := by
  obtain ⟨d, er, rfl, HE, HD, HB⟩ := h
  obtain rfl := h0 _ HE.out
  obtain ⟨s, A, n, c, x, rfl⟩ := HD.out.parts
  exact ⟨s, A, n, c, x, rfl, HB⟩
theorem DArg.bad0 (w : World) : DArg w False 0 (.agg #[.bool true, .slice none 0 0, .int .i64 0]) :=
  ⟨true, none, 0, 0, fun _ => 0, 0, rfl, Rd.nil w _, ⟨fun h => h.elim, fun h => absurd (h.2.2.2.1 rfl) (by decide)⟩, fun h => h.elim⟩
/-- One limb, in a row of its own. -/
def lone (k x j : Nat) : Nat := if j = k then x else 0
theorem vl_lone (k x : Nat) : vl (lone k x) (k + 1) = x * pw k := by
  rw [vl_succ, show vl (lone k x) k = 0 from ?_]
  · simp [lone]
  · rw [vl_congr (f := lone k x) (g := fun _ => 0) (k := k) (fun j hj => if_neg (by omega))]
    have : ∀ n, vl (fun _ => 0) n = 0 := fun n => by
      induction n with
      | zero => rfl
      | succ n ih => rw [vl_succ, ih, Nat.zero_mul]
    exact this k
theorem Blk.lone {w : World} {e : TypeId} {g k : Nat} (h : Blk w e g (k + 1) (lone k 1)) (hk : k ≤ 39) : Rd w w.heap.size (some ⟨g, 0, none⟩) (k + 1) (k + 1) (Proofs.YtmaggpigodkhhaaDoor.lone k 1) :=
  h.rd h.lt (by omega) (fun j => by unfold Proofs.YtmaggpigodkhhaaDoor.lone; split <;> omega) (fun j hj => if_neg (by omega))
theorem darg_lone {w : World} {e : TypeId} {g k X : Nat} (h : Blk w e g (k + 1) (lone k 1)) (hk : k ≤ 39) (hX : X ≤ 1024) (h0 : 0 < X → k = 0) : DArg w True ((pw k * tp (4000 - X) : Nat) : Int) (.agg #[.bool false, .slice (some ⟨g, 0, none⟩) (k + 1) (k + 1), .int .i64 (X : Int)]) := by
  refine ⟨false, _, k + 1, k + 1, lone k 1, (X : Int), rfl, h.lone hk, ⟨fun _ => ⟨⟨by omega, fun _ => ?_⟩, by omega, by omega, fun h => by omega, fun hx => ?_⟩, fun _ => trivial⟩, fun _ => ⟨X, rfl, ?_⟩⟩
  · show (if k + 1 - 1 = k then 1 else 0) ≠ 0
    rw [if_pos (by omega)]
    omega
  · have := h0 (by omega)
    subst this
    rfl
  · rw [vl_lone, Nat.one_mul]
    rfl
theorem blk_one (w : World) (e : TypeId) : Blk (w.alloc (.cells #[.int .u32 1] e)) e w.heap.size 1 (lone 0 1) := by
  refine ⟨_, heap_alloc_new w _, rfl, fun j hj => ?_⟩
  obtain rfl : j = 0 := by omega
  rfl
/-- The greatest quotient is no dyad. -/
theorem tp_le_ {a b : Nat} (h : a ≤ b) : tp a ≤ tp b := by unfold tp; exact Nat.pow_le_pow_right (by omega) h
theorem tp_lt_ {a b : Nat} (h : a < b) : tp a < tp b := by unfold tp; exact Nat.pow_lt_pow_right (by omega) h
theorem huge_tiny : pw 39 * tp (4000 - 0) = tp 2272 * (pw 0 * tp (4000 - 1024)) := by
  rw [pw_tp, pw_tp, ← tp_add, ← tp_add, ← tp_add]
theorem over_gen {k : Nat} (hk : 1280 ≤ k) : ¬ Okay ((tp k : Int) * (tp (4000 - (0 : Int).toNat) : Int)) := by
  have h := not_okay (s := false) (V := tp k) (x := 0) ⟨fun h => absurd h (by have := tp_pos k; omega), fun h => absurd h (by omega)⟩ (by omega) (.inl ?_)
  · rw [show (0 : Int).toNat = 0 from rfl, ← Int.natCast_mul]
    exact h
  · rw [pw_tp]
    exact tp_le_ (by omega)
theorem over_not : ¬ Okay ((tp 2272 : Int) * (tp (4000 - (0 : Int).toNat) : Int)) := over_gen (by omega)
theorem tiny_huge : pw 0 * tp (4000 - 1024) * tp 64 < pw 39 * tp (4000 - 0) := by
  rw [pw_tp, pw_tp, ← tp_add, ← tp_add, ← tp_add]
  exact tp_lt_ (by omega)

theorem qover {w w' : World} {e : Ending} {N k R : Int} (h : DRes w (Qerrs True True N k R) R e w') (hN : 0 < N) (hk : 0 ≤ k ∧ k ≤ 64) (hR : ¬ Okay R) : ∃ s A n c x, e = .returned (.tuple #[.agg #[.bool s, .slice A n c, .int .i64 x], .int .i64 10]) ∧ Hid (Below w.heap.size w w') :=
  h.bade fun _ he => (he.2.2 ⟨trivial, trivial⟩ ⟨hN, hk.1, hk.2⟩).uniq (.inr ⟨hR, rfl⟩)
theorem qarg {w w' : World} {e : Ending} {N k R R' : Int} (h : DRes w (Qerrs True True N k R) R' e w') (hN : ¬ (0 < N ∧ 0 ≤ k ∧ k ≤ 64)) : ∃ s A n c x, e = .returned (.tuple #[.agg #[.bool s, .slice A n c, .int .i64 x], .int .i64 2]) ∧ Hid (Below w.heap.size w w') :=
  h.bade fun _ he => he.2.1 ⟨trivial, trivial⟩ hN
theorem qbad {w w' : World} {e : Ending} {N k R R' : Int} {q : Prop} (h : DRes w (Qerrs False q N k R) R' e w') : ∃ s A n c x, e = .returned (.tuple #[.agg #[.bool s, .slice A n c, .int .i64 x], .int .i64 8]) ∧ Hid (Below w.heap.size w w') :=
  h.bade fun _ he => he.1 (fun h => h.1)
theorem qgood {w w' : World} {e : Ending} {N k R R2 : Int} (h : DRes w (Qerrs True True N k R) R e w') (hN : 0 < N) (hk : 0 ≤ k ∧ k ≤ 64) (he : R = R2) (hR : Okay R2) : Good w R2 e w' := by
  subst he
  exact h.goodq fun er he => he.zero_ trivial trivial hN hk hR

theorem over_quot : ((pw 39 * tp (4000 - 0) : Nat) : Int) * 2 ^ (0 : Int).toNat / ((pw 0 * tp (4000 - 1024) : Nat) : Int) = (tp 2272 : Int) := by
  have hp : 0 < pw 0 * tp (4000 - 1024) := Nat.mul_pos (pw_pos _) (tp_pos _)
  rw [huge_tiny]
  generalize pw 0 * tp (4000 - 1024) = U at *
  generalize tp 2272 = T
  rw [show ((0 : Int)).toNat = 0 from rfl, Int.pow_zero, Int.mul_one, Int.natCast_mul, Int.mul_ediv_cancel _ (by omega)]
theorem tiny_quot : ((pw 0 * tp (4000 - 1024) : Nat) : Int) * 2 ^ (64 : Int).toNat / ((pw 39 * tp (4000 - 0) : Nat) : Int) = 0 := by
  have h := tiny_huge
  have e : ((2 : Int) ^ (64 : Int).toNat) = ((tp 64 : Nat) : Int) := by unfold tp; rw [show (64 : Int).toNat = 64 from rfl]; simp
  rw [e, ← Int.natCast_mul]
  generalize pw 0 * tp (4000 - 1024) * tp 64 = a at *
  generalize pw 39 * tp (4000 - 0) = b at *
  rw [← Int.natCast_ediv, Nat.div_eq_of_lt h]
  rfl
theorem tiny_up : -(-(((pw 0 * tp (4000 - 1024) : Nat) : Int) * 2 ^ (64 : Int).toNat) / ((pw 39 * tp (4000 - 0) : Nat) : Int)) = 1 := by
  have h := tiny_huge
  have hp : 0 < pw 0 * tp (4000 - 1024) * tp 64 := Nat.mul_pos (Nat.mul_pos (pw_pos _) (tp_pos _)) (tp_pos _)
  have e : ((2 : Int) ^ (64 : Int).toNat) = ((tp 64 : Nat) : Int) := by unfold tp; rw [show (64 : Int).toNat = 64 from rfl]; simp
  rw [e, ← Int.natCast_mul]
  generalize pw 0 * tp (4000 - 1024) * tp 64 = a at *
  generalize pw 39 * tp (4000 - 0) = b at *
  have : (-(a : Int)) / (b : Int) = -1 := ((Int.ediv_emod_unique (a := -(a : Int)) (b := (b : Int)) (r := (b : Int) - a) (q := -1) (by omega)).2 ⟨by omega, by omega, by omega⟩).1
  rw [this]
  rfl

end Go.Proofs.YtmaggpigodkhhaaDoor
