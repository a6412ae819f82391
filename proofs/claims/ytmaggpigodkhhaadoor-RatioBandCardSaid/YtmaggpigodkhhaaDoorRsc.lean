/- RatioScales, walked. -/
import Derived.Test.YtmaggpigodkhhaaDoorRnm
namespace Go.Proofs.YtmaggpigodkhhaaDoor
open Go.RowKit

theorem canon_low {s : Bool} {V X k : Nat} {Q : Int} (hc : Canon s V X) (hX : X ≤ 1024) (hk : k ≤ 1024) (h : dv s V X = Q * (tp (4000 - k) : Int)) : X ≤ k := by
  rcases Nat.lt_or_ge k X with hlt | hge
  · have hodd := hc.2 (by omega)
    have e : tp (4000 - k) = tp (4000 - X) * tp (X - k) := by rw [← tp_add]; congr 1; omega
    have hev : tp (X - k) = 2 * tp (X - k - 1) := by
      obtain ⟨m, hm⟩ : ∃ m, X - k = m + 1 := ⟨X - k - 1, by omega⟩
      rw [hm, tp_succ, Nat.add_sub_cancel, Nat.mul_comm]
    have hp := tp_pos (4000 - X)
    have h1 : (V * tp (4000 - X) : Nat) = Q.natAbs * tp (4000 - k) := by
      have h2 := congrArg Int.natAbs h
      rw [Int.natAbs_mul] at h2
      cases s with
      | false =>
        have h3 : ((V * tp (4000 - X) : Nat) : Int).natAbs = Q.natAbs * (tp (4000 - k) : Int).natAbs := h2
        rwa [Int.natAbs_natCast, Int.natAbs_natCast] at h3
      | true =>
        have h3 : (-((V * tp (4000 - X) : Nat) : Int)).natAbs = Q.natAbs * (tp (4000 - k) : Int).natAbs := h2
        rwa [Int.natAbs_neg, Int.natAbs_natCast, Int.natAbs_natCast] at h3
    rw [e, hev] at h1
    have h3 : V * tp (4000 - X) = (2 * (Q.natAbs * tp (X - k - 1))) * tp (4000 - X) := by
      rw [h1]
      rw [Nat.mul_comm (tp (4000 - X)), ← Nat.mul_assoc, ← Nat.mul_assoc, Nat.mul_comm Q.natAbs 2, Nat.mul_assoc 2]
    have h4 := Nat.eq_of_mul_eq_mul_right hp h3
    omega
  · exact hge
theorem okay_half {Q : Int} {k : Nat} (h : Okay (Q * (tp (4000 - k) : Int))) (hk : k < 1024) : Okay (Q * (tp (4000 - (k + 1)) : Int)) := by
  obtain ⟨s, V, X, hc, hV, hX, hd⟩ := h
  have hXk := canon_low hc hX (by omega) hd
  refine half_okay hc hV (by omega) ?_
  rw [hd, show 4000 - k = (4000 - (k + 1)) + 1 by omega, tp_succ]
  generalize tp (4000 - (k + 1)) = T
  rw [Int.natCast_mul]
  exact (Int.mul_comm 2 (Q * (T : Int))).trans (Int.mul_assoc Q (T : Int) 2)
theorem half_tp (Q : Int) {k : Nat} (hk : k < 4000) : 2 * (Q * (tp (4000 - (k + 1)) : Int)) = Q * (tp (4000 - k) : Int) := by
  rw [show 4000 - k = (4000 - (k + 1)) + 1 by omega, tp_succ]
  generalize tp (4000 - (k + 1)) = T
  rw [Int.natCast_mul]
  exact (Int.mul_comm 2 (Q * (T : Int))).trans (Int.mul_assoc Q (T : Int) 2)
theorem quot_halves {H J M N P : Int} (h1 : 2 * H = M) (h2 : 2 * J = N) : H * P / J = M * P / N := by
  rw [← h1, ← h2, Int.mul_assoc, Int.mul_ediv_mul_of_pos _ _ (by omega)]
theorem quot_more {H M N : Int} {k : Nat} (h1 : 2 * H = M) : H * 2 ^ (k + 1) / N = M * 2 ^ k / N := by
  rw [← h1, Int.pow_succ, Int.mul_comm (2 ^ k) 2, ← Int.mul_assoc, Int.mul_comm H 2]
theorem qzero {p q : Prop} {N k R : Int} (h : Qerrs p q N k R 0) : (p ∧ q) ∧ (0 < N ∧ 0 ≤ k ∧ k ≤ 64) ∧ Okay R := by
  by_cases hpq : p ∧ q
  · by_cases ha : 0 < N ∧ 0 ≤ k ∧ k ≤ 64
    · refine ⟨hpq, ha, ?_⟩
      rcases h.2.2 hpq ha with ⟨ho, _⟩ | ⟨_, h0⟩
      · exact ho
      · cases h0
    · have := h.2.1 hpq ha
      cases this
  · have := h.1 hpq
    cases this
theorem DRes.open_ {w w' : World} {E : Int → Prop} {R : Int} {e : Ending} (h : DRes w E R e w') : ∃ s A n c x er, e = .returned (.tuple #[.agg #[.bool s, .slice A n c, .int .i64 x], .int .i64 er]) ∧ Hid (E er) ∧ Hid (DArg w' True (resD er R) (.agg #[.bool s, .slice A n c, .int .i64 x])) ∧ Hid (Below w.heap.size w w') := by
  obtain ⟨d, er, rfl, HE, HD, HB⟩ := h
  obtain ⟨s, A, n, c, x, rfl⟩ := HD.out.parts
  exact ⟨s, A, n, c, x, er, rfl, HE, HD.out.arg, HB⟩

end Go.Proofs.YtmaggpigodkhhaaDoor
