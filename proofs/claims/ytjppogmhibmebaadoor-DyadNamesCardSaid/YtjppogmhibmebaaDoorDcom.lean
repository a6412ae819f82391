/- Dyads: what the laws' walks have in common. -/
import Derived.Test.YtjppogmhibmebaaDoorDalive
import Derived.Test.YtjppogmhibmebaaDoorEcom
namespace Go.Proofs.YtjppogmhibmebaaDoor
open Go.RowKit

theorem DArg.okay {w : World} {p : Prop} {M : Int} {v : Value} (h : DArg w p M v) (hp : p) : Okay M := by
  obtain ⟨s, A, n, c, f, x, _, hr, hpd, hM⟩ := h
  obtain ⟨X, rfl, rfl⟩ := hM hp
  have m1 := hpd.1 hp
  obtain ⟨X', e1, c1, l1⟩ := may_canon m1 hr.out
  obtain rfl : X = X' := by omega
  exact ⟨s, vl f n, X, c1, vl_pw40 hr m1.1, l1, rfl⟩
theorem DArg.check {w : World} {p : Prop} {M : Int} {v : Value} (h : DArg w p M v) : Calls Tryd.prog 16 #[v] w fun e w' => ∃ er, e = .returned (.int .i64 er) ∧ Hid ((p → er = 0) ∧ (¬ p → er = 8)) ∧ Hid (Below w.heap.size w w') := by
  obtain ⟨s, A, n, c, f, x, rfl, hr, hpd, hM⟩ := h
  refine (dcheck_any hr s x).mono ?_
  rintro e w' ⟨rfl, hb⟩
  exact ⟨_, rfl, ⟨fun hp => if_pos (hpd.1 hp), fun hn => if_neg (fun hm => hn (hpd.2 hm))⟩, hb⟩
theorem half_okay {s : Bool} {V X : Nat} {H : Int} (hc : Canon s V X) (hV : V < pw 40) (hX : X < 1024) (hH : 2 * H = dv s V X) : Okay H := by
  have e := half_scaled (s := s) (V := V) (X := X) (by omega)
  obtain rfl : H = num s (V * tp (4000 - (X + 1))) := by omega
  rcases Nat.eq_zero_or_pos V with h0 | h0
  · subst h0
    rw [Nat.zero_mul, num_zero]
    exact okay_zero
  · by_cases hodd : V % 2 = 1
    · exact ⟨s, V, X + 1, ⟨fun h => by omega, fun _ => hodd⟩, hV, by omega, rfl⟩
    · have hX0 : X = 0 := by
        rcases Nat.eq_zero_or_pos X with h | h
        · exact h
        · exact absurd (hc.2 h) hodd
      subst hX0
      obtain ⟨m, rfl⟩ : ∃ m, V = m * 2 := ⟨V / 2, by omega⟩
      refine ⟨s, m, 0, ⟨fun h => by omega, fun h => absurd h (by omega)⟩, by omega, by omega, ?_⟩
      unfold dv
      rw [Nat.mul_assoc, Nat.mul_comm 2, ← tp_succ]

theorem Derrs.uniq {p q : Prop} {M N a b : Int} (h : Derrs p M a) (k : Derrs q N b) (hpq : p ↔ q) (hMN : M = N) : a = b := by
  subst hMN
  by_cases hp : p
  · exact (h.1 hp).uniq (k.1 (hpq.1 hp))
  · rw [h.2 hp, k.2 (fun hq => hp (hpq.2 hq))]
theorem Derrs.zero {p : Prop} {M : Int} (h : Derrs p M 0) : p ∧ Okay M := by
  by_cases hp : p
  · rcases h.1 hp with ⟨ho, _⟩ | ⟨_, h0⟩
    · exact ⟨hp, ho⟩
    · cases h0
  · have := h.2 hp
    cases this
theorem Derrs.good {p : Prop} {M er : Int} (h : Derrs p M er) (hp : p) (ho : Okay M) : er = 0 := (h.1 hp).uniq (.inl ⟨ho, rfl⟩)

theorem same_false {w : World} {p q : Prop} {M N : Int} {v u : Value} (h1 : DArg w p M v) (h2 : DArg w q N u) (hp : p) (hq : q) (he : ¬ M = N) :
    Calls Tryd.prog 18 #[v, u] w fun e w' => e = .returned (.bool false) ∧ Hid (Below w.heap.size w w') := by
  have h := dsame_any h1 h2 hp hq
  rwa [bool_of_not he] at h
theorem DArg.len {w : World} {p : Prop} {M : Int} {s : Bool} {A : Option Addr} {n c : Nat} {x : Int} (h : DArg w p M (.agg #[.bool s, .slice A n c, .int .i64 x])) : n ≤ c ∧ n ≤ 140737488355328 := by
  obtain ⟨s', A', n', c', f, x', hv, hr, _, _⟩ := h
  injection hv with hv
  simp at hv
  obtain ⟨_, ⟨_, rfl, rfl⟩, _⟩ := hv
  exact ⟨hr.cap, hr.max⟩
theorem Dn.sign {B : Nat} {w : World} {M : Int} {d : Value} (h : Dn B w M d) : ∃ s A n c x, d = .agg #[.bool s, .slice A n c, .int .i64 x] ∧ (M < 0 → s = true ∧ ((n : Int) == 0) = false) ∧ (M = 0 → s = false ∧ n = 0) ∧ (0 < M → s = false ∧ ((n : Int) == 0) = false) := by
  obtain ⟨s, u, X, V, rfl, hn, hc, hX, rfl⟩ := h
  obtain ⟨A, n, c, rfl⟩ := hn.shape
  have hl := hn.val.len0
  refine ⟨s, A, n, c, _, rfl, ?_⟩
  rcases Nat.eq_zero_or_pos V with h0 | h0
  · have hz : dv s V X = 0 := by rw [h0]; unfold dv; rw [Nat.zero_mul, num_zero]
    rw [hz]
    exact ⟨fun h => absurd h (by omega), fun _ => ⟨(hc.1 h0).1, hl.2 h0⟩, fun h => absurd h (by omega)⟩
  · have hpos := Nat.mul_pos h0 (tp_pos (4000 - X))
    have hn0 : ((n : Int) == 0) = false := by
      have : n ≠ 0 := fun e => by have := hl.1 e; omega
      simp [this]
    unfold dv
    generalize V * tp (4000 - X) = a at *
    cases s with
    | false => exact ⟨fun h => absurd h (by simp [num]), fun h => absurd h (by simp [num] <;> omega), fun _ => ⟨rfl, hn0⟩⟩
    | true => exact ⟨fun _ => ⟨rfl, hn0⟩, fun h => absurd h (by simp [num] <;> omega), fun h => absurd h (by simp [num] <;> omega)⟩

end Go.Proofs.YtjppogmhibmebaaDoor
