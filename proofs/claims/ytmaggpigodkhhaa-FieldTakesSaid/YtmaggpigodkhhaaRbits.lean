/- Bits, the lowest first, as slices of uint8: what is read; the reference's Cut. -/
import Derived.Test.YtmaggpigodkhhaaCut
namespace Go.Proofs.Ytmaggpigodkhhaa
open Go.RowKit

/-- Powers of two, kept shut. -/
def tw (k : Nat) : Nat := 2 ^ k
theorem tw_zero : tw 0 = 1 := rfl
theorem tw_succ (k : Nat) : tw (k + 1) = tw k * 2 := by unfold tw; rw [Nat.pow_succ]
theorem tw_pos (k : Nat) : 0 < tw k := by unfold tw; exact Nat.pow_pos (by omega)
theorem tw_add (j k : Nat) : tw (j + k) = tw j * tw k := by unfold tw; rw [Nat.pow_add]
theorem tw_mono {j k : Nat} (h : j ≤ k) : tw j ≤ tw k := by unfold tw; exact Nat.pow_le_pow_right (by omega) h
theorem tw_pw (k : Nat) : pw k = tw (32 * k) := by
  unfold tw pw
  rw [Nat.pow_mul]

/-- A number's digits. -/
def bt (V j : Nat) : Nat := V / tw j % 2
theorem bt_le (V j : Nat) : bt V j ≤ 1 := by unfold bt; omega
theorem bt_low {V k : Nat} (h : V < tw (k + 1)) (hz : bt V k = 0) : V < tw k := by
  unfold bt at hz
  rw [tw_succ] at h
  have hp := tw_pos k
  have h2 : V / tw k < 2 := (Nat.div_lt_iff_lt_mul hp).2 (by rw [Nat.mul_comm]; exact h)
  have h0 : V / tw k = 0 := by
    generalize V / tw k = q at *
    omega
  rcases Nat.lt_or_ge V (tw k) with hlt | hge
  · exact hlt
  · have := Nat.div_pos hge hp
    omega
theorem bt_high {V k : Nat} (hz : bt V k ≠ 0) : tw k ≤ V := by
  rcases Nat.lt_or_ge V (tw k) with hlt | hge
  · unfold bt at hz
    rw [Nat.div_eq_of_lt hlt] at hz
    exact absurd rfl hz
  · exact hge
theorem bt_out {V k : Nat} (h : V < tw k) : bt V k = 0 := by
  unfold bt
  rw [Nat.div_eq_of_lt h]

/-- The slice '.slice A n c' reads, in the world w, as the n lowest digits of V, which has no more. -/
structure Bits (w : World) (B : Nat) (A : Option Addr) (n c V : Nat) : Prop where
  cap : n ≤ c
  max : n ≤ 140737488355328
  nil : A = none → c = 0
  lt : V < tw n
  at_ : 0 < n → ∃ b off, A = some ⟨b, off, none⟩ ∧ b < B ∧ ∀ j, j < n → w.cell? ⟨b, off + j, none⟩ = some (.int .u8 (bt V j : Int))

theorem Bits.below {w w' : World} {B n c V : Nat} {A : Option Addr} (h : Bits w B A n c V) (hb : Below B w w') : Bits w' B A n c V :=
  ⟨h.cap, h.max, h.nil, h.lt, fun hn => by
    obtain ⟨b, off, rfl, hB, hc⟩ := h.at_ hn
    exact ⟨b, off, rfl, hB, fun j hj => (hb.cell (p := ⟨b, off + j, none⟩) hB).trans (hc j hj)⟩⟩
theorem Bits.mono {w : World} {B B' n c V : Nat} {A : Option Addr} (h : Bits w B A n c V) (hb : B ≤ B') : Bits w B' A n c V :=
  ⟨h.cap, h.max, h.nil, h.lt, fun hn => by
    obtain ⟨b, off, rfl, hB, hc⟩ := h.at_ hn
    exact ⟨b, off, rfl, by omega, hc⟩⟩
theorem Bits.cut {w : World} {B n m c V : Nat} {A : Option Addr} (h : Bits w B A n c V) (hm : m ≤ n) (hV : V < tw m) : Bits w B A m c V :=
  ⟨Nat.le_trans hm h.cap, Nat.le_trans hm h.max, h.nil, hV, fun hn => by
    obtain ⟨b, off, rfl, hB, hc⟩ := h.at_ (by omega)
    exact ⟨b, off, rfl, hB, fun j hj => hc j (by omega)⟩⟩

/-- The digits of V, none that is 0 at the end. -/
def Bt (w : World) (B V : Nat) (v : Value) : Prop := ∃ A n c, v = .slice A n c ∧ Bits w B A n c V ∧ (0 < n → tw (n - 1) ≤ V)

theorem Bt.below {w w' : World} {B V : Nat} {v : Value} (h : Bt w B V v) (hb : Below B w w') : Bt w' B V v := by
  obtain ⟨A, n, c, hv, hr, hl⟩ := h
  exact ⟨A, n, c, hv, hr.below hb, hl⟩
theorem Bt.mono {w : World} {B B' V : Nat} {v : Value} (h : Bt w B V v) (hb : B ≤ B') : Bt w B' V v := by
  obtain ⟨A, n, c, hv, hr, hl⟩ := h
  exact ⟨A, n, c, hv, hr.mono hb, hl⟩

end Go.Proofs.Ytmaggpigodkhhaa
