/- Bits, the lowest first, as slices of uint8: what is read; the reference's Cut. -/
import Derived.Test.YtnhnddhigbbleaaDoorRa
namespace Go.Proofs.YtnhnddhigbbleaaDoor
open Go.RowKit

/-- Powers of two, kept shut. -/
def tw (k : Nat) : Nat := 2 ^ k
theorem tw_zero : tw 0 = 1 := rfl
theorem tw_succ (k : Nat) : tw (k + 1) = tw k * 2 := by unfold tw; rw [Nat.pow_succ]
theorem tw_pos (k : Nat) : 0 < tw k := by unfold tw; exact Nat.pow_pos (by omega)
theorem tw_add (j k : Nat) : tw (j + k) = tw j * tw k := by unfold tw; rw [Nat.pow_add]
theorem tw_mono {j k : Nat} (h : j ≤ k) : tw j ≤ tw k := by unfold tw; exact Nat.pow_le_pow_right (by omega) h
theorem tw_pw (k : Nat) : pw k = tw (32 * k) := by
  unfold tw pw
  rw [Nat.pow_mul]

/-- A number's digits. -/
def bt (V j : Nat) : Nat := V / tw j % 2
theorem bt_le (V j : Nat) : bt V j ≤ 1 := by unfold bt; omega
theorem bt_low {V k : Nat} (h : V < tw (k + 1)) (hz : bt V k = 0) : V < tw k := by
  unfold bt at hz
  rw [tw_succ] at h
  have hp := tw_pos k
  have h2 : V / tw k < 2 := (Nat.div_lt_iff_lt_mul hp).2 (by rw [Nat.mul_comm]; exact h)
  have h0 : V / tw k = 0 := by
    generalize V / tw k = q at *
    omega
  rcases Nat.lt_or_ge V (tw k) with hlt | hge
  · exact hlt
  · have := Nat.div_pos hge hp
    omega
theorem bt_high {V k : Nat} (hz : bt V k ≠ 0) : tw k ≤ V := by
  rcases Nat.lt_or_ge V (tw k) with hlt | hge
  · unfold bt at hz
    rw [Nat.div_eq_of_lt hlt] at hz
    exact absurd rfl hz
  · exact hge
theorem bt_out {V k : Nat} (h : V < tw k) : bt V k = 0 := by
  unfold bt
  rw [Nat.div_eq_of_lt h]

/-- The slice '.slice A n c' reads, in the world w, as the n lowest digits of V, which has no more. -/
structure Bits (w : World) (B : Nat) (A : Option Addr) (n c V : Nat) : Prop where
  cap : n ≤ c
  max : n ≤ 140737488355328
  nil : A = none → c = 0
  lt : V < tw n
  at_ : 0 < n → ∃ b off, A = some ⟨b, off, none⟩ ∧ b < B ∧ ∀ j, j < n → w.cell? ⟨b, off + j, none⟩ = some (.int .u8 (bt V j : Int))

theorem Bits.below {w w' : World} {B n c V : Nat} {A : Option Addr} (h : Bits w B A n c V) (hb : Below B w w') : Bits w' B A n c V :=
  ⟨h.cap, h.max, h.nil, h.lt, fun hn => by
    obtain ⟨b, off, rfl, hB, hc⟩ := h.at_ hn
    exact ⟨b, off, rfl, hB, fun j hj => (hb.cell (p := ⟨b, off + j, none⟩) hB).trans (hc j hj)⟩⟩
theorem Bits.mono {w : World} {B B' n c V : Nat} {A : Option Addr} (h : Bits w B A n c V) (hb : B ≤ B') : Bits w B' A n c V :=
  ⟨h.cap, h.max, h.nil, h.lt, fun hn => by
    obtain ⟨b, off, rfl, hB, hc⟩ := h.at_ hn
    exact ⟨b, off, rfl, by omega, hc⟩⟩
theorem Bits.cut {w : World} {B n m c V : Nat} {A : Option Addr} (h : Bits w B A n c V) (hm : m ≤ n) (hV : V < tw m) : Bits w B A m c V :=
  ⟨Nat.le_trans hm h.cap, Nat.le_trans hm h.max, h.nil, hV, fun hn => by
    obtain ⟨b, off, rfl, hB, hc⟩ := h.at_ (by omega)
    exact ⟨b, off, rfl, hB, fun j hj => hc j (by omega)⟩⟩

/-- The digits of V, none that is 0 at the end. -/
def Bt (w : World) (B V : Nat) (v : Value) : Prop := ∃ A n c, v = .slice A n c ∧ Bits w B A n c V ∧ (0 < n → tw (n - 1) ≤ V)

theorem Bt.below {w w' : World} {B V : Nat} {v : Value} (h : Bt w B V v) (hb : Below B w w') : Bt w' B V v := by
  obtain ⟨A, n, c, hv, hr, hl⟩ := h
  exact ⟨A, n, c, hv, hr.below hb, hl⟩
theorem Bt.mono {w : World} {B B' V : Nat} {v : Value} (h : Bt w B V v) (hb : B ≤ B') : Bt w B' V v := by
  obtain ⟨A, n, c, hv, hr, hl⟩ := h
  exact ⟨A, n, c, hv, hr.mono hb, hl⟩

set_option maxHeartbeats 800000 in
theorem rcut_some (b off n c V : Nat) (w : World) (hn : n ≤ c) (hm : n ≤ 140737488355328) (hV : V < tw n) (h : ∀ j, j < n → w.cell? ⟨b, off + j, none⟩ = some (.int .u8 (bt V j : Int))) :
    Calls Tryd.prog 21 #[.slice (some ⟨b, off, none⟩) n c] w fun e w' => ∃ m, m ≤ n ∧ e = .returned (.slice (some ⟨b, off, none⟩) m c) ∧ w = w' ∧ V < tw m ∧ (0 < m → tw (m - 1) ≤ V) := by
  have HV := hid hV
  clear hV
  go_enter Tryd.func21, Tryd.ntmps21
  go_wp2
  go_loop [3] (fun i => ∃ k : Nat, k ≤ n ∧ i = .int .i64 k ∧ Hid (V < tw k)) (fun i => (intOf i).toNat)
  case atStart => exact ⟨n, Nat.le_refl _, rfl, HV⟩
  case round =>
    obtain ⟨k, hk, rfl, HK⟩ := hrel
    rcases Nat.eq_zero_or_pos k with h0 | h0
    · subst h0
      go_wp2
      go_ret
      exact ⟨0, Nat.zero_le _, rfl, rfl, HK.out, fun h => absurd h (by omega)⟩
    · obtain ⟨j, rfl⟩ : ∃ j, k = j + 1 := ⟨k - 1, by omega⟩
      have cj := h j (by omega)
      have hb1 := bt_le V j
      by_cases hz : bt V j = 0
      · have HL := hid (bt_low HK.out hz)
        rw [hz] at cj
        clear hz h hb1
        go_wp2
        go_round
        case rel => exact ⟨j, by omega, by go_num, HL⟩
        case measure => simp [intOf]
      · have HH := hid (bt_high hz)
        have hz1 : bt V j = 1 := by omega
        rw [hz1] at cj
        clear hz h hb1 hz1
        go_wp2
        go_ret
        exact ⟨j + 1, hk, rfl, rfl, HK.out, fun _ => HH.out⟩

set_option maxHeartbeats 800000 in
theorem rcut_none (w : World) :
    Calls Tryd.prog 21 #[.slice none 0 0] w fun e w' => e = .returned (.slice none 0 0) ∧ w = w' := by
  go_enter Tryd.func21, Tryd.ntmps21
  go_wp2
  refine wp_loop_rounds 1 ?_
  rw [rounds_succ]
  go_wp2
  go_ret
  exact ⟨rfl, rfl⟩

set_option maxHeartbeats 800000 in
theorem rcut_empty (p : Addr) (c : Nat) (w : World) :
    Calls Tryd.prog 21 #[.slice (some p) 0 c] w fun e w' => e = .returned (.slice (some p) 0 c) ∧ w = w' := by
  go_enter Tryd.func21, Tryd.ntmps21
  go_wp2
  refine wp_loop_rounds 1 ?_
  rw [rounds_succ]
  go_wp2
  go_ret
  exact ⟨rfl, rfl⟩

theorem rcut_at {w : World} {B n c V : Nat} {A : Option Addr} (h : Bits w B A n c V) :
    Calls Tryd.prog 21 #[.slice A n c] w fun e w' => ∃ m, e = .returned (.slice A m c) ∧ w = w' ∧ Bt w B V (.slice A m c) := by
  rcases Nat.eq_zero_or_pos n with h0 | h0
  · subst h0
    cases A with
    | none =>
      obtain rfl := h.nil rfl
      refine (rcut_none w).mono ?_
      rintro e w' ⟨rfl, rfl⟩
      exact ⟨_, rfl, rfl, _, _, _, rfl, h, fun h => absurd h (by omega)⟩
    | some p =>
      refine (rcut_empty p c w).mono ?_
      rintro e w' ⟨rfl, rfl⟩
      exact ⟨_, rfl, rfl, _, _, _, rfl, h, fun h => absurd h (by omega)⟩
  · obtain ⟨b, off, rfl, hB, hc⟩ := h.at_ h0
    refine (rcut_some b off n c V w h.cap h.max h.lt hc).mono ?_
    rintro e w' ⟨m, hm, rfl, rfl, hV, hl⟩
    exact ⟨_, rfl, rfl, _, _, _, rfl, h.cut hm hV, hl⟩

theorem rcut_any {w : World} {B n c V : Nat} {A : Option Addr} (h : Bits w B A n c V) :
    Calls Tryd.prog 21 #[.slice A n c] w fun e w' => ∃ v, e = .returned v ∧ w = w' ∧ Bt w B V v := by
  refine (rcut_at h).mono ?_
  rintro e w' ⟨m, rfl, rfl, hb⟩
  exact ⟨_, rfl, rfl, hb⟩

end Go.Proofs.YtnhnddhigbbleaaDoor
