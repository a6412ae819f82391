/- The reference's Times2, Over2, told, Left, Right, Bits, Low. -/
import Derived.Test.YtnhnddhigbbleaaDoorRlimbs
import Derived.Test.YtnhnddhigbbleaaDoorRh
namespace Go.Proofs.YtnhnddhigbbleaaDoor
open Go.RowKit

/-- The digits of V, from place k on, n of them, as cells. -/
def dq (V k n : Nat) : List Value := (List.range n).map fun j => Value.int .u8 (bt V (k + j) : Int)
theorem cells_of_bits {w : World} {B n c V k : Nat} {b off : Nat} (hk : k ≤ n) (h : ∀ j, j < n → w.cell? ⟨b, off + j, none⟩ = some (.int .u8 (bt V j : Int))) (_hB : B = B) (_hc : c = c) : ∀ p, some (⟨b, off + k, none⟩ : Addr) = some p → ∀ (j : Nat) (u : Value), (dq V k (n - k))[j]? = some u → w.cell? (p.add j) = some u := by
  intro p hp j u hj
  have hjn : j < n - k := by
    rcases Nat.lt_or_ge j (n - k) with h | h
    · exact h
    · rw [List.getElem?_eq_none (by simpa [dq] using h)] at hj; cases hj
  injection hp with hp
  subst hp
  simp [dq, hjn] at hj
  subst hj
  have : (⟨b, off + k, none⟩ : Addr).add j = ⟨b, off + (k + j), none⟩ := by unfold Addr.add; simp [Nat.add_assoc]
  rw [this]
  exact h (k + j) (by omega)

theorem bt_div (V k j : Nat) : bt (V / tw k) j = bt V (k + j) := by
  unfold bt
  rw [Nat.div_div_eq_div_mul, tw_add]
theorem bt_mul_low {V k j : Nat} (h : j < k) : bt (V * tw k) j = 0 := by
  obtain ⟨d, rfl⟩ : ∃ d, k = j + (1 + d) := ⟨k - j - 1, by omega⟩
  unfold bt
  rw [tw_add, tw_add, Nat.mul_left_comm, Nat.mul_div_cancel_left _ (tw_pos j), show tw 1 = 2 from rfl, Nat.mul_left_comm, Nat.mul_mod_right]
theorem bt_mul_high (V k j : Nat) : bt (V * tw k) (k + j) = bt V j := by
  unfold bt
  rw [tw_add, ← Nat.div_div_eq_div_mul, Nat.mul_div_cancel _ (tw_pos k)]

theorem dg_mul (V k n : Nat) : dg (V * tw k) (k + n) = List.replicate k (Value.int .u8 0) ++ dg V n := by
  unfold dg
  rw [List.range_add, List.map_append, List.map_map]
  congr 1
  · apply List.ext_getElem?
    intro j
    by_cases hj : j < k
    · simp [hj, bt_mul_low hj]
    · rw [List.getElem?_eq_none (by simpa using hj), List.getElem?_eq_none (by simpa using hj)]
  · apply List.map_congr_left
    intro j _
    show Value.int .u8 (bt (V * tw k) (k + j) : Int) = _
    rw [bt_mul_high]
theorem dg_div (V k n : Nat) : dg (V / tw k) n = dq V k n := by
  unfold dg dq
  apply List.map_congr_left
  intro j _
  rw [bt_div]
theorem dq_one (V k n : Nat) : ∀ u ∈ dq V k n, u.oneCell' = true := by
  intro u hu
  simp [dq] at hu
  obtain ⟨j, _, rfl⟩ := hu
  rfl

theorem mul_size {V n k : Nat} (hV : V < tw n) (h0 : 0 < n) (hl : tw (n - 1) ≤ V) : V * tw k < tw (k + n) ∧ tw (k + n - 1) ≤ V * tw k := by
  refine ⟨?_, ?_⟩
  · rw [tw_add, Nat.mul_comm (tw k)]
    exact Nat.mul_lt_mul_of_pos_right hV (tw_pos k)
  · rw [show k + n - 1 = k + (n - 1) by omega, tw_add, Nat.mul_comm (tw k)]
    exact Nat.mul_le_mul_right _ hl
theorem div_size {V n k : Nat} (hV : V < tw n) (h0 : k < n) (hl : tw (n - 1) ≤ V) : V / tw k < tw (n - k) ∧ tw (n - k - 1) ≤ V / tw k := by
  refine ⟨?_, ?_⟩
  · refine (Nat.div_lt_iff_lt_mul (tw_pos k)).2 ?_
    rw [← tw_add, show n - k + k = n by omega]
    exact hV
  · refine (Nat.le_div_iff_mul_le (tw_pos k)).2 ?_
    rw [← tw_add, show n - k - 1 + k = n - 1 by omega]
    exact hl

theorem bt_nil (w : World) (B : Nat) : Bt w B 0 (.slice none 0 0) := ⟨none, 0, 0, rfl, ⟨Nat.le_refl _, by omega, fun _ => rfl, tw_pos 0, fun h => absurd h (by omega)⟩, fun h => absurd h (by omega)⟩

theorem Bits.zero {w : World} {B c V : Nat} {A : Option Addr} (h : Bits w B A 0 c V) : V = 0 := by
  have := h.lt
  rw [tw_zero] at this
  omega

theorem Bt.len {w : World} {B V n c m : Nat} {A : Option Addr} (hl : 0 < n → tw (n - 1) ≤ V) (hV : V < tw m) (_h : Bits w B A n c V) : n ≤ m := by
  rcases Nat.lt_or_ge m n with h1 | h1
  · have a := hl (by omega)
    have b : tw m ≤ tw (n - 1) := tw_mono (by omega)
    omega
  · exact h1

set_option maxHeartbeats 800000 in
theorem Times2_any {w : World} {V : Nat} {v0 : Value} (hb : Bt w w.heap.size V v0) (hV : V < pw 40) (k : Nat) (hk : k ≤ 1280) :
    Calls Tryd.prog 32 #[v0, .int .i64 (k : Int)] w fun e w' => ∃ v, e = .returned v ∧ Below w.heap.size w w' ∧ Bt w' w'.heap.size (V * tw k) v := by
  obtain ⟨A, n, c, rfl, hx, hl⟩ := hb
  have hn : n ≤ 1280 := by
    rw [tw_pw, show 32 * 40 = 1280 from rfl] at hV
    rcases Nat.lt_or_ge 1280 n with h1 | h1
    · have a := hl (by omega)
      have b : tw 1280 ≤ tw (n - 1) := tw_mono (by omega)
      omega
    · exact h1
  rcases Nat.eq_zero_or_pos n with h0 | h0
  · subst h0
    have hz := hx.zero
    subst hz
    clear hx hl hV
    go_enter Tryd.func32, Tryd.ntmps32
    go_wp2
    go_ret
    exact ⟨_, rfl, Below.refl _ _, by rw [Nat.zero_mul]; exact bt_nil _ _⟩
  · obtain ⟨i0, hi, hz0, hz1, hz2⟩ := info_one info_u8
    have hmk := run_make_row1 (P := Tryd.prog) 43 5 i0 _ Tryd.underlying43 hi hz0 hz1 .i64 .i64 k (by rw [hz2]; omega) (by omega) w
    have bel0 : Below w.heap.size w (w.alloc (.cells (madeCells (Value.int .u8 0).cells k) 5)) := (Below.refl _ w).alloc (Nat.le_refl _) _
    have hown : (w.alloc (.cells (madeCells (Value.int .u8 0).cells k) 5)).ownsRow w.heap.size 5 1 (.slice (some ⟨w.heap.size, 0, none⟩) k k) k (List.replicate k (Value.int .u8 0)) := by
      have e := toList_madeCells_one (.int .u8 0) k
      refine ⟨by simp, .inr ⟨w.heap.size, k, _, rfl, Nat.le_refl _, heap_alloc_new w _, Nat.le_refl _, by unfold maxLen; omega, by rw [← Array.length_toList]; erw [e]; simp, ?_⟩⟩
      erw [e]
      simp
    obtain ⟨b, off, rfl, hbB, hc⟩ := hx.at_ h0
    have hcells := cells_of_bits (k := 0) (n := n) (B := 0) (c := 0) (Nat.zero_le _) (fun j hj => (bel0.cell (p := ⟨b, off + j, none⟩) hbB).trans (hc j hj)) rfl rfl
    have hms := mul_size (k := k) hx.lt h0 (hl h0)
    have hne : ((n : Int) == 0) = false := by simp; omega
    have Hown := hid hown
    have Hcells := hid hcells
    have Hms := hid hms
    have Hbel := hid bel0
    have hxc := hx.cap
    clear hx hl hV hown hcells hms bel0 hc hi hz0 hz1 hz2
    go_enter Tryd.func32, Tryd.ntmps32
    go_wp2_with (at_builtin; refine wpList_append_src rfl (.tmp 9) (.tmp 10) 43 rfl 5 (.int .u8 0) 1 Tryd.underlying43 info_u8 rfl (by decide) rfl rfl Hown.out Hbel.out.size (by simp [dq]) (fun h => by cases h) Hcells.out (dq_one _ _ _) (by omega) ?_; intro v' w' hown' hbel')
    go_ret
    have h := hown'.out
    have e : dq V 0 (n - 0) = dg V n := by simp [dq, dg]
    rw [e, ← dg_mul] at h
    obtain ⟨A1, c1, rfl, hb⟩ := Row.shape h Hms.out.1 (by omega)
    exact ⟨_, rfl, Hbel.out.trans hbel'.out, _, _, _, rfl, hb, fun _ => Hms.out.2⟩

end Go.Proofs.YtnhnddhigbbleaaDoor
