/- Bits turned in a text, one by one: plain arithmetic. No code is walked here. -/
import Derived.Test.YtbankbehfjogpaaVao
namespace Go.Proofs.Ytbankbehfjogpaa
open Go.RowKit

theorem mask_step (mask i : Nat) : mask % 2 ^ (i + 1) = mask % 2 ^ i + mask / 2 ^ i % 2 * 2 ^ i := by
  rw [Nat.pow_succ, Nat.mod_mul, Nat.mul_comm (2 ^ i)]
theorem mask_xor (mask i at_ : Nat) : mask % 2 ^ i * 2 ^ at_ ^^^ mask / 2 ^ i % 2 * 2 ^ (at_ + i) = mask % 2 ^ (i + 1) * 2 ^ at_ := by
  rw [mask_step, ← xor_add (Nat.mod_lt _ (Nat.pow_pos (by omega))), xor_shift, Nat.mul_assoc, ← Nat.pow_add, Nat.add_comm i at_]
theorem bit_pow8 (n : Nat) : 2 ^ (n % 8) * 256 ^ (n / 8) = 2 ^ n := by
  rw [show (256 : Nat) = 2 ^ 8 from rfl, ← Nat.pow_mul, ← Nat.pow_add, show n % 8 + 8 * (n / 8) = n by omega]

/-- A byte's bit is turned. -/
theorem turn_bit {xs : List Nat} {N mask i at_ : Nat} (hx : ∀ x ∈ xs, x < 256) (hl : at_ + i < 8 * xs.length) (hn : nm xs = N ^^^ mask % 2 ^ i * 2 ^ at_) (hb : mask / 2 ^ i % 2 = 1) :
    nm (xs.set ((at_ + i) / 8) (xs.getD ((at_ + i) / 8) 0 ^^^ 2 ^ ((at_ + i) % 8))) = N ^^^ mask % 2 ^ (i + 1) * 2 ^ at_ := by
  have h8 : (2 : Nat) ^ ((at_ + i) % 8) < 256 := Nat.lt_of_le_of_lt (Nat.pow_le_pow_right (by omega) (show (at_ + i) % 8 ≤ 7 by omega)) (by omega)
  have h := mask_xor mask i at_
  rw [hb, Nat.one_mul] at h
  rw [nm_set (by omega) hx h8, bit_pow8, hn, Nat.xor_assoc, h]
theorem turn_none {N mask i at_ : Nat} {V : Nat} (hn : V = N ^^^ mask % 2 ^ i * 2 ^ at_) (hb : mask / 2 ^ i % 2 = 0) : V = N ^^^ mask % 2 ^ (i + 1) * 2 ^ at_ := by
  rw [mask_step, hb, Nat.zero_mul, Nat.add_zero]
  exact hn
theorem turned_step {mask i : Nat} : (mask % 2 ^ (i + 1) ≠ 0) ↔ (mask % 2 ^ i ≠ 0 ∨ mask / 2 ^ i % 2 = 1) := by
  rw [mask_step]
  have h2 : 0 < 2 ^ i := Nat.pow_pos (by omega)
  rcases Nat.mod_two_eq_zero_or_one (mask / 2 ^ i) with h | h
  · rw [h]; simp
  · rw [h]; simp <;> omega

/-- What Take answers to a frame some of whose bits are turned. -/
theorem flt_turned {kind m at_ : Nat} {xs ys : List Nat} (hk : kind < 256) (hn : xs.length ≤ 4096) (hx : ∀ x ∈ xs, x < 256) (hy : ∀ x ∈ ys, x < 256) (hl : ys.length = (frm kind xs).length) (hm : m < 4294967296) (hat : at_ ≤ 8 * (frm kind xs).length) (hN : nm ys = nm (frm kind xs) ^^^ m * 2 ^ at_) :
    flt ys = if m = 0 then 0 else 42 := by
  have hf := frm_lt hk hn hx
  have hlen := frm_length kind xs
  by_cases h0 : m = 0
  · rw [if_pos h0]
    rw [h0, Nat.zero_mul, Nat.xor_zero] at hN
    have : ys = frm kind xs := by rw [← bys_nm hy, ← bys_nm hf, hN, hl]
    rw [this]
    exact flt_frm hk hn hx
  · rw [if_neg h0]
    have hs := sum_burst (ys := (frm kind xs).take ((frm kind xs).length - 4)) (zs := (frm kind xs).drop ((frm kind xs).length - 4)) (ys' := ys.take (ys.length - 4)) (zs' := ys.drop (ys.length - 4))
      (fun x h => hf x (List.mem_of_mem_take h)) (fun x h => hf x (List.mem_of_mem_drop h)) (by rw [List.length_drop]; omega) (fun x h => hy x (List.mem_of_mem_take h)) (fun x h => hy x (List.mem_of_mem_drop h)) (by rw [List.length_drop]; omega)
      (by rw [List.length_take, List.length_take]; omega) hm (by rw [List.take_append_drop]; exact hat) (by rw [frm_pre, frm_post, nm_bys (crc_lt (body_lt hk hn hx))]) (by rw [List.take_append_drop, List.take_append_drop]; exact hN)
    unfold flt
    rw [if_neg (by omega), if_neg (fun h => h0 (hs.1 h))]

end Go.Proofs.Ytbankbehfjogpaa
