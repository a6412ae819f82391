/- Package frame: takeSum, fault, Take; Put. -/
import Derived.Test.YtiablmnaincciaaFrow
namespace Go.Proofs.Ytiablmnaincciaa
open Go.RowKit

theorem nm_take {xs : List Nat} {k x : Nat} (h : xs[k]? = some x) : nm (xs.take (k + 1)) = nm (xs.take k) + x * 256 ^ k := by
  have hl := (List.getElem?_eq_some_iff.1 h).1
  rw [List.take_add_one, h, nm_append]
  show _ + 256 ^ (xs.take k).length * (x + 256 * 0) = _
  rw [List.length_take, Nat.min_eq_left (by omega), Nat.mul_zero, Nat.add_zero, Nat.mul_comm]

set_option maxHeartbeats 1600000 in
theorem takeSum_any {w : World} {B c : Nat} {A : Option Addr} {zs : List Nat} (h : By w B A 4 c zs) :
    Calls Try.prog 21 #[.slice A 4 c] w fun e w' => e = .returned (.int .u32 (nm zs : Int)) ∧ w = w' := by
  obtain ⟨b, off, rfl, _, hc⟩ := h.at_ (by omega)
  have H := hid h
  have hcap := h.cap
  clear h
  go_enter Try.func21, Try.ntmps21
  go_wp2
  go_loop [3, 4, 5] (fun a _ i => ∃ k t : Nat, k ≤ 4 ∧ i = .int .i64 k ∧ a = .int .u32 (t : Int) ∧ Hid (t = nm (zs.take k))) (fun _ _ i => 4 - (intOf i).toNat)
  case atStart => exact ⟨0, 0, by omega, rfl, rfl, hid rfl⟩
  case round =>
    obtain ⟨k, t, hk, rfl, rfl, He⟩ := hrel
    by_cases hcon : k < 4
    · obtain ⟨x, hx⟩ : ∃ x, zs[k]? = some x := ⟨zs[k]'(by rw [H.out.len]; exact hcon), List.getElem?_eq_getElem _⟩
      have hcell := hc k x hx
      have hx256 := H.out.lt x (List.mem_of_getElem? hx)
      have hl8 : 8 * k < 32 := by omega
      have ht : t < 2 ^ (8 * k) := by
        rw [He.out, Nat.pow_mul]
        have := nm_lt (xs := zs.take k) (fun y hy => H.out.lt y (List.mem_of_mem_take hy))
        rwa [List.length_take, Nat.min_eq_left (by rw [H.out.len]; omega)] at this
      have hnext : Hid (nm (zs.take (k + 1)) = t + x * 2 ^ (8 * k)) := hid (by rw [nm_take hx, He.out, Nat.pow_mul])
      have hsm : x * 2 ^ (8 * k) < 4294967296 := by
        have h1 : (2 : Nat) ^ (8 * k) ≤ 2 ^ 24 := Nat.pow_le_pow_right (by omega) (by omega)
        have h2 := Nat.mul_le_mul (show x ≤ 255 by omega) h1
        omega
      have hj : t ||| x * 2 ^ (8 * k) = t + x * 2 ^ (8 * k) := by
        rw [Nat.or_comm, nat_join (8 * k) _ _ (Nat.mul_mod_left _ _) ht, Nat.add_comm]
      have ht32 : t < 4294967296 := Nat.lt_of_lt_of_le ht (by have := Nat.pow_le_pow_right (n := 2) (by omega) (show 8 * k ≤ 32 by omega); simpa using this)
      have hor : bits BinOp.or IntKind.u32 (t : Int) ((x : Int) * 2 ^ (8 * k) % 4294967296) = ((nm (zs.take (k + 1)) : Nat) : Int) := by
        rw [hnext.out, ← hj]
        have e := u32_or_nat t (x * 2 ^ (8 * k)) ht32 hsm
        rw [← e]
        congr 1
        have e2 : ((x * 2 ^ (8 * k) : Nat) : Int) % 4294967296 = ((x * 2 ^ (8 * k) : Nat) : Int) := by omega
        rw [← e2]
        simp
      clear hnext hj hsm ht ht32 hc hx
      go_wp2
      go_round
      case rel => exact ⟨k + 1, _, by omega, rfl, rfl, hid rfl⟩
      case measure => simp [intOf]; omega
    · obtain rfl : k = 4 := by omega
      go_wp2
      go_ret
      exact ⟨by rw [He.out, List.take_of_length_le (by rw [H.out.len]; exact Nat.le_refl _)]; rfl, rfl⟩

/-- A part of the bytes, from place lo on. -/
theorem By.part {w : World} {B n c b off : Nat} {xs : List Nat} (lo hi l : Nat) (h : By w B (some ⟨b, off, none⟩) n c xs) (h1 : hi = lo + l) (h2 : hi ≤ n) : By w B (some ⟨b, off + lo, none⟩) l (c - lo) ((xs.take hi).drop lo) := by
  have hl := h.len
  have hcap := h.cap
  refine ⟨by rw [List.length_drop, List.length_take]; omega, by omega, Nat.le_trans (by omega) h.max, fun x hx => h.lt x (List.mem_of_mem_take (List.mem_of_mem_drop hx)), fun hA => (by cases hA), fun h0 => ?_⟩
  obtain ⟨b', off', e, hB, hc⟩ := h.at_ (by omega)
  injection e with e
  injection e with e1 e2
  subst e1
  subst e2
  refine ⟨b, off + lo, rfl, hB, fun j x hj => ?_⟩
  rw [List.getElem?_drop, List.getElem?_take] at hj
  split at hj
  · rw [Nat.add_assoc]
    exact hc _ _ hj
  · cases hj
/-- The first bytes. -/
theorem By.first {w : World} {B n c : Nat} {A : Option Addr} {xs : List Nat} (l : Nat) (h : By w B A n c xs) (h2 : l ≤ n) : By w B A l c (xs.take l) := by
  have hl := h.len
  have hcap := h.cap
  refine ⟨by rw [List.length_take]; omega, by omega, Nat.le_trans (by omega) h.max, fun x hx => h.lt x (List.mem_of_mem_take hx), fun hA => ?_, fun h0 => ?_⟩
  · have := h.nil hA
    omega
  · obtain ⟨b, off, rfl, hB, hc⟩ := h.at_ (by omega)
    refine ⟨b, off, rfl, hB, fun j x hj => hc _ _ ?_⟩
    rw [List.getElem?_take] at hj
    split at hj
    · exact hj
    · cases hj

/-- What fault answers. -/
def flt (xs : List Nat) : Int :=
  if xs.length < 9 then 40
  else if nm (xs.drop (xs.length - 4)) = crc (xs.take (xs.length - 4)) then
    if xs.getD 0 0 = 72 ∧ xs.getD 1 0 = 1 ∧ xs.length - 9 ≤ 4096 ∧ xs.getD 3 0 * 256 + xs.getD 4 0 = xs.length - 9 then 0 else 41
  else 42

theorem or_small (a b : Nat) (ha : a < 65536) (hb : b < 65536) : bits BinOp.or IntKind.i64 (a : Int) (b : Int) = ((a ||| b : Nat) : Int) := by
  have hx : a ||| b < 2 ^ 16 := Nat.or_lt_two_pow (by omega) (by omega)
  show IntKind.i64.wrap ((BitVec.ofInt 64 (a : Int) ||| BitVec.ofInt 64 (b : Int)).toNat : Int) = _
  rw [BitVec.toNat_or, ofInt_u64 a (by omega), ofInt_u64 b (by omega), IntWalk.i64_in _ (by omega)]

set_option maxHeartbeats 6400000 in
theorem fault_any {w : World} {B n c : Nat} {A : Option Addr} {xs : List Nat} (h : By w B A n c xs) (hB : B ≤ w.heap.size) :
    Calls Try.prog 16 #[.slice A n c] w fun e w' => e = .returned (.int .i64 (flt xs)) ∧ Hid (Below w.heap.size w w') := by
  have H := hid h
  have hcap := h.cap
  have hmax := h.max
  have hlen := h.len
  by_cases h9 : n < 9
  · have hf : flt xs = 40 := by unfold flt; rw [if_pos (by omega)]
    rw [hf]
    have hw : IntKind.i64.wrap ((n : Int) - 9) = (n : Int) - 9 := IntWalk.i64_in _ (by omega)
    go_enter Try.func16, Try.ntmps16
    go_wp2
    go_ret
    exact ⟨rfl, hid (Below.refl _ _)⟩
  · obtain ⟨m, rfl⟩ : ∃ m, n = m + 9 := ⟨n - 9, by omega⟩
    have hw : IntKind.i64.wrap (((m + 9 : Nat) : Int) - 9) = (m : Int) := by rw [IntWalk.i64_in _ (by omega)]; omega
    obtain ⟨b, off, rfl, _, hc⟩ := h.at_ (by omega)
    have hw5 : IntKind.i64.wrap (5 + (m : Int)) = ((m + 5 : Nat) : Int) := by rw [IntWalk.i64_in _ (by omega)]; omega
    have hne : ¬ c = m + 5 := by omega
    have htn : ((m : Int) + 5).toNat = m + 5 := by omega
    have h45 : m + 9 - (m + 5) = 4 := by omega
    have hpart := h.part (m + 5) (m + 9) 4 (by omega) (by omega)
    have hfirst := h.first (m + 5) (by omega)
    have e4 : xs.length - 4 = m + 5 := by omega
    rw [List.take_of_length_le (by omega), ← e4] at hpart
    rw [show xs.take (m + 5) = xs.take (xs.length - 4) by rw [e4]] at hfirst
    rw [e4] at hpart
    have e5 : xs.drop (xs.length - 4) = xs.drop (m + 5) := by rw [e4]
    have CT : Hid (∀ w', Below w.heap.size w w' → Calls Try.prog 21 #[.slice (some ⟨b, off + (m + 5), none⟩) 4 (c - (m + 5))] w' fun e w'' => e = .returned (.int .u32 (nm (xs.drop (xs.length - 4)) : Int)) ∧ w' = w'') := hid fun w' hb => by
      rw [e5]
      exact takeSum_any ((hpart.mono hB).below hb)
    have CS : Hid (∀ w', Below w.heap.size w w' → Calls Try.prog 10 #[.slice (some ⟨b, off, none⟩) (m + 5) c] w' fun e w'' => e = .returned (.int .u32 (crc (xs.take (xs.length - 4)) : Int)) ∧ w' = w'') := hid fun w' hb => Sum_any ((hfirst.mono hB).below hb)
    have B0 := hid (Below.refl w.heap.size w).drew
    have Hflt : Hid (flt xs = if nm (xs.drop (xs.length - 4)) = crc (xs.take (xs.length - 4)) then if xs.getD 0 0 = 72 ∧ xs.getD 1 0 = 1 ∧ m ≤ 4096 ∧ xs.getD 3 0 * 256 + xs.getD 4 0 = m then 0 else 41 else 42) := hid (by
      unfold flt
      rw [if_neg (by omega), show xs.length - 9 = m by omega])
    have hat : ∀ j, j < 9 → w.cell? ⟨b, off + j, none⟩ = some (.int .u8 (xs.getD j 0 : Int)) := fun j hj => by
      refine hc j _ ?_
      rw [List.getD_eq_getElem?_getD, List.getElem?_eq_getElem (by omega)]
      rfl
    have hlt : ∀ j, xs.getD j 0 < 256 := fun j => by
      rw [List.getD_eq_getElem?_getD]
      cases hx : xs[j]? with
      | none => show 0 < 256; omega
      | some x => exact h.lt x (List.mem_of_getElem? hx)
    have k0 := hid (hat 0 (by omega))
    have k1 := hid (hat 1 (by omega))
    have k3 := hid (hat 3 (by omega))
    have k4 := hid (hat 4 (by omega))
    have l0 := hid (hlt 0)
    have l1 := hid (hlt 1)
    have l3 := hid (hlt 3)
    have l4 := hid (hlt 4)
    generalize nm (xs.drop (xs.length - 4)) = S1 at *
    generalize crc (xs.take (xs.length - 4)) = S2 at *
    generalize xs.getD 0 0 = x0 at *
    generalize xs.getD 1 0 = x1 at *
    generalize xs.getD 3 0 = x3 at *
    generalize xs.getD 4 0 = x4 at *
    generalize flt xs = fx at *
    clear hpart hfirst e4 e5 hat hlt hc h H hlen
    go_enter Try.func16, Try.ntmps16
    go_upto_region 3 with fail
    go_region_with (first
      | (go_at_call 21; (try simp only [htn, h45]); with_reducible refine (CT.out _ B0.out).mono ?_; rintro e w' ⟨rfl, rfl⟩)
      | (go_at_call 10; (try simp only [htn, h45]); with_reducible refine (CS.out _ B0.out).mono ?_; rintro e w' ⟨rfl, rfl⟩))
    all_goals
      have d0 : w.drew.cell? ⟨b, off, none⟩ = some (.int .u8 (x0 : Int)) := k0.out
      have d1 : w.drew.cell? ⟨b, off + 1, none⟩ = some (.int .u8 (x1 : Int)) := k1.out
      have hres : ∀ z : Int, z = fx → (Ending.returned (Value.int .i64 z) = Ending.returned (Value.int .i64 fx)) := fun z h => by rw [h]
      by_cases hS : S1 = S2
      · rw [if_pos hS] at Hflt
        by_cases h0 : x0 = 72
        · by_cases h1 : x1 = 1
          · by_cases hM : m ≤ 4096
            · subst hS
              subst h0
              subst h1
              have Hl3 := l3.out
              have Hl4 := l4.out
              have d3 : w.drew.drew.cell? ⟨b, off + 3, none⟩ = some (.int .u8 (x3 : Int)) := k3.out
              have d4 : w.drew.drew.cell? ⟨b, off + 4, none⟩ = some (.int .u8 (x4 : Int)) := k4.out
              have hwr : IntKind.i64.wrap ((x3 : Int) * 256) = (x3 : Int) * 256 := IntWalk.i64_in _ (by omega)
              have hor : bits BinOp.or IntKind.i64 ((x3 : Int) * 256) (x4 : Int) = ((x3 * 256 + x4 : Nat) : Int) := by
                rw [← nat_join 8 (x3 * 256) x4 (by omega) (by omega)]
                exact or_small (x3 * 256) x4 (by omega) (by omega)
              have B1 := hid (B0.out.drew)
              by_cases hL : x3 * 256 + x4 = m
              · have hb2 : (((x3 * 256 + x4 : Nat) : Int) != (m : Int)) = false := by simp; omega
                rw [if_pos ⟨rfl, rfl, hM, hL⟩] at Hflt
                go_wp2_with fail
                go_region
                all_goals
                  go_wp2
                  go_ret
                  exact ⟨by rw [Hflt.out]; rfl, B1⟩
              · have hb2 : (((x3 * 256 + x4 : Nat) : Int) != (m : Int)) = true := by simp; omega
                rw [if_neg (fun h => hL h.2.2.2)] at Hflt
                go_wp2_with fail
                go_region
                all_goals
                  go_wp2
                  go_ret
                  exact ⟨by rw [Hflt.out]; rfl, B1⟩
            · rw [if_neg (fun h => hM h.2.2.1)] at Hflt
              subst hS
              subst h0
              subst h1
              go_wp2
              go_ret
              exact ⟨by rw [Hflt.out]; rfl, B0⟩
          · have hb2 : ((x1 : Int) != 1) = true := by simp; omega
            rw [if_neg (fun h => h1 h.2.1)] at Hflt
            subst hS
            subst h0
            go_wp2
            go_ret
            exact ⟨by rw [Hflt.out]; rfl, B0⟩
        · have hb2 : ((x0 : Int) != 72) = true := by simp; omega
          rw [if_neg (fun h => h0 h.1)] at Hflt
          subst hS
          go_wp2
          go_ret
          exact ⟨by rw [Hflt.out]; rfl, B0⟩
      · have hb1 : ((S1 : Int) != (S2 : Int)) = true := by simp; omega
        rw [if_neg hS] at Hflt
        go_wp2
        go_ret
        exact ⟨by rw [Hflt.out]; rfl, B0⟩

end Go.Proofs.Ytiablmnaincciaa
