/- The document's Take. -/
import Derived.Test.YtiablmnaincciaaFref
import Derived.Deep.RegionLaw
namespace Go.Proofs.Ytiablmnaincciaa
open Go.RowKit

theorem By.cell {w : World} {B n c b off : Nat} {xs : List Nat} (h : By w B (some ⟨b, off, none⟩) n c xs) {j : Nat} (hj : j < n) : w.cell? ⟨b, off + j, none⟩ = some (.int .u8 (xs.getD j 0 : Int)) := by
  obtain ⟨b', off', e, _, hc⟩ := h.at_ (by omega)
  injection e with e
  injection e with e1 e2
  subst e1
  subst e2
  refine hc j _ ?_
  rw [List.getD_eq_getElem?_getD, List.getElem?_eq_getElem (by rw [h.len]; exact hj)]
  rfl
theorem By.getD {w : World} {B n c : Nat} {A : Option Addr} {xs : List Nat} (h : By w B A n c xs) (j : Nat) : xs.getD j 0 < 256 := by
  rw [List.getD_eq_getElem?_getD]
  cases hx : xs[j]? with
  | none => show 0 < 256; omega
  | some x => exact h.lt x (List.mem_of_getElem? hx)
theorem drop_last4 {xs : List Nat} {m : Nat} (h : xs.length = m + 9) : xs.drop (m + 5) = [xs.getD (m + 5) 0, xs.getD (m + 6) 0, xs.getD (m + 7) 0, xs.getD (m + 8) 0] := by
  apply List.ext_getElem?
  intro i
  rw [List.getElem?_drop]
  have hg : ∀ j, j < xs.length → xs[j]? = some (xs.getD j 0) := fun j hj => by
    rw [List.getD_eq_getElem?_getD, List.getElem?_eq_getElem hj]; rfl
  match i with
  | 0 => exact hg _ (by omega)
  | 1 => exact hg _ (by omega)
  | 2 => exact hg _ (by omega)
  | 3 => exact hg _ (by omega)
  | i + 4 => rw [List.getElem?_eq_none (by omega)]; rfl

set_option maxHeartbeats 1600000 in
theorem RTake_short {w : World} {n c : Nat} {A : Option Addr} (hn : n < 9) :
    Calls Try.prog 13 #[.slice A n c] w fun e w' => e = .returned (.tuple #[.int .u8 0, .slice none 0 0, .int .i64 40]) ∧ w = w' := by
  go_enter Try.func13, Try.ntmps13
  go_wp2
  go_ret3
  exact ⟨rfl, rfl⟩

set_option maxHeartbeats 6400000 in
theorem RTake_sum {w : World} {B m c : Nat} {A : Option Addr} {xs : List Nat} (h : By w B A (m + 9) c xs) (hne : nm (xs.drop (m + 5)) ≠ crc (xs.take (m + 5))) :
    Calls Try.prog 13 #[.slice A (m + 9) c] w fun e w' => e = .returned (.tuple #[.int .u8 0, .slice none 0 0, .int .i64 42]) ∧ w = w' := by
  have hcap := h.cap
  have hmax := h.max
  obtain ⟨b, off, rfl, _, -⟩ := h.at_ (by omega)
  have CS := hid (RSum_any (h.first (m + 5) (by omega)))
  have hsl := crc_lt (xs := xs.take (m + 5)) (fun x hx => h.lt x (List.mem_of_mem_take hx))
  rw [drop_last4 h.len] at hne
  have k0 := h.cell (j := m + 5) (by omega)
  have k1 := h.cell (j := m + 6) (by omega)
  have k2 := h.cell (j := m + 7) (by omega)
  have k3 := h.cell (j := m + 8) (by omega)
  have l0 := h.getD (m + 5)
  have l1 := h.getD (m + 6)
  have l2 := h.getD (m + 7)
  have l3 := h.getD (m + 8)
  generalize xs.getD (m + 5) 0 = z0 at *
  generalize xs.getD (m + 6) 0 = z1 at *
  generalize xs.getD (m + 7) 0 = z2 at *
  generalize xs.getD (m + 8) 0 = z3 at *
  generalize crc (xs.take (m + 5)) = s at *
  have g0 : ((m : Int) + 9 - 4).toNat = m + 5 := by omega
  have g1 : ((m : Int) + 9 - 3).toNat = m + 6 := by omega
  have g2 : ((m : Int) + 9 - 2).toNat = m + 7 := by omega
  have g3 : ((m : Int) + 9 - 1).toNat = m + 8 := by omega
  have hcase : ((z0 : Int) != (s : Int) % 256) = true ∨ ((z0 : Int) != (s : Int) % 256) = false ∧ (((z1 : Int) != (s : Int) / 256 % 256) = true ∨ ((z1 : Int) != (s : Int) / 256 % 256) = false ∧ (((z2 : Int) != (s : Int) / 65536 % 256) = true ∨ ((z2 : Int) != (s : Int) / 65536 % 256) = false ∧ ((z3 : Int) != (s : Int) / 16777216 % 256) = true)) := by
    simp only [bne_iff_ne, ne_eq, bne_eq_false_iff_eq]
    simp only [nm] at hne
    omega
  clear h hne
  rcases hcase with c0 | ⟨c0, c1 | ⟨c1, c2 | ⟨c2, c3⟩⟩⟩
  all_goals
    go_enter Try.func13, Try.ntmps13
    go_wp2_with fail
    refine CS.out.mono ?_
    rintro e w' ⟨rfl, rfl⟩
    go_wp2
    go_ret3
    exact ⟨rfl, rfl⟩

set_option maxHeartbeats 12800000 in
theorem RTake_form {w : World} {B m c : Nat} {A : Option Addr} {xs : List Nat} (h : By w B A (m + 9) c xs) (heq : nm (xs.drop (m + 5)) = crc (xs.take (m + 5))) (hf : ¬ (xs.getD 0 0 = 72 ∧ xs.getD 1 0 = 1 ∧ m ≤ 4096 ∧ xs.getD 3 0 * 256 + xs.getD 4 0 = m)) :
    Calls Try.prog 13 #[.slice A (m + 9) c] w fun e w' => e = .returned (.tuple #[.int .u8 0, .slice none 0 0, .int .i64 41]) ∧ Hid (Below w.heap.size w w') := by
  have hcap := h.cap
  have hmax := h.max
  obtain ⟨b, off, rfl, hbB, -⟩ := h.at_ (by omega)
  have CS := hid (RSum_any (h.first (m + 5) (by omega)))
  have hsl := crc_lt (xs := xs.take (m + 5)) (fun x hx => h.lt x (List.mem_of_mem_take hx))
  rw [drop_last4 h.len] at heq
  have k0 := h.cell (j := m + 5) (by omega)
  have k1 := h.cell (j := m + 6) (by omega)
  have k2 := h.cell (j := m + 7) (by omega)
  have k3 := h.cell (j := m + 8) (by omega)
  have l0 := h.getD (m + 5)
  have l1 := h.getD (m + 6)
  have l2 := h.getD (m + 7)
  have l3 := h.getD (m + 8)
  have n0 := h.cell (j := 0) (by omega)
  rw [Nat.add_zero] at n0
  have n1 := h.cell (j := 1) (by omega)
  have n2 := h.cell (j := 2) (by omega)
  have n3 := h.cell (j := 3) (by omega)
  have n4 := h.cell (j := 4) (by omega)
  have r3 := h.getD 3
  have r4 := h.getD 4
  generalize xs.getD (m + 5) 0 = z0 at *
  generalize xs.getD (m + 6) 0 = z1 at *
  generalize xs.getD (m + 7) 0 = z2 at *
  generalize xs.getD (m + 8) 0 = z3 at *
  generalize crc (xs.take (m + 5)) = s at *
  generalize xs.getD 0 0 = x0 at *
  generalize xs.getD 1 0 = x1 at *
  generalize xs.getD 2 0 = x2 at *
  generalize xs.getD 3 0 = x3 at *
  generalize xs.getD 4 0 = x4 at *
  have g0 : ((m : Int) + 9 - 4).toNat = m + 5 := by omega
  have g1 : ((m : Int) + 9 - 3).toNat = m + 6 := by omega
  have g2 : ((m : Int) + 9 - 2).toNat = m + 7 := by omega
  have g3 : ((m : Int) + 9 - 1).toNat = m + 8 := by omega
  simp only [nm] at heq
  have c0 : ((z0 : Int) != (s : Int) % 256) = false := by simp; omega
  have c1 : ((z1 : Int) != (s : Int) / 256 % 256) = false := by simp; omega
  have c2 : ((z2 : Int) != (s : Int) / 65536 % 256) = false := by simp; omega
  have c3 : ((z3 : Int) != (s : Int) / 16777216 % 256) = false := by simp; omega
  have w9 : IntKind.i64.wrap ((m : Int) + 9 - 9) = (m : Int) := by rw [IntWalk.i64_in _ (by omega)]; omega
  have wm : IntKind.i64.wrap (256 * (x3 : Int)) = 256 * (x3 : Int) := IntWalk.i64_in _ (by omega)
  have wa : IntKind.i64.wrap (256 * (x3 : Int) + (x4 : Int)) = 256 * (x3 : Int) + (x4 : Int) := IntWalk.i64_in _ (by omega)
  have hcase : ((x0 : Int) != 72) = true ∨ ((x0 : Int) != 72) = false ∧ (((x1 : Int) != 1) = true ∨ ((x1 : Int) != 1) = false ∧ ((256 * (x3 : Int) + (x4 : Int) != (m : Int)) = true ∨ (256 * (x3 : Int) + (x4 : Int) != (m : Int)) = false ∧ 4096 < m)) := by
    simp only [bne_iff_ne, ne_eq, bne_eq_false_iff_eq]
    omega
  have B1 := hid (Below.refl w.heap.size w).drew
  clear h heq hf n2
  rcases hcase with d0 | ⟨d0, d1 | ⟨d1, d2 | ⟨d2, d3⟩⟩⟩
  all_goals
    go_enter Try.func13, Try.ntmps13
    go_wp2_with fail
    refine CS.out.mono ?_
    rintro e w' ⟨rfl, rfl⟩
    have e0 : w.drew.cell? ⟨b, off, none⟩ = some (.int .u8 (x0 : Int)) := n0
    have e1 : w.drew.cell? ⟨b, off + 1, none⟩ = some (.int .u8 (x1 : Int)) := n1
    have e3 : w.drew.cell? ⟨b, off + 3, none⟩ = some (.int .u8 (x3 : Int)) := n3
    have e4 : w.drew.cell? ⟨b, off + 4, none⟩ = some (.int .u8 (x4 : Int)) := n4
    go_wp2_with fail
    go_region
    all_goals
      go_wp2
      go_ret3
      exact ⟨rfl, B1⟩

end Go.Proofs.Ytiablmnaincciaa
