/- The document's May of a mail. -/
/- The document's Take. -/
/- The document's Take, of a frame. -/
/- FrameTells, walked. -/
/- The document's content of a mail that may be; its text; Write. -/
/- Package mail: Write. -/
/- Package mail: Read. -/
import Derived.Test.YtbankbehfjogpaaGreatPmb0
import Derived.Test.YtbankbehfjogpaaGreatPmb1
import Derived.Test.YtbankbehfjogpaaGreatPmb2
import Derived.Test.YtbankbehfjogpaaGreatPmk1
import Derived.Test.YtbankbehfjogpaaGreatPmk2
import Derived.Test.YtbankbehfjogpaaGreatPmk3
import Derived.Test.YtbankbehfjogpaaGreatPmk4
import Derived.Test.YtbankbehfjogpaaGreatPmk5
import Derived.Test.YtbankbehfjogpaaGreatPmk6
import Derived.Test.YtbankbehfjogpaaGreatVaf
import Derived.Deep.RegionLaw
import Derived.Test.YtbankbehfjogpaaGreatPck1
import Derived.Test.YtbankbehfjogpaaGreatPck2
import Derived.Test.YtbankbehfjogpaaGreatPck3
import Derived.Test.YtbankbehfjogpaaGreatPck4
import Derived.Test.YtbankbehfjogpaaGreatPck5
import Derived.Test.YtbankbehfjogpaaGreatPck6
import Derived.Test.YtbankbehfjogpaaGreatVam
import Derived.Test.YtbankbehfjogpaaGreatVao
import Derived.Test.YtbankbehfjogpaaGreatVap
namespace Go.Proofs.YtbankbehfjogpaaGreat
open Go.RowKit Go.Shelf Go.Lib
theorem pmay_bad {w : World} {m : Md} {l : List De} {t : Nat → Nat} {P : Prop} (HP : Hid (P ↔ PMay m l t)) (hbad : ¬ ((1 ≤ m.kd ∧ m.kd ≤ 6) ∧ IMay m)) :
    Calls Tryz.prog 23 #[.agg (mdc m)] w (Says w P) := by
  by_cases h0 : (m.kd : Int) < 1
  · exact pmay_bad0 HP hbad h0
  by_cases h1 : (6 : Int) < (m.kd : Int)
  · exact pmay_bad1 HP hbad h0 h1
  by_cases h2 : m.fr < 0
  · exact pmay_bad2 HP hbad h0 h1 h2
  by_cases h3 : 8 ≤ m.fr
  · exact pmay_bad3 HP hbad h0 h1 h2 h3
  by_cases h4 : m.tu < 0
  · exact pmay_bad4 HP hbad h0 h1 h2 h3 h4
  by_cases h5 : 8 ≤ m.tu
  · exact pmay_bad5 HP hbad h0 h1 h2 h3 h4 h5
  by_cases h6 : m.ep < 0
  · exact pmay_bad6 HP hbad h0 h1 h2 h3 h4 h5 h6
  by_cases h7 : 65535 < m.ep
  · exact pmay_bad7 HP hbad h0 h1 h2 h3 h4 h5 h6 h7
  by_cases h8 : m.nu < 0
  · exact pmay_bad8 HP hbad h0 h1 h2 h3 h4 h5 h6 h7 h8
  by_cases h9 : 1048575 < m.nu
  · exact pmay_bad9 HP hbad h0 h1 h2 h3 h4 h5 h6 h7 h8 h9
  by_cases h10 : m.ab < 0
  · exact pmay_bad10 HP hbad h0 h1 h2 h3 h4 h5 h6 h7 h8 h9 h10
  by_cases h11 : 1048575 < m.ab
  · exact pmay_bad11 HP hbad h0 h1 h2 h3 h4 h5 h6 h7 h8 h9 h10 h11
  · exact absurd (show _ ∧ IMay _ from ⟨⟨by omega, by omega⟩, ⟨by omega, by omega⟩, ⟨by omega, by omega⟩, ⟨by omega, by omega⟩, ⟨by omega, by omega⟩, ⟨by omega, by omega⟩⟩) hbad
theorem pmay_any {w : World} {m : Md} {l : List De} {t : Nat → Nat} {P : Prop} (h : Prd w w.heap.size m l t) (HP : Hid (P ↔ PMay m l t)) :
    Calls Tryz.prog 23 #[.agg (mdc m)] w (Says w P) := by
  by_cases hb : (1 ≤ m.kd ∧ m.kd ≤ 6) ∧ IMay m
  · have hc : m.kd = 1 ∨ m.kd = 2 ∨ m.kd = 3 ∨ m.kd = 4 ∨ m.kd = 5 ∨ m.kd = 6 := by omega
    rcases hc with e | e | e | e | e | e
    · exact pmay_k1 h HP e hb.2
    · exact pmay_k2 h HP e hb.2
    · exact pmay_k3 h HP e hb.2
    · exact pmay_k4 h HP e hb.2
    · exact pmay_k5 h HP e hb.2
    · exact pmay_k6 h HP e hb.2
  · exact pmay_bad HP hb
end Go.Proofs.YtbankbehfjogpaaGreat
namespace Go.Proofs.YtbankbehfjogpaaGreat
set_option maxRecDepth 100000
open Go.RowKit
theorem By.cell {w : World} {B n c b off : Nat} {xs : List Nat} (h : By w B (some ⟨b, off, none⟩) n c xs) {j : Nat} (hj : j < n) : w.cell? ⟨b, off + j, none⟩ = some (.int .u8 (xs.getD j 0 : Int)) := by
  obtain ⟨b', off', e, _, hc⟩ := h.at_ (by omega)
  injection e with e
  injection e with e1 e2
  subst e1
  subst e2
  refine hc j _ ?_
  rw [List.getD_eq_getElem?_getD, List.getElem?_eq_getElem (by rw [h.len]; exact hj)]
  rfl
theorem By.getD {w : World} {B n c : Nat} {A : Option Addr} {xs : List Nat} (h : By w B A n c xs) (j : Nat) : xs.getD j 0 < 256 := by
  rw [List.getD_eq_getElem?_getD]
  cases hx : xs[j]? with
  | none => show 0 < 256; omega
  | some x => exact h.lt x (List.mem_of_getElem? hx)
theorem drop_last4 {xs : List Nat} {m : Nat} (h : xs.length = m + 9) : xs.drop (m + 5) = [xs.getD (m + 5) 0, xs.getD (m + 6) 0, xs.getD (m + 7) 0, xs.getD (m + 8) 0] := by
  apply List.ext_getElem?
  intro i
  rw [List.getElem?_drop]
  have hg : ∀ j, j < xs.length → xs[j]? = some (xs.getD j 0) := fun j hj => by
    rw [List.getD_eq_getElem?_getD, List.getElem?_eq_getElem hj]; rfl
  match i with
  | 0 => exact hg _ (by omega)
  | 1 => exact hg _ (by omega)
  | 2 => exact hg _ (by omega)
  | 3 => exact hg _ (by omega)
  | i + 4 => rw [List.getElem?_eq_none (by omega)]; rfl
set_option maxHeartbeats 1600000 in
theorem RTake_short {w : World} {n c : Nat} {A : Option Addr} (hn : n < 9) :
    Calls Tryz.prog 30 #[.slice A n c] w fun e w' => e = .returned (.tuple #[.int .u8 0, .slice none 0 0, .int .i64 40]) ∧ w = w' := by
  go_enter Tryz.func30, Tryz.ntmps30
  go_wp2
  go_ret3
  exact ⟨rfl, rfl⟩
set_option maxHeartbeats 6400000 in
theorem RTake_sum {w : World} {B m c : Nat} {A : Option Addr} {xs : List Nat} (h : By w B A (m + 9) c xs) (hne : nm (xs.drop (m + 5)) ≠ crc (xs.take (m + 5))) :
    Calls Tryz.prog 30 #[.slice A (m + 9) c] w fun e w' => e = .returned (.tuple #[.int .u8 0, .slice none 0 0, .int .i64 42]) ∧ w = w' := by
  have hcap := h.cap
  have hmax := h.max
  obtain ⟨b, off, rfl, _, -⟩ := h.at_ (by omega)
  have CS := hid (RSum_any (h.first (m + 5) (by omega)))
  have hsl := crc_lt (xs := xs.take (m + 5)) (fun x hx => h.lt x (List.mem_of_mem_take hx))
  rw [drop_last4 h.len] at hne
  have k0 := h.cell (j := m + 5) (by omega)
  have k1 := h.cell (j := m + 6) (by omega)
  have k2 := h.cell (j := m + 7) (by omega)
  have k3 := h.cell (j := m + 8) (by omega)
  have l0 := h.getD (m + 5)
  have l1 := h.getD (m + 6)
  have l2 := h.getD (m + 7)
  have l3 := h.getD (m + 8)
  generalize xs.getD (m + 5) 0 = z0 at *
  generalize xs.getD (m + 6) 0 = z1 at *
  generalize xs.getD (m + 7) 0 = z2 at *
  generalize xs.getD (m + 8) 0 = z3 at *
  generalize crc (xs.take (m + 5)) = s at *
  have g0 : ((m : Int) + 9 - 4).toNat = m + 5 := by omega
  have g1 : ((m : Int) + 9 - 3).toNat = m + 6 := by omega
  have g2 : ((m : Int) + 9 - 2).toNat = m + 7 := by omega
  have g3 : ((m : Int) + 9 - 1).toNat = m + 8 := by omega
  have hcase : ((z0 : Int) != (s : Int) % 256) = true ∨ ((z0 : Int) != (s : Int) % 256) = false ∧ (((z1 : Int) != (s : Int) / 256 % 256) = true ∨ ((z1 : Int) != (s : Int) / 256 % 256) = false ∧ (((z2 : Int) != (s : Int) / 65536 % 256) = true ∨ ((z2 : Int) != (s : Int) / 65536 % 256) = false ∧ ((z3 : Int) != (s : Int) / 16777216 % 256) = true)) := by
    simp only [bne_iff_ne, ne_eq, bne_eq_false_iff_eq]
    simp only [nm] at hne
    omega
  clear h hne
  rcases hcase with c0 | ⟨c0, c1 | ⟨c1, c2 | ⟨c2, c3⟩⟩⟩
  all_goals
    go_enter Tryz.func30, Tryz.ntmps30
    go_wp2_with fail
    refine CS.out.mono ?_
    rintro e w' ⟨rfl, rfl⟩
    go_wp2
    go_ret3
    exact ⟨rfl, rfl⟩
set_option maxHeartbeats 12800000 in
theorem RTake_form {w : World} {B m c : Nat} {A : Option Addr} {xs : List Nat} (h : By w B A (m + 9) c xs) (heq : nm (xs.drop (m + 5)) = crc (xs.take (m + 5))) (hf : ¬ (xs.getD 0 0 = 72 ∧ xs.getD 1 0 = 1 ∧ m ≤ 4096 ∧ xs.getD 3 0 * 256 + xs.getD 4 0 = m)) :
    Calls Tryz.prog 30 #[.slice A (m + 9) c] w fun e w' => e = .returned (.tuple #[.int .u8 0, .slice none 0 0, .int .i64 41]) ∧ Hid (Below w.heap.size w w') := by
  have hcap := h.cap
  have hmax := h.max
  obtain ⟨b, off, rfl, hbB, -⟩ := h.at_ (by omega)
  have CS := hid (RSum_any (h.first (m + 5) (by omega)))
  have hsl := crc_lt (xs := xs.take (m + 5)) (fun x hx => h.lt x (List.mem_of_mem_take hx))
  rw [drop_last4 h.len] at heq
  have k0 := h.cell (j := m + 5) (by omega)
  have k1 := h.cell (j := m + 6) (by omega)
  have k2 := h.cell (j := m + 7) (by omega)
  have k3 := h.cell (j := m + 8) (by omega)
  have l0 := h.getD (m + 5)
  have l1 := h.getD (m + 6)
  have l2 := h.getD (m + 7)
  have l3 := h.getD (m + 8)
  have n0 := h.cell (j := 0) (by omega)
  rw [Nat.add_zero] at n0
  have n1 := h.cell (j := 1) (by omega)
  have n2 := h.cell (j := 2) (by omega)
  have n3 := h.cell (j := 3) (by omega)
  have n4 := h.cell (j := 4) (by omega)
  have r3 := h.getD 3
  have r4 := h.getD 4
  generalize xs.getD (m + 5) 0 = z0 at *
  generalize xs.getD (m + 6) 0 = z1 at *
  generalize xs.getD (m + 7) 0 = z2 at *
  generalize xs.getD (m + 8) 0 = z3 at *
  generalize crc (xs.take (m + 5)) = s at *
  generalize xs.getD 0 0 = x0 at *
  generalize xs.getD 1 0 = x1 at *
  generalize xs.getD 2 0 = x2 at *
  generalize xs.getD 3 0 = x3 at *
  generalize xs.getD 4 0 = x4 at *
  have g0 : ((m : Int) + 9 - 4).toNat = m + 5 := by omega
  have g1 : ((m : Int) + 9 - 3).toNat = m + 6 := by omega
  have g2 : ((m : Int) + 9 - 2).toNat = m + 7 := by omega
  have g3 : ((m : Int) + 9 - 1).toNat = m + 8 := by omega
  simp only [nm] at heq
  have c0 : ((z0 : Int) != (s : Int) % 256) = false := by simp; omega
  have c1 : ((z1 : Int) != (s : Int) / 256 % 256) = false := by simp; omega
  have c2 : ((z2 : Int) != (s : Int) / 65536 % 256) = false := by simp; omega
  have c3 : ((z3 : Int) != (s : Int) / 16777216 % 256) = false := by simp; omega
  have w9 : IntKind.i64.wrap ((m : Int) + 9 - 9) = (m : Int) := by rw [IntWalk.i64_in _ (by omega)]; omega
  have wm : IntKind.i64.wrap (256 * (x3 : Int)) = 256 * (x3 : Int) := IntWalk.i64_in _ (by omega)
  have wa : IntKind.i64.wrap (256 * (x3 : Int) + (x4 : Int)) = 256 * (x3 : Int) + (x4 : Int) := IntWalk.i64_in _ (by omega)
  have hcase : ((x0 : Int) != 72) = true ∨ ((x0 : Int) != 72) = false ∧ (((x1 : Int) != 1) = true ∨ ((x1 : Int) != 1) = false ∧ ((256 * (x3 : Int) + (x4 : Int) != (m : Int)) = true ∨ (256 * (x3 : Int) + (x4 : Int) != (m : Int)) = false ∧ 4096 < m)) := by
    simp only [bne_iff_ne, ne_eq, bne_eq_false_iff_eq]
    omega
  have B1 := hid (Below.refl w.heap.size w).drew
  clear h heq hf n2
  rcases hcase with d0 | ⟨d0, d1 | ⟨d1, d2 | ⟨d2, d3⟩⟩⟩
  all_goals
    go_enter Tryz.func30, Tryz.ntmps30
    go_wp2_with fail
    refine CS.out.mono ?_
    rintro e w' ⟨rfl, rfl⟩
    have e0 : w.drew.cell? ⟨b, off, none⟩ = some (.int .u8 (x0 : Int)) := n0
    have e1 : w.drew.cell? ⟨b, off + 1, none⟩ = some (.int .u8 (x1 : Int)) := n1
    have e3 : w.drew.cell? ⟨b, off + 3, none⟩ = some (.int .u8 (x3 : Int)) := n3
    have e4 : w.drew.cell? ⟨b, off + 4, none⟩ = some (.int .u8 (x4 : Int)) := n4
    go_wp2_with fail
    go_region
    all_goals
      go_wp2
      go_ret3
      exact ⟨rfl, B1⟩
set_option maxRecDepth 100000
open Go.RowKit
theorem step_app {ops : Array Oper} {o : Oper} {a : Act} {K : Act → World → Prop} {Q : Exit → Act → World → Prop} {E : Prop} (hgd : o.guard = none) (s x : Operand)
    (ho : o.op = .call { callee := .builtin .append, args := #[s, x], argTypes := #[32, 32] }) {w : World} {B B' m c : Nat} {v : Value} {xs ys : List Nat} {p : Addr} (hs : a.eval s = v) (hx : a.eval x = .slice (some p) m c)
    (hown : Ow w B v xs) (hB : B ≤ w.heap.size) (hy : By w B' (some p) m c ys) (hn : xs.length + m ≤ 1000000)
    (h : ∀ v' w', Hid (Ow w' B v' (xs ++ ys)) → Hid (Below B w w') → K (a.put o.dst v') w') : if Region.wanted o (yielded ops a.tmps) = true then Oper.wp Tryz.prog o a w K Q else E := by
  rw [if_pos (by simp [Region.wanted, hgd])]
  obtain ⟨i, hi, hz, hsz, hby⟩ := info_one u8_info
  refine wp_append_own w s x 32 ho B 5 i (.int .u8 0) 1 1 (by kernel_rfl) hi hz hsz hby rfl (by decide) v xs.length (vals xs) hs hown.1 p m c (vals ys) hx (by rw [vals_length, hy.len, Nat.mul_one]) (hy.cells p rfl) (fun u hu => vals_one hu) (by unfold maxLen; omega) (by omega) hB ?_
  intro v' w' hown' hgr _
  refine h v' w' (hid ⟨?_, ?_, ?_⟩) (hid ((Below.refl _ _).grown hgr hB ?_))
  · rw [List.length_append, hy.len, vals_append]
    exact hown'
  · intro y hy2
    rcases List.mem_append.1 hy2 with h1 | h1
    · exact hown.2.1 y h1
    · exact hy.lt y h1
  · rw [List.length_append, hy.len]
    omega
  · intro k hk
    rcases hown.1 with ⟨_, ⟨rfl, _⟩ | ⟨g, cap, cur, rfl, hg, _⟩⟩
    · cases hk
    · injection hk with hk
      subst hk
      exact hg
theorem Ow.empty {w : World} {B : Nat} (hB : B ≤ w.heap.size) : Ow (w.alloc (.cells #[] 5)) B (.slice (some ⟨w.heap.size, 0, none⟩) 0 0) [] :=
  ⟨⟨rfl, .inr ⟨w.heap.size, 0, #[], rfl, hB, heap_alloc_new w _, Nat.le_refl _, by unfold maxLen; omega, rfl, rfl⟩⟩, by simp, by simp⟩
set_option maxHeartbeats 12800000 in
theorem RTake_good {w : World} {B m c : Nat} {A : Option Addr} {xs : List Nat} (h : By w B A (m + 9) c xs) (hB : B ≤ w.heap.size) (heq : nm (xs.drop (m + 5)) = crc (xs.take (m + 5))) (hf : xs.getD 0 0 = 72 ∧ xs.getD 1 0 = 1 ∧ m ≤ 4096 ∧ xs.getD 3 0 * 256 + xs.getD 4 0 = m) :
    Calls Tryz.prog 30 #[.slice A (m + 9) c] w fun e w' => ∃ v, e = .returned (.tuple #[.int .u8 (xs.getD 2 0 : Int), v, .int .i64 0]) ∧ Hid (Ow w' w.heap.size v ((xs.take (m + 5)).drop 5)) ∧ Hid (Below w.heap.size w w') := by
  have hcap := h.cap
  have hmax := h.max
  obtain ⟨b, off, rfl, hbB, -⟩ := h.at_ (by omega)
  have CS := hid (RSum_any (h.first (m + 5) (by omega)))
  have hsl := crc_lt (xs := xs.take (m + 5)) (fun x hx => h.lt x (List.mem_of_mem_take hx))
  rw [drop_last4 h.len] at heq
  have HP := hid (h.part 5 (m + 5) m (by omega) (by omega))
  generalize hys : (xs.take (m + 5)).drop 5 = ys at *
  have k0 := h.cell (j := m + 5) (by omega)
  have k1 := h.cell (j := m + 6) (by omega)
  have k2 := h.cell (j := m + 7) (by omega)
  have k3 := h.cell (j := m + 8) (by omega)
  have l0 := h.getD (m + 5)
  have l1 := h.getD (m + 6)
  have l2 := h.getD (m + 7)
  have l3 := h.getD (m + 8)
  have n0 := h.cell (j := 0) (by omega)
  rw [Nat.add_zero] at n0
  have n1 := h.cell (j := 1) (by omega)
  have n2 := h.cell (j := 2) (by omega)
  have n3 := h.cell (j := 3) (by omega)
  have n4 := h.cell (j := 4) (by omega)
  have r3 := h.getD 3
  have r4 := h.getD 4
  generalize xs.getD (m + 5) 0 = z0 at *
  generalize xs.getD (m + 6) 0 = z1 at *
  generalize xs.getD (m + 7) 0 = z2 at *
  generalize xs.getD (m + 8) 0 = z3 at *
  clear hys
  generalize crc (xs.take (m + 5)) = s at *
  generalize xs.getD 0 0 = x0 at *
  generalize xs.getD 1 0 = x1 at *
  generalize xs.getD 2 0 = x2 at *
  generalize xs.getD 3 0 = x3 at *
  generalize xs.getD 4 0 = x4 at *
  have g0 : ((m : Int) + 9 - 4).toNat = m + 5 := by omega
  have g1 : ((m : Int) + 9 - 3).toNat = m + 6 := by omega
  have g2 : ((m : Int) + 9 - 2).toNat = m + 7 := by omega
  have g3 : ((m : Int) + 9 - 1).toNat = m + 8 := by omega
  simp only [nm] at heq
  have c0 : ((z0 : Int) != (s : Int) % 256) = false := by simp; omega
  have c1 : ((z1 : Int) != (s : Int) / 256 % 256) = false := by simp; omega
  have c2 : ((z2 : Int) != (s : Int) / 65536 % 256) = false := by simp; omega
  have c3 : ((z3 : Int) != (s : Int) / 16777216 % 256) = false := by simp; omega
  have w9 : IntKind.i64.wrap ((m : Int) + 9 - 9) = (m : Int) := by rw [IntWalk.i64_in _ (by omega)]; omega
  have wm : IntKind.i64.wrap (256 * (x3 : Int)) = 256 * (x3 : Int) := IntWalk.i64_in _ (by omega)
  have wa : IntKind.i64.wrap (256 * (x3 : Int) + (x4 : Int)) = 256 * (x3 : Int) + (x4 : Int) := IntWalk.i64_in _ (by omega)
  obtain ⟨rfl, rfl, hm4, hl⟩ := hf
  have d2 : (256 * (x3 : Int) + (x4 : Int) != (m : Int)) = false := by simp; omega
  have B1 := hid (Below.refl w.heap.size w).drew
  have B2 := hid (Below.refl w.heap.size w).drew.drew
  have hne : ¬ c = 5 := by omega
  have h45 : m + 5 - 5 = m := by omega
  have q1 : (5 : Int) ≤ (m : Int) + 9 - 4 := by omega
  have q2 : (m : Int) + 9 - 4 ≤ (c : Int) := by omega
  have hbw : b < w.heap.size := by omega
  have h29 : (2 : Int) < (m : Int) + 9 := by omega
  have h04 : (0 : Int) ≤ (m : Int) + 9 - 4 := by omega
  have q3 : m + 5 ≤ c := by omega
  have w4 : IntKind.i64.wrap ((m : Int) + 9 - 4) = ((m + 5 : Nat) : Int) := by rw [IntWalk.i64_in _ (by omega)]; omega
  have q4 : (5 : Int) ≤ max (((m + 5 : Nat) : Int)) 0 := by omega
  have q5 : (5 : Int) ≤ max ((m : Int) + 5) 0 := by omega
  have q6 : (0 : Int) ≤ (m : Int) + 5 := by omega
  have q7 : (m : Int) + 5 ≤ (c : Int) := by omega
  have q9 : (5 : Int) ≤ (m : Int) + 5 := by omega
  have q8 : ((m : Int) + 5).toNat = m + 5 := by omega
  clear h heq hl hsl
  go_enter Tryz.func30, Tryz.ntmps30
  go_wp2_with fail
  refine CS.out.mono ?_
  rintro e w' ⟨rfl, rfl⟩
  have e0 : w.drew.cell? ⟨b, off, none⟩ = some (.int .u8 ((72 : Nat) : Int)) := n0
  have e1 : w.drew.cell? ⟨b, off + 1, none⟩ = some (.int .u8 ((1 : Nat) : Int)) := n1
  have e3 : w.drew.cell? ⟨b, off + 3, none⟩ = some (.int .u8 (x3 : Int)) := n3
  have e4 : w.drew.cell? ⟨b, off + 4, none⟩ = some (.int .u8 (x4 : Int)) := n4
  go_wp2_with fail
  go_region
  all_goals
    have f2 : w.drew.drew.cell? ⟨b, off + 2, none⟩ = some (.int .u8 (x2 : Int)) := n2
    have BA : Hid (Below w.heap.size w (w.alloc (.cells #[] 5)).drew.drew) := hid ((Below.refl w.heap.size w).alloc (Nat.le_refl _) (.cells #[] 5)).drew.drew
    have f2a : (w.alloc (.cells #[] 5)).drew.drew.cell? ⟨b, off + 2, none⟩ = some (.int .u8 (x2 : Int)) := (BA.out.cell (p := ⟨b, off + 2, none⟩) hbw).trans n2
    have HO : Hid (Ow (w.alloc (.cells #[] 5)).drew.drew w.heap.size (.slice (some ⟨w.heap.size, 0, none⟩) 0 0) []) := hid (Ow.empty (w := w) (B := w.heap.size) (Nat.le_refl _))
    have HP2 := hid ((HP.out.mono hB).below BA.out)
    have hsA := hid BA.out.size
    go_wp2_with fail
    go_region_law (refine step_app (by rfl) (.tmp 90) (.tmp 94) (by rfl) (by simp [Act.eval]) (by simp [Act.eval]) HO.out hsA.out HP2.out (by simp; omega) ?_; intro v' w' hO' hb'; have f2b : w'.cell? ⟨b, off + 2, none⟩ = some (.int .u8 (x2 : Int)) := (hb'.out.cell (p := ⟨b, off + 2, none⟩) hbw).trans f2a)
    all_goals
      go_wp2
      go_ret3
      exact ⟨_, rfl, hO', hid (BA.out.trans hb'.out)⟩
open Go.RowKit
def pf (k : Nat) (xs : List Nat) : List Nat := if xs.length ≤ 4096 then frm k xs else []
def pe (xs : List Nat) : Int := if xs.length ≤ 4096 then 0 else 4
def tk (xs : List Nat) : Nat := if flt xs = 0 then xs.getD 2 0 else 0
def tb (xs : List Nat) : List Nat := if flt xs = 0 then (xs.take (xs.length - 4)).drop 5 else []
theorem RTake_any {w : World} {B n c : Nat} {A : Option Addr} {xs : List Nat} (h : By w B A n c xs) (hB : B ≤ w.heap.size) :
    Calls Tryz.prog 30 #[.slice A n c] w fun e w' => ∃ v, e = .returned (.tuple #[.int .u8 (tk xs : Int), v, .int .i64 (flt xs)]) ∧ Hid (Ow w' w.heap.size v (tb xs)) ∧ Hid (Below w.heap.size w w') := by
  have hlen := h.len
  by_cases h9 : n < 9
  · have hf : flt xs = 40 := by unfold flt; rw [if_pos (by omega)]
    unfold tk tb
    rw [hf, if_neg (by omega), if_neg (by omega)]
    exact (RTake_short h9).mono fun e w' h => by
      obtain ⟨rfl, rfl⟩ := h
      exact ⟨_, rfl, hid (Ow.nil _ _), hid (Below.refl _ _)⟩
  · obtain ⟨m, rfl⟩ : ∃ m, n = m + 9 := ⟨n - 9, by omega⟩
    have e4 : xs.length - 4 = m + 5 := by omega
    have e9 : xs.length - 9 = m := by omega
    by_cases hs : nm (xs.drop (m + 5)) = crc (xs.take (m + 5))
    · by_cases hf : xs.getD 0 0 = 72 ∧ xs.getD 1 0 = 1 ∧ m ≤ 4096 ∧ xs.getD 3 0 * 256 + xs.getD 4 0 = m
      · have hz : flt xs = 0 := by unfold flt; rw [if_neg (by omega), e4, if_pos hs, e9, if_pos hf]
        unfold tk tb
        rw [if_pos hz, if_pos hz, hz, e4]
        exact RTake_good h hB hs hf
      · have hz : flt xs = 41 := by unfold flt; rw [if_neg (by omega), e4, if_pos hs, e9, if_neg hf]
        unfold tk tb
        rw [hz, if_neg (by omega), if_neg (by omega)]
        exact (RTake_form h hs hf).mono fun e w' h => by
          obtain ⟨rfl, hb⟩ := h
          exact ⟨_, rfl, hid (Ow.nil _ _), hb⟩
    · have hz : flt xs = 42 := by unfold flt; rw [if_neg (by omega), e4, if_neg hs]
      unfold tk tb
      rw [hz, if_neg (by omega), if_neg (by omega)]
      exact (RTake_sum h hs).mono fun e w' h => by
        obtain ⟨rfl, rfl⟩ := h
        exact ⟨_, rfl, hid (Ow.nil _ _), hid (Below.refl _ _)⟩
def fWr (A : Option Addr) (w w' : World) : Prop := (A = none ∧ w' = w) ∨ ∃ g, A = some ⟨g, 0, none⟩ ∧ w.grownBy w' (some g)
open Go.RowKit Go.Shelf Go.Lib
set_option maxRecDepth 100000
theorem cont_mlOf {m : Md} {l : List De} {t : Nat → Nat} (hl : l.length = m.n) :
    (m.kd = 1 → cont (mlOf m l t) = hdr m ++ dtm m 0 ++ dtm m 1) ∧ (m.kd = 2 → cont (mlOf m l t) = hdr m ++ dtm m 2 ++ dtm m 3) ∧ (m.kd = 3 → cont (mlOf m l t) = hdr m ++ be m.ab.toNat 3 ++ dtm m 2 ++ dtm m 3) ∧
    (m.kd = 4 → cont (mlOf m l t) = hdr m ++ be m.ab.toNat 3) ∧ (m.kd = 5 → cont (mlOf m l t) = hdr m ++ be (flg m.wa) 1 ++ be m.n 1 ++ lsx l) ∧
    (m.kd = 6 → cont (mlOf m l t) = hdr m ++ be (flg m.ha) 1 ++ be (m.mn + 2147483648).toNat 4 ++ be (m.mx + 2147483648).toNat 4 ++ be m.k 1 ++ tgx ((List.range m.k).map t)) := by
  refine ⟨fun h => ?_, fun h => ?_, fun h => ?_, fun h => ?_, fun h => ?_, fun h => ?_⟩ <;>
    simp [cont, body, mlOf, h, hdr, dtm, dfx, ddy, hl, List.append_assoc]
theorem pcont_any {w : World} {m : Md} {l : List De} {t : Nat → Nat} (h : Prd w w.heap.size m l t) (hm : PMay m l t) :
    Calls Tryz.prog 62 #[.agg (mdc m)] w fun e w' => ∃ v, e = .returned v ∧ Hid (Ow w' w.heap.size v (cont (mlOf m l t))) ∧ Hid (Below w.heap.size w w') := by
  obtain ⟨c1, c2, c3, c4, c5, c6⟩ := cont_mlOf (m := m) (t := t) h.ls.len
  have hc : m.kd = 1 ∨ m.kd = 2 ∨ m.kd = 3 ∨ m.kd = 4 ∨ m.kd = 5 ∨ m.kd = 6 := by have := hm.1; omega
  rcases hc with e | e | e | e | e | e
  · rw [c1 e]; exact pcont_k1 h hm e
  · rw [c2 e]; exact pcont_k2 h hm e
  · rw [c3 e]; exact pcont_k3 h hm e
  · rw [c4 e]; exact pcont_k4 h hm e
  · rw [c5 e]; exact pcont_k5 h hm e
  · rw [c6 e]; exact pcont_k6 h hm e
theorem cont_length {m : Md} {l : List De} {t : Nat → Nat} (hl : l.length = m.n) (hm : PMay m l t) : (cont (mlOf m l t)).length ≤ 400 := by
  obtain ⟨c1, c2, c3, c4, c5, c6⟩ := cont_mlOf (m := m) (t := t) hl
  have hc : m.kd = 1 ∨ m.kd = 2 ∨ m.kd = 3 ∨ m.kd = 4 ∨ m.kd = 5 ∨ m.kd = 6 := by have := hm.1; omega
  have hd : ∀ k, k < 4 → (dtm m k).length ≤ 164 := fun k hk => by
    unfold dtm
    rw [dtx_length]
    have := (hm.2.2.2.1 k hk).1.1
    omega
  have d0 := hd 0 (by omega)
  have d1 := hd 1 (by omega)
  have d2 := hd 2 (by omega)
  have d3 := hd 3 (by omega)
  have hll := (chk_zero.1 hm.2.2.2.2.1).1
  have hk8 := hm.2.2.2.2.2.2.1.1
  have hlx : (lsx l).length = 5 * l.length := by
    clear c1 c2 c3 c4 c5 c6 hc hd d0 d1 d2 d3 hll hm hl
    induction l with
    | nil => rfl
    | cons d l ih =>
      unfold lsx at ih ⊢
      rw [List.flatMap_cons, List.length_append, ih, List.length_append, be_length, be_length, List.length_cons]
      omega
  have htx : ∀ q : List Nat, (tgx q).length = 4 * q.length := fun q => by
    induction q with
    | nil => rfl
    | cons d q ih =>
      unfold tgx at ih ⊢
      rw [List.flatMap_cons, List.length_append, ih, be_length, List.length_cons]
      omega
  rcases hc with e | e | e | e | e | e
  · rw [c1 e]; simp only [List.length_append, hdr, be_length]; omega
  · rw [c2 e]; simp only [List.length_append, hdr, be_length]; omega
  · rw [c3 e]; simp only [List.length_append, hdr, be_length]; omega
  · rw [c4 e]; simp only [List.length_append, hdr, be_length]; omega
  · rw [c5 e]; simp only [List.length_append, hdr, be_length, hlx]; omega
  · rw [c6 e]; simp only [List.length_append, hdr, be_length, htx, List.length_map, List.length_range]; omega
theorem yields_pl {ops : Array Oper} {S : World → Prop} {o : Oper} {a : Act} (hw : Region.wanted o (yielded ops a.tmps) = true) (x : Operand) (ho : o.op = .load 31 x)
    (g : Nat) (m : Md) (hx : a.eval x = .pointer (some ⟨g, 0, none⟩)) (hS : ∀ w, S w → Pbox w g m) : YieldsIf Tryz.prog ops S o (.agg (mdc m)) a :=
  .inl ⟨hw, fun w hw' => by
    unfold execOp
    simp only [ho, hx, Instr.loadAt, Instr.sureAddr, Sem.run_bind, Sem.run_pure, Result.andThen_ok, run_loadVar_row w g _ 31 _ _ _ (hS w hw') Tryz.underlying31 rfl (show (Tryz.prog.info? 31).map (·.size) = some (mdc m).size from mail_size)]⟩
set_option maxHeartbeats 3200000 in
theorem ptext_any {w : World} {m : Md} {l : List De} {t : Nat → Nat} (h : Prd w w.heap.size m l t) (hm : PMay m l t) :
    Calls Tryz.prog 24 #[.agg (mdc m)] w fun e w' => ∃ v, e = .returned v ∧ Hid (Ow w' w.heap.size v (frm m.kd (cont (mlOf m l t)))) ∧ Hid (Below w.heap.size w w') := by
  obtain ⟨W, hW⟩ : ∃ W, W = w.alloc (.cells (mdc m) 31) := ⟨_, rfl⟩
  have K := hid (show Below w.heap.size w W from hW ▸ (Below.refl _ w).alloc (Nat.le_refl _) _)
  have X := hid (show Pbox W w.heap.size m from hW ▸ heap_alloc_new w _)
  have HW := hid hW
  have HL := hid (cont_length h.ls.len hm)
  have HKd := hid h.kd
  have CC := hid (fun Z (hb : Below w.heap.size w Z) => pcont_any (h.on hb) hm)
  clear hW h
  go_enter Tryz.func24, Tryz.ntmps24
  go_upto_region 1 with fail
  rw [← HW.out]
  clear HW
  have BX : Hid (Below W.heap.size W W.drew) := hid (Below.refl W.heap.size W).drew
  have CF : Hid (∀ Y, Below W.heap.size W Y → Pbox Y w.heap.size m) := hid fun Y hb => X.out.below hb X.out.lt
  refine wp_region_held_drew (S := fun X => Pbox X w.heap.size m) (by kernel_rfl) (CF.out _ BX.out) (fun hHeld => ?_)
  refine wpAnyH_take (i := 0) (v := ?v1) rfl (by kernel_rfl) (by kernel_rfl) (by kernel_rfl) (fun _ _ _ h => h) (Or.inl ⟨by rfl, ?y1⟩) (by assumption) ?r1
  case y1 => (intro w0 hSw; (try dsimp only at hSw); (try simp only [List.getElem_toArray, List.getElem_cons_zero]); go_simp; try with_reducible rfl)
  (try simp only [Act.put, List.setIfInBounds_toArray, List.set_cons_zero, List.set_cons_succ, List.getElem_toArray, List.getElem_cons_zero])
  refine wpAnyH_take (i := 1) (v := .int .u8 (m.kd : Int)) rfl (by kernel_rfl) (by kernel_rfl) (by kernel_rfl) (fun _ _ _ h => h) (Or.inl ⟨by rfl, ?y2⟩) (by assumption) ?r2
  case y2 => (intro w0 hSw; (try dsimp only at hSw); have hc0 := hSw.c0; (try simp only [List.getElem_toArray, List.getElem_cons_succ, List.getElem_cons_zero]); go_simp; try with_reducible rfl)
  (try simp only [Act.put, List.setIfInBounds_toArray, List.set_cons_zero, List.set_cons_succ, List.getElem_toArray, List.getElem_cons_succ, List.getElem_cons_zero])
  refine wpAnyH_take (i := 2) rfl (by kernel_rfl) (by kernel_rfl) (by kernel_rfl) (fun _ _ _ h => h) (yields_pl (by rfl) (.tmp 1) rfl w.heap.size m rfl (fun X hX => hX)) hHeld ?_
  (try simp only [Act.put, List.setIfInBounds_toArray, List.set_cons_zero, List.set_cons_succ, List.getElem_toArray, List.getElem_cons_succ, List.getElem_cons_zero])
  refine wpAnyH_ready (rs := [3]) (by kernel_rfl) (by simp) ?_
  refine AllReadyH.cons rfl (fun K' hK => ?_) AllReadyH.nil
  (try simp only [Act.put, List.setIfInBounds_toArray, List.set_cons_zero, List.set_cons_succ, List.getElem_toArray, List.getElem_cons_succ, List.getElem_cons_zero])
  go_simp
  refine (CC.out _ (K.out.trans (BX.out.mono K.out.size))).mono ?_
  rintro e y1 ⟨v, rfl, hO, hb⟩
  replace BX := hid (BX.out.trans (hb.out.mono BX.out.size))
  have hsh := hO.out.shape
  obtain ⟨A, c, rfl, hY⟩ := hsh
  have CR := hid (RFramed_any hY HKd.out (by have := HL.out; omega))
  clear hb hO hY
  try dsimp only
  refine hK.out _ _ (CF.out _ BX.out) (fun hHeld => ?_)
  clear hK K'
  (try simp only [Act.put, List.setIfInBounds_toArray, List.set_cons_zero, List.set_cons_succ, List.getElem_toArray, List.getElem_cons_succ, List.getElem_cons_zero])
  refine wpAnyH_ready (rs := [4]) (by kernel_rfl) (by simp) ?_
  refine AllReadyH.cons rfl (fun K' hK => ?_) AllReadyH.nil
  (try simp only [Act.put, List.setIfInBounds_toArray, List.set_cons_zero, List.set_cons_succ, List.getElem_toArray, List.getElem_cons_succ, List.getElem_cons_zero])
  go_simp
  refine CR.out.mono ?_
  rintro e y2 ⟨v, rfl, hO, hb⟩
  have hs := BX.out.size
  have hks := K.out.size
  have HO := hid (hO.out.mono (show w.heap.size ≤ y1.heap.size by omega))
  replace BX := hid (BX.out.trans (hb.out.mono BX.out.size))
  clear hb hO CR
  try dsimp only
  refine hK.out _ _ (CF.out _ BX.out) (fun hHeld => ?_)
  clear hK K'
  (try simp only [Act.put, List.setIfInBounds_toArray, List.set_cons_zero, List.set_cons_succ, List.getElem_toArray, List.getElem_cons_succ, List.getElem_cons_zero])
  refine wpAnyH_take (i := 5) (v := ?v6) rfl (by kernel_rfl) (by kernel_rfl) (by kernel_rfl) (fun _ _ _ h => h) (Or.inl ⟨by rfl, ?y6⟩) (by assumption) ?r6
  case y6 => (intro w0 hSw; (try dsimp only at hSw); (try simp only [List.getElem_toArray, List.getElem_cons_succ, List.getElem_cons_zero]); go_simp; try with_reducible rfl)
  (try simp only [Act.put, List.setIfInBounds_toArray, List.set_cons_zero, List.set_cons_succ, List.getElem_toArray, List.getElem_cons_succ, List.getElem_cons_zero])
  refine wpAnyH_done (by kernel_rfl) ?_ _
  go_wp2
  go_ret
  exact ⟨_, rfl, HO, hid (K.out.trans (BX.out.mono K.out.size))⟩
open Go.RowKit Go.Shelf Go.Lib
set_option maxRecDepth 100000
theorem alok_wr {M : Ml} (h : AlOk Wid () M) (s : List Nat) : AlOk Wwr s M := ⟨h.kd, h.fr, h.tu, h.ep, h.nu, h.ab, h.ls, h.lsn, h.mn, h.mx, h.len, fun _ _ hn => hn⟩
theorem check_yes {w : World} {m : Md} {l : List De} {t : Nat → Nat} (h : Prd w w.heap.size m l t) (hm : PMay m l t) : Calls Tryz.prog 11 #[.agg (mdc m)] w fun e w' => e = .returned (.int .i64 0) ∧ Hid (Below w.heap.size w w') :=
  (mcheck (P := True) h (hid ⟨fun _ => hm, fun _ => trivial⟩)).mono fun _ _ ⟨r, he, hr, hb⟩ => ⟨by rw [he, hr.out.1 trivial], hb⟩
theorem check_no {w : World} {m : Md} {l : List De} {t : Nat → Nat} (h : Prd w w.heap.size m l t) (hm : ¬ PMay m l t) : Calls Tryz.prog 11 #[.agg (mdc m)] w fun e w' => e = .returned (.int .i64 100) ∧ Hid (Below w.heap.size w w') :=
  (mcheck (P := False) h (hid ⟨fun h => h.elim, fun h => hm h⟩)).mono fun _ _ ⟨r, he, hr, hb⟩ => ⟨by rw [he, hr.out.2 (fun h => h)], hb⟩
set_option maxHeartbeats 6400000 in
theorem write_bad {w : World} {m : Md} {l : List De} {t : Nat → Nat} (h : Prd w w.heap.size m l t) (hm : ¬ PMay m l t) :
    Calls Tryz.prog 6 #[.agg (mdc m)] w fun e w' => e = .returned (.tuple #[.slice none 0 0, .int .i64 100]) ∧ Hid (Below w.heap.size w w') := by
  obtain ⟨w1, hw1⟩ : ∃ w1, w1 = w.alloc (.cells (mdc m) 31) := ⟨_, rfl⟩
  have B0 := hid (show Below w.heap.size w w1 from hw1 ▸ (Below.refl _ w).alloc (Nat.le_refl _) _)
  have P0 := hid (show Pbox w1 w.heap.size m from hw1 ▸ heap_alloc_new w _)
  have CC := hid (check_no (h.on B0.out) hm)
  have HW := hid hw1
  clear hw1 h hm
  go_enter Tryz.func6, Tryz.ntmps6
  go_upto_region 1 with fail
  rw [← HW.out]
  clear HW
  go_wp2_with (first | (refine wp_pload rfl (.tmp 1) (by with_reducible rfl) w.heap.size m (by rfl) P0.out ?_) | fail)
  refine CC.out.mono ?_
  rintro e w2 ⟨rfl, hb⟩
  go_wp2
  go_ret2
  exact ⟨rfl, hid (B0.out.trans (hb.out.mono B0.out.size))⟩
set_option maxHeartbeats 12800000 in
theorem write_good {w : World} {m : Md} {l : List De} {t : Nat → Nat} (h : Prd w w.heap.size m l t) (hm : PMay m l t) :
    Calls Tryz.prog 6 #[.agg (mdc m)] w fun e w' => ∃ v, e = .returned (.tuple #[v, .int .i64 0]) ∧ Hid (Ow w' w.heap.size v (frm m.kd (cont (mlOf m l t)))) ∧ Hid (Below w.heap.size w w') := by
  obtain ⟨w1, hw1⟩ : ∃ w1, w1 = w.alloc (.cells (mdc m) 31) := ⟨_, rfl⟩
  have B0 := hid (show Below w.heap.size w w1 from hw1 ▸ (Below.refl _ w).alloc (Nat.le_refl _) _)
  have P0 := hid (show Pbox w1 w.heap.size m from hw1 ▸ heap_alloc_new w _)
  have CC := hid (check_yes (h.on B0.out) hm)
  have HW := hid hw1
  have hU := (pmay_iff h).1 hm
  have HAL := hid (alok_wr (alok_of h.kd hU.1.1 hU.1.2) [])
  have HF := hid (fit_of h hm)
  have HX := hid (show ∀ k, k < 4 → 0 ≤ (m.D k).x from fun k hk => (hU.1.2.2.1 k hk).2.1)
  have HKd := hid h.kd
  have H := hid h
  clear hw1 h hm hU
  go_enter Tryz.func6, Tryz.ntmps6
  go_upto_region 1 with fail
  rw [← HW.out]
  clear HW
  go_upto_region 4 with (first | (refine wp_pload rfl (.tmp 1) (by with_reducible rfl) w.heap.size m (by rfl) P0.out ?_) | (go_at_call 11; refine CC.out.mono ?_; rintro e w2 ⟨rfl, hb⟩) | fail)
  have P2 := hid (P0.out.below hb.out P0.out.lt)
  have B2 := hid (B0.out.trans (hb.out.mono B0.out.size))
  clear hb CC
  go_upto_region 5 with fail
  obtain ⟨w3, hw3⟩ : ∃ w3, w3 = w2.alloc (.cells #[.slice none 0 0] 52) := ⟨_, rfl⟩
  rw [← hw3]
  have B3 := hid (show Below w.heap.size w w3 from B2.out.trans (hw3 ▸ (Below.refl _ w2).alloc B2.out.size _))
  have W3 := hid (show Wri w2.heap.size [] w3 from ⟨.slice none 0 0, hw3 ▸ heap_alloc_new w2 _, Ow.nil _ _⟩)
  have P3 := hid (show Pbox w3 w.heap.size m from hw3 ▸ P2.out.alloc _)
  have S3 := hid (show w3.heap.size = w2.heap.size + 1 by rw [hw3]; simp)
  have CA := hid (along_any (wlk_wr (g := w2.heap.size) w.heap.size B2.out.size) (s := []) (w := w3) ⟨W3.out, B3.out.size⟩ (Nat.le_of_eq S3.out.symm) (Arg.of (H.out.below B3.out) HX.out) HAL.out)
  have CW := hid (along_wr HF.out)
  have CL := hid (cont_len HF.out)
  rw [CW.out] at CA
  obtain ⟨xs, hxs⟩ : ∃ xs, xs = cont (mlOf m l t) := ⟨_, rfl⟩
  rw [← hxs] at CA CL
  have HXS := hid hxs
  clear hxs
  clear hw3 W3 CW HF
  go_wp2_with (first | (refine wp_pload rfl (.tmp 1) (by with_reducible rfl) w.heap.size m (by rfl) P3.out ?_) | fail)
  refine CA.out.mono ?_
  rintro e w4 ⟨m', rfl, _, hI, hE⟩
  obtain ⟨⟨v, hg, hO⟩, _⟩ := hI.out
  obtain ⟨A, c, rfl, hB⟩ := hO.shape
  have hlt2 := P2.out.lt
  have hx := hE.out.heap P3.out (show ¬ w.heap.size = w2.heap.size by omega)
  have P4 := hid (show Pbox w4 w.heap.size m from hx)
  have x0 := P4.out.c0
  have y0 := row_c hg 0
  have hkd := HKd.out
  have hcl := CL.out
  have CP := hid (Put_fits hB hkd (by omega))
  have B4 := hid (B3.out.trans (hE.out.below B3.out.size (fun b hb => by subst hb; exact B2.out.size)))
  clear hg hO hB hx hE hI hkd CA
  go_wp2_with fail
  refine CP.out.mono ?_
  rintro e w5 ⟨u, rfl, hO5, hb5⟩
  go_wp2
  go_ret2
  exact ⟨u, rfl, hid (HXS.out ▸ hO5.out.mono B4.out.size), hid (B4.out.trans (hb5.out.mono B4.out.size))⟩
open Go.RowKit Go.Shelf Go.Lib
set_option maxRecDepth 100000
structure MayM (M : Ml) : Prop where
  fit : FitM M
  edge : EMay M.ha M.mn M.mx
  tags : LMay M.le.length (fun j => (M.le[j]?).getD 0)
theorem may_iff {w : World} {B : Nat} {m : Md} {l : List De} {t : Nat → Nat} (h : Prd w B m l t) (hx : ∀ k, k < 4 → 0 ≤ (m.D k).x) : PMay m l t ↔ MayM (mlOf m l t) := by
  have hlen : (mlOf m l t).le.length = m.k := by show ((List.range m.k).map t).length = m.k; simp
  have hget : (fun j => ((mlOf m l t).le[j]?).getD 0) = t := funext fun j => range_map_get m.k t h.tg.out j
  constructor
  · intro hp
    have h2 := hp.2.2.2.2.2
    exact ⟨fit_of h hp, h2.1, by rw [hlen, hget]; exact h2.2.1⟩
  · rintro ⟨hf, he, ht⟩
    rw [hlen, hget] at ht
    have hF := hf.fit
    have hd : ∀ k, k < 4 → DMay (m.D k).s (m.D k).n (m.D k).f (m.D k).x := by
      have key : ∀ k, k < 4 → DMay (ddy (m.D k)).s (ddy (m.D k)).n (ddy (m.D k)).f ((ddy (m.D k)).x : Int) → DMay (m.D k).s (m.D k).n (m.D k).f (m.D k).x := fun k hk hm => by
        have e : (((ddy (m.D k)).x : Nat) : Int) = (m.D k).x := by have := hx k hk; show ((m.D k).x.toNat : Int) = (m.D k).x; omega
        rw [e] at hm
        exact hm
      intro k hk
      have hc : k = 0 ∨ k = 1 ∨ k = 2 ∨ k = 3 := by omega
      rcases hc with rfl | rfl | rfl | rfl
      · exact key 0 hk hf.S
      · exact key 1 hk hf.W
      · exact key 2 hk hf.C
      · exact key 3 hk hf.A
    have hchk : kchk l = 0 := chk_zero.2 ⟨hF.lsn, List.any_eq_false.2 fun d hd => by
      have h5 := hF.ls d hd
      unfold bad
      simp only [Bool.or_eq_true, decide_eq_true_eq, not_or, Int.not_lt, Int.not_le]
      omega⟩
    have f1 := hF.fr
    have f2 := hF.tu
    refine (pmay_iff h).2 ⟨⟨⟨hF.kd, ?_, ?_, hF.ep, hF.nu⟩, hF.ab, hd, hchk, he, ht⟩, ?_, ?_, ?_, ?_, ?_⟩
    · have := hF.fr
      exact ⟨this.1, Int.le_of_lt_add_one this.2⟩
    · have := hF.tu
      exact ⟨this.1, Int.le_of_lt_add_one this.2⟩
    · by_cases h3 : m.kd = 3
      · exact .inl h3
      by_cases h4 : m.kd = 4
      · exact .inr (.inl h4)
      exact .inr (.inr (hF.ab0 h3 h4))
    · by_cases h1 : m.kd = 1
      · exact .inl h1
      exact .inr (hF.sw0 h1)
    · by_cases h3 : m.kd = 2
      · exact .inl h3
      by_cases h4 : m.kd = 3
      · exact .inr (.inl h4)
      exact .inr (.inr (hF.ca0 h3 h4))
    · by_cases h1 : m.kd = 5
      · exact .inl h1
      exact .inr (hF.ls0 h1)
    · by_cases h1 : m.kd = 6
      · exact .inl h1
      have h2 := hF.le0 h1
      have h3 := hF.ed h2.1
      exact .inr ⟨h2.1, h3.1, h3.2, h2.2⟩
theorem out_ml {Dv : World → Dy → Prop} {w : World} {B : Nat} {m : Md} {M : Ml} (h : Out Dv w B m M) : mlOf m M.ls (fun j => (M.le[j]?).getD 0) = M ∧ ∀ k, k < 4 → 0 ≤ (m.D k).x := by
  have dd : ∀ {D : Dy} {d : Ddy}, DV D d → ddy D = d ∧ 0 ≤ D.x := fun {D d} hd => ⟨dy_ext hd.1 hd.2.1 (fun j => by rw [← hd.2.2.1]; rfl) (by have := hd.2.2.2; show D.x.toNat = d.x; omega), by have := hd.2.2.2; omega⟩
  refine ⟨ml_ext h.kd h.fr h.tu h.ep h.nu h.ab (dd h.S).1 (dd h.W).1 (dd h.C).1 (dd h.A).1 h.wa rfl h.ha h.mn h.mx ?_, fun k hk => ?_⟩
  · show (List.range m.k).map (fun j => (M.le[j]?).getD 0) = M.le
    have hl := h.tg.rd.1
    apply List.ext_getElem?
    intro j
    rcases Nat.lt_or_ge j m.k with hj | hj
    · have hj2 : j < M.le.length := by omega
      rw [List.getElem?_map, List.getElem?_range hj, List.getElem?_eq_getElem hj2]
      show some ((M.le[j]?).getD 0) = _
      rw [List.getElem?_eq_getElem hj2]
      rfl
    · rw [List.getElem?_eq_none (by simpa using hj), List.getElem?_eq_none (by omega)]
  · have hc : k = 0 ∨ k = 1 ∨ k = 2 ∨ k = 3 := by omega
    rcases hc with rfl | rfl | rfl | rfl
    · exact (dd h.S).2
    · exact (dd h.W).2
    · exact (dd h.C).2
    · exact (dd h.A).2
def inn (xs : List Nat) : List Nat := (xs.take (xs.length - 4)).drop 5
structure RdOk (xs : List Nat) (M : Ml) : Prop where
  flt : flt xs = 0
  may : MayM M
  kd : M.kd = xs.getD 2 0
  cont : cont M = inn xs
theorem alok_mz {k : Nat} (hk : k < 256) (s : Rst) : AlOk Wrd s (mz k) where
  kd := hk
  fr := ⟨Int.le_refl 0, by show (0 : Int) < 4294967296; omega⟩
  tu := ⟨Int.le_refl 0, by show (0 : Int) < 4294967296; omega⟩
  ep := ⟨Int.le_refl 0, by show (0 : Int) < 4294967296; omega⟩
  nu := ⟨Int.le_refl 0, by show (0 : Int) < 4294967296; omega⟩
  ab := ⟨Int.le_refl 0, by show (0 : Int) < 4294967296; omega⟩
  ls := fun d hd => by cases hd
  lsn := Nat.zero_le _
  mn := ⟨by show (-2147483648 : Int) ≤ 0; omega, by show (0 : Int) < 2147483648; omega⟩
  mx := ⟨by show (-2147483648 : Int) ≤ 0; omega, by show (0 : Int) < 2147483648; omega⟩
  len := Nat.zero_le _
  nfl := fun s n _ => by have := rnR_one s; show (rnR s 1).1 ≤ 1000; omega
theorem arg_mz (w : World) (B k : Nat) : Arg w B (Mz k) (mz k) :=
  ⟨rfl, rfl, rfl, rfl, rfl, rfl, fun _ _ => Rd.nil _ _, ⟨rfl, rfl, rfl, rfl⟩, ⟨rfl, rfl, rfl, rfl⟩, ⟨rfl, rfl, rfl, rfl⟩, ⟨rfl, rfl, rfl, rfl⟩, rfl, Ds.nil' _ _, rfl, rfl, rfl, ⟨fun _ => 0, Rd.nil _ _, fun _ => rfl⟩, rfl⟩
end Go.Proofs.YtbankbehfjogpaaGreat
