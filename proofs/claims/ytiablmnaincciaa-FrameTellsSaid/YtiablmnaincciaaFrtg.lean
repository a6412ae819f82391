/- The document's Take, of a frame. -/
import Derived.Test.YtiablmnaincciaaFrtake
namespace Go.Proofs.Ytiablmnaincciaa
open Go.RowKit

/-- 'append(x, y...)' over bytes, as one step of a region that draws. -/
theorem step_app {ops : Array Oper} {o : Oper} {a : Act} {K : Act → World → Prop} {Q : Exit → Act → World → Prop} {E : Prop} (hgd : o.guard = none) (s x : Operand)
    (ho : o.op = .call { callee := .builtin .append, args := #[s, x], argTypes := #[22, 22] }) {w : World} {B B' m c : Nat} {v : Value} {xs ys : List Nat} {p : Addr} (hs : a.eval s = v) (hx : a.eval x = .slice (some p) m c)
    (hown : Ow w B v xs) (hB : B ≤ w.heap.size) (hy : By w B' (some p) m c ys) (hn : xs.length + m ≤ 1000000)
    (h : ∀ v' w', Hid (Ow w' B v' (xs ++ ys)) → Hid (Below B w w') → K (a.put o.dst v') w') : if Region.wanted o (yielded ops a.tmps) = true then Oper.wp Try.prog o a w K Q else E := by
  rw [if_pos (by simp [Region.wanted, hgd])]
  obtain ⟨i, hi, hz, hsz, hby⟩ := info_one u8_info
  refine wp_append_own w s x 22 ho B 5 i (.int .u8 0) 1 1 (by kernel_rfl) hi hz hsz hby rfl (by decide) v xs.length (vals xs) hs hown.1 p m c (vals ys) hx (by rw [vals_length, hy.len, Nat.mul_one]) (hy.cells p rfl) (fun u hu => vals_one hu) (by unfold maxLen; omega) (by omega) hB ?_
  intro v' w' hown' hgr _
  refine h v' w' (hid ⟨?_, ?_, ?_⟩) (hid ((Below.refl _ _).grown hgr hB ?_))
  · rw [List.length_append, hy.len, vals_append]
    exact hown'
  · intro y hy2
    rcases List.mem_append.1 hy2 with h1 | h1
    · exact hown.2.1 y h1
    · exact hy.lt y h1
  · rw [List.length_append, hy.len]
    omega
  · intro k hk
    rcases hown.1 with ⟨_, ⟨rfl, _⟩ | ⟨g, cap, cur, rfl, hg, _⟩⟩
    · cases hk
    · injection hk with hk
      subst hk
      exact hg
theorem Ow.empty {w : World} {B : Nat} (hB : B ≤ w.heap.size) : Ow (w.alloc (.cells #[] 5)) B (.slice (some ⟨w.heap.size, 0, none⟩) 0 0) [] :=
  ⟨⟨rfl, .inr ⟨w.heap.size, 0, #[], rfl, hB, heap_alloc_new w _, Nat.le_refl _, by unfold maxLen; omega, rfl, rfl⟩⟩, by simp, by simp⟩

set_option maxHeartbeats 12800000 in
theorem RTake_good {w : World} {B m c : Nat} {A : Option Addr} {xs : List Nat} (h : By w B A (m + 9) c xs) (hB : B ≤ w.heap.size) (heq : nm (xs.drop (m + 5)) = crc (xs.take (m + 5))) (hf : xs.getD 0 0 = 72 ∧ xs.getD 1 0 = 1 ∧ m ≤ 4096 ∧ xs.getD 3 0 * 256 + xs.getD 4 0 = m) :
    Calls Try.prog 13 #[.slice A (m + 9) c] w fun e w' => ∃ v, e = .returned (.tuple #[.int .u8 (xs.getD 2 0 : Int), v, .int .i64 0]) ∧ Hid (Ow w' w.heap.size v ((xs.take (m + 5)).drop 5)) ∧ Hid (Below w.heap.size w w') := by
  have hcap := h.cap
  have hmax := h.max
  obtain ⟨b, off, rfl, hbB, -⟩ := h.at_ (by omega)
  have CS := hid (RSum_any (h.first (m + 5) (by omega)))
  have hsl := crc_lt (xs := xs.take (m + 5)) (fun x hx => h.lt x (List.mem_of_mem_take hx))
  rw [drop_last4 h.len] at heq
  have HP := hid (h.part 5 (m + 5) m (by omega) (by omega))
  generalize hys : (xs.take (m + 5)).drop 5 = ys at *
  have k0 := h.cell (j := m + 5) (by omega)
  have k1 := h.cell (j := m + 6) (by omega)
  have k2 := h.cell (j := m + 7) (by omega)
  have k3 := h.cell (j := m + 8) (by omega)
  have l0 := h.getD (m + 5)
  have l1 := h.getD (m + 6)
  have l2 := h.getD (m + 7)
  have l3 := h.getD (m + 8)
  have n0 := h.cell (j := 0) (by omega)
  rw [Nat.add_zero] at n0
  have n1 := h.cell (j := 1) (by omega)
  have n2 := h.cell (j := 2) (by omega)
  have n3 := h.cell (j := 3) (by omega)
  have n4 := h.cell (j := 4) (by omega)
  have r3 := h.getD 3
  have r4 := h.getD 4
  generalize xs.getD (m + 5) 0 = z0 at *
  generalize xs.getD (m + 6) 0 = z1 at *
  generalize xs.getD (m + 7) 0 = z2 at *
  generalize xs.getD (m + 8) 0 = z3 at *
  clear hys
  generalize crc (xs.take (m + 5)) = s at *
  generalize xs.getD 0 0 = x0 at *
  generalize xs.getD 1 0 = x1 at *
  generalize xs.getD 2 0 = x2 at *
  generalize xs.getD 3 0 = x3 at *
  generalize xs.getD 4 0 = x4 at *
  have g0 : ((m : Int) + 9 - 4).toNat = m + 5 := by omega
  have g1 : ((m : Int) + 9 - 3).toNat = m + 6 := by omega
  have g2 : ((m : Int) + 9 - 2).toNat = m + 7 := by omega
  have g3 : ((m : Int) + 9 - 1).toNat = m + 8 := by omega
  simp only [nm] at heq
  have c0 : ((z0 : Int) != (s : Int) % 256) = false := by simp; omega
  have c1 : ((z1 : Int) != (s : Int) / 256 % 256) = false := by simp; omega
  have c2 : ((z2 : Int) != (s : Int) / 65536 % 256) = false := by simp; omega
  have c3 : ((z3 : Int) != (s : Int) / 16777216 % 256) = false := by simp; omega
  have w9 : IntKind.i64.wrap ((m : Int) + 9 - 9) = (m : Int) := by rw [IntWalk.i64_in _ (by omega)]; omega
  have wm : IntKind.i64.wrap (256 * (x3 : Int)) = 256 * (x3 : Int) := IntWalk.i64_in _ (by omega)
  have wa : IntKind.i64.wrap (256 * (x3 : Int) + (x4 : Int)) = 256 * (x3 : Int) + (x4 : Int) := IntWalk.i64_in _ (by omega)
  obtain ⟨rfl, rfl, hm4, hl⟩ := hf
  have d2 : (256 * (x3 : Int) + (x4 : Int) != (m : Int)) = false := by simp; omega
  have B1 := hid (Below.refl w.heap.size w).drew
  have B2 := hid (Below.refl w.heap.size w).drew.drew
  have hne : ¬ c = 5 := by omega
  have h45 : m + 5 - 5 = m := by omega
  have q1 : (5 : Int) ≤ (m : Int) + 9 - 4 := by omega
  have q2 : (m : Int) + 9 - 4 ≤ (c : Int) := by omega
  have hbw : b < w.heap.size := by omega
  have h29 : (2 : Int) < (m : Int) + 9 := by omega
  have h04 : (0 : Int) ≤ (m : Int) + 9 - 4 := by omega
  have q3 : m + 5 ≤ c := by omega
  have w4 : IntKind.i64.wrap ((m : Int) + 9 - 4) = ((m + 5 : Nat) : Int) := by rw [IntWalk.i64_in _ (by omega)]; omega
  have q4 : (5 : Int) ≤ max (((m + 5 : Nat) : Int)) 0 := by omega
  have q5 : (5 : Int) ≤ max ((m : Int) + 5) 0 := by omega
  have q6 : (0 : Int) ≤ (m : Int) + 5 := by omega
  have q7 : (m : Int) + 5 ≤ (c : Int) := by omega
  have q9 : (5 : Int) ≤ (m : Int) + 5 := by omega
  have q8 : ((m : Int) + 5).toNat = m + 5 := by omega
  clear h heq hl hsl
  go_enter Try.func13, Try.ntmps13
  go_wp2_with fail
  refine CS.out.mono ?_
  rintro e w' ⟨rfl, rfl⟩
  have e0 : w.drew.cell? ⟨b, off, none⟩ = some (.int .u8 ((72 : Nat) : Int)) := n0
  have e1 : w.drew.cell? ⟨b, off + 1, none⟩ = some (.int .u8 ((1 : Nat) : Int)) := n1
  have e3 : w.drew.cell? ⟨b, off + 3, none⟩ = some (.int .u8 (x3 : Int)) := n3
  have e4 : w.drew.cell? ⟨b, off + 4, none⟩ = some (.int .u8 (x4 : Int)) := n4
  go_wp2_with fail
  go_region
  all_goals
    have f2 : w.drew.drew.cell? ⟨b, off + 2, none⟩ = some (.int .u8 (x2 : Int)) := n2
    have BA : Hid (Below w.heap.size w (w.alloc (.cells #[] 5)).drew.drew) := hid ((Below.refl w.heap.size w).alloc (Nat.le_refl _) (.cells #[] 5)).drew.drew
    have f2a : (w.alloc (.cells #[] 5)).drew.drew.cell? ⟨b, off + 2, none⟩ = some (.int .u8 (x2 : Int)) := (BA.out.cell (p := ⟨b, off + 2, none⟩) hbw).trans n2
    have HO : Hid (Ow (w.alloc (.cells #[] 5)).drew.drew w.heap.size (.slice (some ⟨w.heap.size, 0, none⟩) 0 0) []) := hid (Ow.empty (w := w) (B := w.heap.size) (Nat.le_refl _))
    have HP2 := hid ((HP.out.mono hB).below BA.out)
    have hsA := hid BA.out.size
    go_wp2_with fail
    go_region_law (refine step_app (by rfl) (.tmp 90) (.tmp 94) (by rfl) (by simp [Act.eval]) (by simp [Act.eval]) HO.out hsA.out HP2.out (by simp; omega) ?_; intro v' w' hO' hb'; have f2b : w'.cell? ⟨b, off + 2, none⟩ = some (.int .u8 (x2 : Int)) := (hb'.out.cell (p := ⟨b, off + 2, none⟩) hbw).trans f2a)
    all_goals
      go_wp2
      go_ret3
      exact ⟨_, rfl, hO', hid (BA.out.trans hb'.out)⟩

end Go.Proofs.Ytiablmnaincciaa
