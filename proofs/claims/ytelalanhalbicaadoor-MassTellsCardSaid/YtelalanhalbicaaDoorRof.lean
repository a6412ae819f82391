/- The reference's Of. -/
import Derived.Test.YtelalanhalbicaaDoorRplus
namespace Go.Proofs.YtelalanhalbicaaDoor
open Go.RowKit

set_option maxHeartbeats 1600000 in
theorem rOf_any (x : Nat) (hx : x ≤ 18446744073709551615) (w : World) :
    Calls Tryd.prog 76 #[.int .u64 (x : Int)] w fun e w' => ∃ v, e = .returned v ∧ Below w.heap.size w w' ∧ Lm w' w'.heap.size x v := by
  have hx2 : x < tw 64 := by
    have : tw 64 = 18446744073709551616 := by decide
    omega
  have HX := hid hx2
  clear hx2
  go_enter Tryd.func76, Tryd.ntmps76
  go_wp2_with fail
  go_loopw [0, 3] (fun u v wr => ∃ t y : Nat, t ≤ 64 ∧ u = .int .u64 (y : Int) ∧ y ≤ 18446744073709551615 ∧ Hid (y = x / tw t) ∧ Hid (Row wr w.heap.size x t v) ∧ Hid (Below w.heap.size w wr)) (fun u _ _ => (intOf u).toNat)
  case atStart => exact ⟨0, x, by omega, rfl, hx, hid (by rw [tw_zero, Nat.div_one]), Row.nil _ _ _, Below.refl _ _⟩
  case round =>
    obtain ⟨t, y, ht, rfl, hy, Hy, hrow, hbel⟩ := hrel
    rcases Nat.eq_zero_or_pos y with h0 | h0
    · subst h0
      have hlt : x < tw t := by
        rcases Nat.lt_or_ge x (tw t) with h | h
        · exact h
        · have a := Nat.div_pos h (tw_pos t)
          have b := Hy.out
          omega
      obtain ⟨A1, c1, rfl, hb1⟩ := Row.shape hrow.out hlt (by omega)
      have Cc := hid (Limbs_bits hb1 (Nat.le_refl _) (Nat.lt_of_lt_of_le HX.out (tw_mono (by omega))))
      clear hb1 hlt
      go_wp2_with fail
      refine Cc.out.mono ?_
      rintro e w2 ⟨v, rfl, hb2, hl⟩
      have Hb2 := hid hb2
      have Hl := hid hl
      clear hb2 hl
      go_wp2
      go_ret
      exact ⟨_, rfl, hbel.out.trans (Hb2.out.mono hbel.out.size), Hl.out⟩
    · have ht2 : t < 64 := by
        rcases Nat.lt_or_ge t 64 with h | h
        · exact h
        · have a := Nat.div_eq_of_lt (Nat.lt_of_lt_of_le HX.out (tw_mono h))
          have b := Hy.out
          omega
      have Hd := hid (show ((y : Int) % 2) = (bt x t : Int) by
        rw [Hy.out]
        unfold bt
        omega)
      go_wp2_with (at_builtin; refine wpList_append_one rfl (.tmp 6) (.tmp 10) 78 rfl 5 (.int .u8 0) 1 Tryd.underlying78 info_u8 rfl (by decide) rfl rfl hrow.out hbel.out rfl (by omega) ?_; intro v' w' hown' hbel')
      go_roundw
      case rel =>
        refine ⟨t + 1, y / 2, by omega, by go_num, by omega, hid (by rw [tw_half, ← Hy.out]), hid ?_, hbel'⟩
        have h := hown'.out
        rw [Hd.out] at h
        unfold Row
        rw [dg_succ]
        exact h
      case measure => simp [intOf]; omega

end Go.Proofs.YtelalanhalbicaaDoor
