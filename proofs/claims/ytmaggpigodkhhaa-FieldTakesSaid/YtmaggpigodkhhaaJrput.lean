/- The document's fields: put, PutNumber. -/
import Derived.Test.YtmaggpigodkhhaaJref
namespace Go.Proofs.Ytmaggpigodkhhaa
open Go.RowKit

set_option maxHeartbeats 1600000 in
theorem rput_any {w : World} {n c m d : Nat} {A D : Option Addr} {xs ys : List Nat} (hx : By w w.heap.size A n c xs) (hy : By w w.heap.size D m d ys) (hn : n ≤ 10000) (hm : m ≤ 10000) :
    Calls Try.prog 24 #[.slice A n c, .slice D m d] w (PRes w (if 3900 < n + m then 4 else 0) (xs ++ ys)) := by
  have hadd : IntKind.i64.wrap ((n : Int) + (m : Int)) = (n : Int) + (m : Int) := IntWalk.i64_in _ (by omega)
  have HX := hid hx
  have HY := hid hy
  have hlx := hx.len
  clear hx hy
  by_cases hb : 3900 < n + m
  · rw [if_pos hb]
    have hb2 : (3900 : Int) < (n : Int) + (m : Int) := by omega
    clear hb
    go_enter Try.func24, Try.ntmps24
    go_wp2
    go_ret2
    exact PRes.bad (by omega) (Below.refl _ _)
  · rw [if_neg hb]
    have hb2 : ¬ (3900 : Int) < (n : Int) + (m : Int) := by omega
    go_enter Try.func24, Try.ntmps24
    go_wp2_with (first
      | (at_builtin; refine copy_bytes rfl (.tmp 12) (.tmp 13) rfl rfl rfl HX.out (by omega) ?_; intro v1 w1 hO1 hb1; have HY1 := hid (HY.out.below hb1.out))
      | (at_builtin; refine app_bytes rfl (.tmp 14) (.tmp 15) rfl rfl rfl hO1.out hb1.out.size HY1.out (by omega) ?_; intro v2 w2 hO2 hb2')
      | fail)
    go_ret2
    exact PRes.good rfl hO2.out (hb1.out.trans hb2'.out)

set_option maxHeartbeats 3200000 in
theorem rPutNumber_any {w : World} {n c V : Nat} {A : Option Addr} {xs : List Nat} (h : By w w.heap.size A n c xs) (hV : V ≤ 18446744073709551615) (z : Int) (hn : n ≤ 9000) :
    Calls Try.prog 8 #[.slice A n c, .int .u64 (V : Int), .int .i64 z] w (PRes w (pnE n V z) (xs ++ be V z.toNat)) := by
  have HX := hid h
  clear h
  by_cases h1 : 1 ≤ z ∧ z ≤ 8
  · obtain ⟨k, rfl⟩ : ∃ k : Nat, z = k := ⟨z.toNat, by omega⟩
    rw [Int.toNat_natCast]
    have HE : Hid (pnE n V (k : Int) = if ¬ V < 256 ^ k then 2 else if 3900 < n + k then 4 else 0) := hid (by
      unfold pnE
      rw [Int.toNat_natCast]
      by_cases hp : V < 256 ^ k
      · rw [if_neg (fun h => h ⟨h1.1, h1.2, hp⟩), if_neg (show ¬ ¬ V < 256 ^ k from fun h => h hp)]
        by_cases hb : 3900 < n + k
        · rw [if_pos hb, if_pos (by omega)]
        · rw [if_neg hb, if_neg (by omega)]
      · rw [if_pos (fun h => hp h.2.2), if_pos hp])
    have hz1 : ¬ (k : Int) < 1 := by omega
    have hz2 : ¬ (8 : Int) < (k : Int) := by omega
    have HC := hid (fun w => rDigits_any (w := w) (V := V) (z := k) (by omega) hV)
    go_enter Try.func8, Try.ntmps8
    go_wp2_with fail
    refine (HC.out _).mono ?_
    rintro e w1 ⟨A1, c1, rfl, hO1, hY1, hb1⟩
    go_wp2_with fail
    refine (rOf_any hY1.out (by omega)).mono ?_
    rintro e w2 ⟨rfl, rfl⟩
    rw [bn_be_mod]
    have K1 := hid hb1.out
    by_cases hp : V < 256 ^ k
    · rw [Nat.mod_eq_of_lt hp]
      have hq : ((V : Int) != (V : Int)) = false := by simp
      have HE2 : Hid (pnE n V (k : Int) = if 3900 < n + k then 4 else 0) := hid (by rw [HE.out, if_neg (fun h => h hp)])
      clear hp hO1 hY1 hb1 HE
      go_wp2_with fail
      refine (HC.out _).mono ?_
      rintro e w3 ⟨A3, c3, rfl, hO3, hY3, hb3⟩
      have K3 := hid (K1.out.trans (hb3.out.mono K1.out.size))
      clear hO3
      go_wp2_with fail
      refine (rput_any ((HX.out.below K3.out).mono K3.out.size) hY3.out (by omega) (by omega)).mono ?_
      rintro e w4 ⟨A4, n4, c4, e4, rfl, he4, hO4, hn4, hb4⟩
      have K4 := hid (K3.out.trans (hb4.out.mono K3.out.size))
      go_wp2
      go_ret2
      exact ⟨A4, n4, c4, e4, rfl, hid (by rw [HE2.out]; exact he4.out), hid (hO4.out.mono K3.out.size), hn4, K4⟩
    · have hm : V % 256 ^ k < 256 ^ k := Nat.mod_lt _ (Nat.pow_pos (by omega))
      have hq : (((V % 256 ^ k : Nat) : Int) != (V : Int)) = true := by simp only [bne_iff_ne]; omega
      have HE2 : Hid (2 = pnE n V (k : Int)) := hid (by rw [HE.out, if_pos hp])
      generalize V % 256 ^ k = U at *
      clear hp hm hO1 hY1 hb1 HE
      go_wp2
      go_ret2
      have := PRes.bad (xs := xs ++ be V k) (E := 2) (by omega) K1.out
      rw [← HE2.out]
      exact this
  · have HE : Hid (2 = pnE n V z) := hid (by unfold pnE; rw [if_pos (fun h => h1 ⟨h.1, h.2.1⟩)])
    rw [← HE.out]
    have hcase : z < 1 ∨ (¬ z < 1 ∧ (8 : Int) < z) := by omega
    clear h1
    rcases hcase with hz | ⟨hz, hz2⟩
    all_goals
      go_enter Try.func8, Try.ntmps8
      go_wp2
      go_ret2
      exact PRes.bad (by omega) (Below.refl _ _)

end Go.Proofs.Ytmaggpigodkhhaa
