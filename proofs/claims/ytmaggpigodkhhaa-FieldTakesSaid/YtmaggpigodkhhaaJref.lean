/- The document's fields: Of, Digits, put, PutNumber. -/
import Derived.Test.YtmaggpigodkhhaaJrsame
namespace Go.Proofs.Ytmaggpigodkhhaa
open Go.RowKit

set_option maxHeartbeats 1600000 in
theorem rOf_any {w : World} {B n c : Nat} {A : Option Addr} {xs : List Nat} (h : By w B A n c xs) (hn : n ≤ 8) :
    Calls Try.prog 22 #[.slice A n c] w fun e w' => e = .returned (.int .u64 (bn xs : Nat)) ∧ w = w' := by
  have H := hid h
  have hcap := h.cap
  clear h
  go_enter Try.func22, Try.ntmps22
  go_wp2
  go_loop [3, 4] (fun a i => ∃ k V : Nat, k ≤ n ∧ i = .int .i64 k ∧ a = .int .u64 (V : Int) ∧ Hid (V = bn (xs.take k))) (fun _ i => n - (intOf i).toNat)
  case atStart => exact ⟨0, 0, by omega, rfl, rfl, hid rfl⟩
  case round =>
    obtain ⟨k, V, hk, rfl, rfl, hV⟩ := hrel
    by_cases hcon : k < n
    · obtain ⟨b, off, rfl, _, hc⟩ := H.out.at_ (by omega)
      obtain ⟨x, hx⟩ : ∃ x, xs[k]? = some x := ⟨xs[k]'(by rw [H.out.len]; exact hcon), List.getElem?_eq_getElem _⟩
      have hcell := hc k x hx
      have hx256 := H.out.lt x (List.mem_of_getElem? hx)
      have hVl : V < 72057594037927936 := by
        rw [hV.out]
        have e := bn_lt (xs := xs.take k) (fun y hy => H.out.lt y (List.mem_of_mem_take hy))
        have h1 : (256 : Nat) ^ (xs.take k).length ≤ 256 ^ 7 := Nat.pow_le_pow_right (by omega) (by rw [List.length_take]; omega)
        have h2 : (256 : Nat) ^ 7 = 72057594037927936 := by decide
        omega
      have hnext : Hid (256 * V + x = bn (xs.take (k + 1))) := hid (by rw [bn_take hx, hV.out])
      obtain ⟨U, hU⟩ : ∃ U, U = 256 * V + x := ⟨_, rfl⟩
      have hUe : 256 * (V : Int) + (x : Int) = (U : Int) := by omega
      have hUw : IntKind.u64.wrap (256 * (V : Int) + (x : Int)) = (U : Int) := by rw [IntKind.wrap_u64]; omega
      rw [← hU] at hnext
      clear hc hx hU
      go_wp2
      go_round
      case rel => exact ⟨k + 1, U, by omega, by go_num, by first | rfl | (congr 1; omega), hnext⟩
      case measure => simp [intOf]; omega
    · obtain rfl : k = n := by omega
      go_wp2
      go_ret
      exact ⟨by rw [hV.out, List.take_of_length_le (by rw [H.out.len]; exact Nat.le_refl _)]; rfl, rfl⟩

theorem be_succ (V k : Nat) : be V (k + 1) = V / 256 ^ k % 256 :: be V k := by
  unfold be
  rw [bys_succ, List.reverse_append]
  rfl

set_option maxHeartbeats 1600000 in
theorem rDigits_any {w : World} {V z : Nat} (hz : z ≤ 8) (_hV : V ≤ 18446744073709551615) :
    Calls Try.prog 23 #[.int .u64 (V : Int), .int .i64 (z : Int)] w fun e w' => ∃ A c, e = .returned (.slice A z c) ∧ Hid (Ow w' w.heap.size (.slice A z c) (be V z)) ∧ Hid (By w' w'.heap.size A z c (be V z)) ∧ Hid (Below w.heap.size w w') := by
  go_enter Try.func23, Try.ntmps23
  go_wp2
  go_loopw [0, 5, 6] (fun t a i wr => ∃ k T : Nat, k ≤ z ∧ i = .int .i64 k ∧ t = .int .u64 (T : Int) ∧ Hid (T = V / 256 ^ k) ∧ Hid (Ow wr w.heap.size a (be V k)) ∧ Hid (Below w.heap.size w wr)) (fun _ _ i _ => z - (intOf i).toNat)
  case atStart => exact ⟨0, V, by omega, rfl, rfl, hid (by rw [Nat.pow_zero, Nat.div_one]), hid (Ow.nil _ _), hid (Below.refl _ _)⟩
  case round =>
    obtain ⟨k, T, hk, rfl, rfl, hT, hO, hb⟩ := hrel
    by_cases hcon : k < z
    · obtain ⟨A, c, hv, hY⟩ := hO.out.shape
      rw [be_length] at hY hv
      subst hv
      have hm : (T : Int) % 256 = ((T % 256 : Nat) : Int) := by omega
      have hd : (T : Int) / 256 = ((T / 256 : Nat) : Int) := by omega
      have hnext : Hid (be V (k + 1) = [T % 256] ++ be V k) := hid (by rw [be_succ, ← hT.out]; rfl)
      have hnd : Hid (T / 256 = V / 256 ^ (k + 1)) := hid (by rw [hT.out, Nat.div_div_eq_div_mul, Nat.pow_succ])
      have hy : T % 256 < 256 := Nat.mod_lt _ (by omega)
      obtain ⟨y, hyy⟩ : ∃ y, y = T % 256 := ⟨_, rfl⟩
      obtain ⟨T2, hT2⟩ : ∃ T2, T2 = T / 256 := ⟨_, rfl⟩
      rw [← hyy] at hm hnext hy
      rw [← hT2] at hd hnd
      have hTV : T ≤ V := by rw [hT.out]; exact Nat.div_le_self _ _
      have hwr : IntKind.u64.wrap (T2 : Int) = (T2 : Int) := by rw [IntKind.wrap_u64]; omega
      have hwt : IntKind.u64.wrap ((T : Int) / 256) = (T2 : Int) := by rw [hd, IntKind.wrap_u64]; omega
      have Hal := hid ((Below.refl wr.heap.size wr).alloc (Nat.le_refl _) (.cells (vals [y]).toArray 5))
      have HN : Hid (Ow (wr.alloc (.cells (vals [y]).toArray 5)) wr.heap.size (.slice (some ⟨wr.heap.size, 0, none⟩) 1 1) [y]) :=
        hid ⟨⟨rfl, .inr ⟨wr.heap.size, 1, _, rfl, Nat.le_refl _, heap_alloc_new wr _, Nat.le_refl _, by unfold maxLen; omega, rfl, rfl⟩⟩, by simpa using hy, by simp⟩
      have HY := hid (hY.below Hal.out)
      have hsz := hb.out.size
      clear hY hyy hT2 hO
      go_wp2_with (at_builtin; refine app_bytes rfl (.tmp 15) (.tmp 16) rfl rfl rfl HN.out (by simp) HY.out (by simp; omega) ?_; intro v' w' hO' hb')
      go_roundw
      case rel => exact ⟨k + 1, T2, by omega, by go_num, by first | rfl | (congr 1; omega), hnd, hid (by rw [hnext.out]; exact hO'.out.mono hsz), hid (hb.out.trans ((Hal.out.trans hb'.out).mono hsz))⟩
      case measure => simp [intOf]; omega
    · obtain rfl : k = z := by omega
      obtain ⟨A, c, hv, hY⟩ := hO.out.shape
      rw [be_length] at hY hv
      subst hv
      have HY := hid hY
      clear hY
      go_wp2
      go_ret
      exact ⟨A, c, rfl, hO, HY, hb⟩

end Go.Proofs.Ytmaggpigodkhhaa
