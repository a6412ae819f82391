/- Package frame: Clone, Take; Put. -/
import Derived.Test.YtiablmnaincciaaFtake
namespace Go.Proofs.Ytiablmnaincciaa
open Go.RowKit

/-- 'append([]byte{}, y...)'. -/
theorem copy_bytes {ops : Array Oper} {rest : List Oper} {o : Oper} {a : Act} {Q : Exit → Act → World → Prop} (hgd : o.guard = none) (s x : Operand)
    (ho : o.op = .call { callee := .builtin .append, args := #[s, x], argTypes := #[22, 22] }) {w : World} {B m c : Nat} {ys : List Nat} {A : Option Addr} (hs : a.eval s = .slice (some ⟨w.heap.size, 0, none⟩) 0 0) (hx : a.eval x = .slice A m c)
    (hy : By w B A m c ys) (hn : m ≤ 17592186044416)
    (h : ∀ v' w', Hid (Ow w' w.heap.size v' ys) → Hid (Below w.heap.size w w') → wpList Try.prog ops Q rest (a.put o.dst v') w') : wpList Try.prog ops Q (o :: rest) a (w.alloc (.cells #[] 5)) := by
  refine wpList_append_copy hgd s x 22 ho 5 (.int .u8 0) 1 (by kernel_rfl) u8_info rfl (by omega) hs hx (news := vals ys) (by rw [vals_length, hy.len]) hy.nil hy.cells (fun u hu => vals_one hu) hn ?_
  intro v' w' hown' hb
  refine h v' w' (hid ⟨?_, hy.lt, ?_⟩) hb
  · rw [hy.len]
    exact hown'.out
  · rw [hy.len]
    exact hy.max

set_option maxHeartbeats 1600000 in
theorem Clone_any {w : World} {B n c : Nat} {A : Option Addr} {xs : List Nat} (h : By w B A n c xs) (hn : n ≤ 17592186044416) :
    Calls Try.prog 17 #[.slice A n c] w fun e w' => ∃ v, e = .returned v ∧ Hid (Ow w' w.heap.size v xs) ∧ Hid (Below w.heap.size w w') := by
  have H := hid h
  cases A with
  | none =>
    obtain ⟨rfl, rfl⟩ := h.nil rfl
    have hx : xs = [] := List.length_eq_zero_iff.1 h.len
    subst hx
    clear h
    have he := Lib.run_eql_slice_nil (P := Try.prog) w 22 5 none 0 0 0 0 (by kernel_rfl)
    go_enter Try.func17, Try.ntmps17
    go_wp2
    go_ret
    exact ⟨_, rfl, hid (Ow.nil _ _), hid (Below.refl _ _)⟩
  | some p =>
    clear h
    have he := Lib.run_eql_slice_nil (P := Try.prog) w 22 5 (some p) n c 0 0 (by kernel_rfl)
    go_enter Try.func17, Try.ntmps17
    go_wp2_with (at_builtin; refine copy_bytes rfl (.tmp 5) (.tmp 6) rfl rfl rfl H.out hn ?_; intro v' w' hO hb)
    go_ret
    exact ⟨_, rfl, hO, hb⟩

/-- Bytes that are no frame. -/
theorem Take_bad {w : World} {B n c : Nat} {A : Option Addr} {xs : List Nat} (h : By w B A n c xs) (hB : B ≤ w.heap.size) (hf : flt xs ≠ 0) :
    Calls Try.prog 9 #[.slice A n c] w fun e w' => e = .returned (.tuple #[.int .u8 0, .slice none 0 0, .int .i64 (flt xs)]) ∧ Hid (Below w.heap.size w w') := by
  have CF := hid (fault_any h hB)
  have hz : (flt xs != 0) = true := by simpa using hf
  clear h hf
  generalize flt xs = z at *
  go_enter Try.func9, Try.ntmps9
  go_wp2_with fail
  refine CF.out.mono ?_
  rintro e w' ⟨rfl, hb⟩
  go_wp2
  go_ret3
  exact ⟨rfl, hb⟩

theorem flt_good {xs : List Nat} (hf : flt xs = 0) : 9 ≤ xs.length ∧ xs.length - 9 ≤ 4096 ∧ nm (xs.drop (xs.length - 4)) = crc (xs.take (xs.length - 4)) ∧ xs.getD 0 0 = 72 ∧ xs.getD 1 0 = 1 ∧ xs.getD 3 0 * 256 + xs.getD 4 0 = xs.length - 9 := by
  unfold flt at hf
  split at hf
  · cases hf
  · split at hf
    · split at hf
      · rename_i h1 h2 h3
        exact ⟨by omega, h3.2.2.1, h2, h3.1, h3.2.1, h3.2.2.2⟩
      · cases hf
    · cases hf

set_option maxHeartbeats 3200000 in
/-- A frame. -/
theorem Take_good {w : World} {B n c : Nat} {A : Option Addr} {xs : List Nat} (h : By w B A n c xs) (hB : B ≤ w.heap.size) (hf : flt xs = 0) :
    Calls Try.prog 9 #[.slice A n c] w fun e w' => ∃ v, e = .returned (.tuple #[.int .u8 (xs.getD 2 0 : Int), v, .int .i64 0]) ∧ Hid (Ow w' w.heap.size v ((xs.take (xs.length - 4)).drop 5)) ∧ Hid (Below w.heap.size w w') := by
  have CF := hid (fault_any h hB)
  rw [hf] at CF
  obtain ⟨h9, hm, -, -, -, -⟩ := flt_good hf
  have hlen := h.len
  obtain ⟨m, rfl⟩ : ∃ m, n = m + 9 := ⟨n - 9, by omega⟩
  obtain ⟨b, off, rfl, hbB, hc⟩ := h.at_ (by omega)
  have hcap := h.cap
  have hm2 : m ≤ 4096 := by omega
  have hw : IntKind.i64.wrap (((m + 9 : Nat) : Int) - 4) = ((m + 5 : Nat) : Int) := by rw [IntWalk.i64_in _ (by omega)]; omega
  have hne : ¬ c = 5 := by omega
  have htn : ((m : Int) + 5).toNat = m + 5 := by omega
  have h45 : m + 5 - 5 = m := by omega
  have g1 : (5 : Int) ≤ (m : Int) + 9 - 4 := by omega
  have g2 : (m : Int) + 9 - 4 ≤ (c : Int) := by omega
  have g3 : ((m : Int) + 9 - 4).toNat = m + 5 := by omega
  have g4 : IntKind.i64.wrap ((m : Int) + 9 - 4) = (m : Int) + 9 - 4 := IntWalk.i64_in _ (by omega)
  have HP := hid (h.part 5 (m + 5) m (by omega) (by omega))
  have hk : w.cell? ⟨b, off + 2, none⟩ = some (.int .u8 (xs.getD 2 0 : Int)) := by
    refine hc 2 _ ?_
    rw [List.getD_eq_getElem?_getD, List.getElem?_eq_getElem (by omega)]
    rfl
  have Hk := hid hk
  have hbw : b < w.heap.size := by omega
  rw [show xs.length - 4 = m + 5 by omega]
  generalize xs.getD 2 0 = x2 at *
  generalize (xs.take (m + 5)).drop 5 = ys at *
  clear h hf hc hk hm hlen h9
  go_enter Try.func9, Try.ntmps9
  go_wp2_with fail
  refine CF.out.mono ?_
  rintro e w1 ⟨rfl, hb⟩
  have hk1 : w1.drew.cell? ⟨b, off + 2, none⟩ = some (.int .u8 (x2 : Int)) := (hb.out.cell (p := ⟨b, off + 2, none⟩) hbw).trans Hk.out
  have HB1 := hid hb.out.drew
  have HP1 := hid ((HP.out.mono hB).below HB1.out)
  have hs1 := HB1.out.size
  go_upto_region 4 with fail
  go_region_with ((go_at_call 17; (try simp only [htn, h45, g3]); with_reducible refine (Clone_any HP1.out (by omega)).mono ?_; rintro e w2 ⟨v, rfl, hO, hb2⟩; have hk2 : w2.cell? ⟨b, off + 2, none⟩ = some (.int .u8 (x2 : Int)) := (hb2.out.cell (p := ⟨b, off + 2, none⟩) (Nat.lt_of_lt_of_le hbw hs1)).trans hk1))
  all_goals
    go_wp2
    go_ret3
    exact ⟨_, rfl, hid (hO.out.mono hs1), hid (HB1.out.trans (hb2.out.mono hs1))⟩

end Go.Proofs.Ytiablmnaincciaa
