/- DescNames, walked. -/
import Derived.Test.YtelalanhalbicaaKali
namespace Go.Proofs.Ytelalanhalbicaa
open Go.RowKit Go.Shelf Go.Lib

theorem made (n : Nat) : madeCells (Value.agg #[.int .i64 0, .int .i64 0]).cells (n * 2) = (cellsD (List.replicate n (0, 0))).toArray := by
  apply Array.ext'
  apply List.ext_getElem?
  intro j
  show (madeCells #[.int .i64 0, .int .i64 0] (n * 2)).toList[j]? = (cellsD (List.replicate n (0, 0)))[j]?
  rcases Nat.lt_or_ge j (n * 2) with h | h
  · have h1 : (madeCells #[.int .i64 0, .int .i64 0] (n * 2)).toList[j]? = some (.int .i64 0) := by
      rw [Array.getElem?_toList]
      unfold madeCells
      rw [Array.getElem?_map, Array.getElem?_range, if_pos h]
      rcases Nat.mod_two_eq_zero_or_one j with h0 | h0
      · simp [h0]
      · simp [h0]
    rw [h1]
    have hr : (List.replicate n ((0, 0) : De))[j / 2]? = some (0, 0) := by
      rw [List.getElem?_replicate, if_pos (by omega)]
    obtain ⟨g1, g2⟩ := cellsD_get hr
    rcases Nat.mod_two_eq_zero_or_one j with h0 | h0
    · rw [show j / 2 * 2 = j by omega] at g1
      exact g1.symm
    · rw [show j / 2 * 2 + 1 = j by omega] at g2
      exact g2.symm
  · rw [List.getElem?_eq_none (by rw [Array.length_toList, size_madeCells]; exact h), List.getElem?_eq_none (by rw [cellsD_length, List.length_replicate]; exact h)]
theorem make_de (n : Nat) (hn : n ≤ 1000) (w : World) :
    (Instr.makeSlice 27 (.int .i64 (n : Int)) (.int .i64 (n : Int))).run Try.prog w = .ok (.slice (some ⟨w.heap.size, 0, none⟩) n n) (w.alloc (.cells (cellsD (List.replicate n (0, 0))).toArray 26)) := by
  obtain ⟨i0, hi0, hz0, hzs, hzb⟩ := info_parts infoD
  have h := run_make (P := Try.prog) w 27 26 i0 _ Try.underlying27 hi0 hz0 .i64 .i64 (n : Int) (n : Int) (by omega) (Int.le_refl _) (by rw [hzb]; omega) (by omega)
  rw [Int.toNat_natCast, hzs, made n] at h
  exact h

set_option maxRecDepth 100000 in
set_option maxHeartbeats 6400000 in
theorem names_walk (w : World) : Calls Try.prog 3 #[] w fun e w' => e = .returned (.bool true) ∧ Below w.heap.size w w' := by
  have C1 := hid (fun X => dFresher_any (7, 1) (0, 0) X)
  have C2 := hid (fun X => dFresher_any (1, 0) (1, 0) X)
  have C3 := hid (fun X => dFresher_any (8, 0) (0, 0) X)
  rw [show frB (7, 1) (0, 0) = true by decide, show frE (7, 1) (0, 0) = 0 by decide] at C1
  rw [show frB (1, 0) (1, 0) = false by decide, show frE (1, 0) (1, 0) = 0 by decide] at C2
  rw [show frB (8, 0) (0, 0) = false by decide, show frE (8, 0) (0, 0) = 8 by decide] at C3
  have C4 := hid (fun X : World => order_any (w := X.alloc (.cells #[.int .i64 0, .int .i64 (-1)] 26)) (ds_row (l := [(0, -1)]) (heap_alloc_new X _) (by decide)) (Nat.le_refl _))
  rw [show orr [(0, -1)] = [] by decide, show chk [(0, -1)] = 8 by decide] at C4
  have CA := hid alive_any
  obtain ⟨Z5, hZ5⟩ : ∃ Z, Z = (cellsD (List.replicate 65 (0, 0))).toArray := ⟨_, rfl⟩
  obtain ⟨Z4, hZ4⟩ : ∃ Z, Z = (cellsD (List.replicate 64 (0, 0))).toArray := ⟨_, rfl⟩
  have hk5 : ∀ X : World, (Instr.makeSlice 27 (.int .i64 65) (.int .i64 65)).run Try.prog X = .ok (.slice (some ⟨X.heap.size, 0, none⟩) 65 65) (X.alloc (.cells Z5 26)) := fun X => by rw [hZ5]; exact make_de 65 (by omega) X
  have hk4 : ∀ X : World, (Instr.makeSlice 27 (.int .i64 64) (.int .i64 64)).run Try.prog X = .ok (.slice (some ⟨X.heap.size, 0, none⟩) 64 64) (X.alloc (.cells Z4 26)) := fun X => by rw [hZ4]; exact make_de 64 (by omega) X
  have C5 := hid (fun X : World => best_any (w := X.alloc (.cells Z5 26)) (by rw [hZ5]; exact ds_row (l := List.replicate 65 (0, 0)) (heap_alloc_new X _) (by decide)) (Nat.le_refl _))
  have C6 := hid (fun X : World => best_any (w := X.alloc (.cells Z4 26)) (by rw [hZ4]; exact ds_row (l := List.replicate 64 (0, 0)) (heap_alloc_new X _) (by decide)) (Nat.le_refl _))
  rw [show bst (List.replicate 65 (0, 0)) = [] by decide +kernel, show chk (List.replicate 65 (0, 0)) = 4 by decide +kernel] at C5
  rw [show bst (List.replicate 64 (0, 0)) = [(0, 0)] by decide +kernel, show chk (List.replicate 64 (0, 0)) = 0 by decide +kernel] at C6
  rw [show (List.replicate 65 ((0, 0) : De)).length = 65 from List.length_replicate] at C5
  rw [show (List.replicate 64 ((0, 0) : De)).length = 64 from List.length_replicate] at C6
  clear hZ5 hZ4
  have CK := hid (fun X => check_any (Ds.nil' X 0) (Nat.zero_le _))
  rw [show chk [] = 0 by decide] at CK
  go_enter Try.func3, Try.ntmps3
  go_wp2_with fail
  refine (C1.out _).mono ?_
  rintro e w1 ⟨rfl, hb1⟩
  go_wp2_with fail
  refine (C2.out _).mono ?_
  rintro e w2 ⟨rfl, hb2⟩
  go_wp2_with fail
  refine (C3.out _).mono ?_
  rintro e w3 ⟨rfl, hb3⟩
  have B3 := hid ((hb1.out.trans (hb2.out.mono hb1.out.size)).trans (hb3.out.mono (Nat.le_trans hb1.out.size hb2.out.size)))
  clear hb1 hb2 hb3
  go_wp2_with fail
  refine (C4.out _).mono ?_
  rintro e w4 ⟨v4, rfl, h4⟩
  have B4 := hid ((B3.out.alloc B3.out.size (.cells #[.int .i64 0, .int .i64 (-1)] 26)).trans (h4.out.2.mono (by simp; exact Nat.le_succ_of_le B3.out.size)))
  clear h4 B3
  go_wp2_with fail
  refine (C5.out _).mono ?_
  rintro e w5 ⟨v5, rfl, h5⟩
  have B5 := hid ((B4.out.alloc B4.out.size (.cells Z5 26)).trans (h5.out.2.mono (by simp; exact Nat.le_succ_of_le B4.out.size)))
  clear h5 B4
  go_wp2_with fail
  refine (C6.out _).mono ?_
  rintro e w6 ⟨v6, rfl, h6⟩
  obtain ⟨A6, c6, rfl, _, _, _⟩ := h6.out.1.form
  have B6 := hid ((B5.out.alloc B5.out.size (.cells Z4 26)).trans (h6.out.2.mono (by simp; exact Nat.le_succ_of_le B5.out.size)))
  clear h6 B5
  go_wp2_with fail
  refine (CA.out _).mono ?_
  rintro e w7 ⟨rfl, hb7⟩
  go_wp2_with fail
  refine (CK.out _).mono ?_
  rintro e w8 ⟨rfl, hb8⟩
  have B8 := hid ((B6.out.trans (hb7.out.mono B6.out.size)).trans (hb8.out.mono (Nat.le_trans B6.out.size hb7.out.size)))
  have CS := hid (dsame_any (w := w8.alloc (.cells #[] 26)) (Ds.nil' _ 0) (ds_row (l := []) (heap_alloc_new w8 _) (by decide)) (Nat.zero_le _) (Nat.le_refl _))
  go_wp2_with fail
  refine CS.out.mono ?_
  rintro e w9 ⟨rfl, hb9⟩
  go_wp2
  go_ret
  exact ⟨rfl, (B8.out.alloc B8.out.size (.cells #[] 26)).trans (hb9.out.mono (by simp; exact Nat.le_succ_of_le B8.out.size))⟩
end Go.Proofs.Ytelalanhalbicaa
