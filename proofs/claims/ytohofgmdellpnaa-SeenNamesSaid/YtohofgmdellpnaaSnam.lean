/- SeenNames, walked. -/
import Derived.Test.YtohofgmdellpnaaSal
namespace Go.Proofs.Ytohofgmdellpnaa.Seen
open Go.RowKit Go.Shelf Go.Lib

def zr : List Int := List.replicate 4097 0
theorem zr_len : zr.length = 4097 := List.length_replicate
theorem make_zr (w : World) : (Instr.makeSlice 22 (.int .i64 4097) (.int .i64 4097)).run Try.prog w = .ok (.slice (some ⟨w.heap.size, 0, none⟩) 4097 4097) (w.alloc (.cells (cellsI zr).toArray 3)) := by
  obtain ⟨i0, hi0, hz0, hzs, hzb⟩ := info_parts infoI
  have h := run_makeSlice (P := Try.prog) w 22 3 i0 _ Try.underlying22 hi0 hz0 .i64 .i64 4097 4097 (by omega) (by omega) (by rw [hzs]; decide) (by rw [hzb]; omega) (by omega)
  rw [hzs] at h
  have hc : madeCells (Value.int .i64 0).cells (Int.toNat 4097 * 1) = (cellsI zr).toArray := by
    apply Array.ext'
    show (madeCells #[Value.int .i64 0] (4097 * 1)).toList = cellsI zr
    rw [toList_madeCells_one]
    unfold cellsI zr
    rw [List.map_replicate]
  rw [hc] at h
  exact h

set_option maxHeartbeats 1600000 in
set_option maxRecDepth 100000 in
theorem names_walk {w : World} : Calls Try.prog 3 #[] w fun e w' => e = .returned (.bool true) ∧ Below w.heap.size w w' := by
  obtain ⟨ZR, hZR⟩ : ∃ ZR, ZR = (cellsI zr).toArray := ⟨_, rfl⟩
  have hmk := make_zr
  rw [← hZR] at hmk
  have HG : ∀ X : World, Gs (X.alloc (.cells ZR 3)) (X.alloc (.cells ZR 3)).heap.size (some ⟨X.heap.size, 0, none⟩) 4097 4097 1 (cellsI zr) := fun X => by
    have := gi_new X zr 3 (by rw [zr_len]; omega)
    rw [zr_len, ← hZR] at this
    exact this
  have HZ := hid (fun X : World => check_any (HG X))
  rw [show schk zr = 4 by unfold schk; rw [zr_len, if_pos (by omega)]] at HZ
  clear hZR HG
  go_enter Try.func3, Try.ntmps3
  go_wp2_with fail
  refine (put_at (l := []) (Gs.nil' _ _ _) (Nat.le_refl _) 1048576 (q := 2) (r := []) (by decide) (by decide)).mono ?_
  rintro e w1 ⟨A1, n1, c1, rfl, h1⟩
  have B1 := hid h1.out.2.1
  clear h1
  go_wp2_with fail
  refine (put_at (l := []) (Gs.nil' _ _ _) (Nat.le_refl _) 1048575 (q := 0) (r := [1048575]) (by decide) (by decide)).mono ?_
  rintro e w2 ⟨A2, n2, c2, rfl, h2⟩
  obtain rfl : n2 = 1 := h2.out.2.2
  have B2 := hid (gbelow_on B1.out (Nat.le_refl _) h2.out.2.1)
  clear h2 B1
  go_wp2_with fail
  refine (has_any (l := [3, 3]) (gi_new w2 [3, 3] 3 (by decide)) (Nat.le_refl _) (-1)).mono ?_
  rw [show haA [3, 3] (-1) = false by decide, show fiE [3, 3] (-1) = 8 by decide]
  rintro e w3 ⟨rfl, h3⟩
  have B3 := hid (gbelow_on B2.out (Nat.le_refl _) (((Below.refl _ w2).alloc (Nat.le_refl w2.heap.size) (.cells #[.int .i64 3, .int .i64 3] 3)).trans (h3.out.mono (by simp))))
  clear h3 B2
  go_wp2_with fail
  refine (first_any (l := []) (Gs.nil' _ _ _) (Nat.le_refl _)).mono ?_
  rw [show fsA [] = 0 by decide, show schk [] = 0 by decide]
  rintro e w4 ⟨rfl, h4⟩
  have B4 := hid (gbelow_on B3.out (Nat.le_refl _) h4.out)
  clear h4 B3
  go_wp2_with fail
  refine (first_any (l := [0, 1, 2]) (gi_new w4 [0, 1, 2] 3 (by decide)) (Nat.le_refl _)).mono ?_
  rw [show fsA [0, 1, 2] = 3 by decide, show schk [0, 1, 2] = 0 by decide]
  rintro e w5 ⟨rfl, h5⟩
  have B5 := hid (gbelow_on B4.out (Nat.le_refl _) (((Below.refl _ w4).alloc (Nat.le_refl w4.heap.size) (.cells #[.int .i64 0, .int .i64 1, .int .i64 2] 3)).trans (h5.out.mono (by simp))))
  clear h5 B4
  go_wp2_with fail
  refine (alive_any w5).mono ?_
  rintro e w6 ⟨rfl, h6⟩
  have B6 := hid (gbelow_on B5.out (Nat.le_refl _) h6.out)
  clear h6 B5
  go_wp2_with fail
  refine (HZ.out w6).mono ?_
  rintro e w7 ⟨rfl, rfl⟩
  obtain ⟨hr1, hr2⟩ := heap_two w6 (.cells ZR 3) (.cells #[.int .i64 (-1)] 3)
  have b8 := hid (below_two w6 (.cells ZR 3) (.cells #[.int .i64 (-1)] 3))
  have G8 := hid (check_any (Gs.new (cs := cellsI [-1]) (n := 1) (c := 1) (k := 1) hr2 (lt_of_heap hr2) rfl (Nat.le_refl _) (by omega)))
  rw [show schk [-1] = 8 by decide] at G8
  have B8 := hid (gbelow_on B6.out (Nat.le_refl _) b8.out)
  clear hmk hr1 hr2
  go_wp2_with fail
  refine G8.out.mono ?_
  rintro e w8 ⟨rfl, rfl⟩
  go_wp2
  go_ret
  exact ⟨rfl, B8.out⟩
end Go.Proofs.Ytohofgmdellpnaa.Seen
