/- ChooseNames, walked over the program's One, Some and Draws. -/
import Derived.Test.YtdemhghflanncaaHbeg
namespace Go.Proofs.Ytdemhghflanncaa
open Go.RowKit Go.Shelf Go.Lib

def z65 : List Nat := List.replicate 65 0
def z64 : List Nat := List.replicate 64 0
theorem us_on' {X Y : World} {A : Option Addr} {n c : Nat} {l : List Nat} (h : Us X X.heap.size A n c l) (b : Below X.heap.size X Y) : Us Y Y.heap.size A n c l := (h.below b).mono b.size
theorem make_u65 (w : World) : (Instr.makeSlice 34 (.int .i64 65) (.int .i64 65)).run Try.prog w = .ok (.slice (some ⟨w.heap.size, 0, none⟩) 65 65) (w.alloc (.cells (cellsU z65).toArray 30)) := by
  obtain ⟨i0, hi0, hz0, hzs, hzb⟩ := info_parts infoU
  have h := run_makeSlice (P := Try.prog) w 34 30 i0 _ Try.underlying34 hi0 hz0 .i64 .i64 65 65 (by omega) (by omega) (by rw [hzs]; decide) (by rw [hzb]; omega) (by omega)
  rw [hzs] at h
  have hc : madeCells (Value.int .u64 0).cells (Int.toNat 65 * 1) = (cellsU z65).toArray := by kernel_rfl
  rw [hc] at h
  exact h
theorem make_u64 (w : World) : (Instr.makeSlice 34 (.int .i64 64) (.int .i64 64)).run Try.prog w = .ok (.slice (some ⟨w.heap.size, 0, none⟩) 64 64) (w.alloc (.cells (cellsU z64).toArray 30)) := by
  obtain ⟨i0, hi0, hz0, hzs, hzb⟩ := info_parts infoU
  have h := run_makeSlice (P := Try.prog) w 34 30 i0 _ Try.underlying34 hi0 hz0 .i64 .i64 64 64 (by omega) (by omega) (by rw [hzs]; decide) (by rw [hzb]; omega) (by omega)
  rw [hzs] at h
  have hc : madeCells (Value.int .u64 0).cells (Int.toNat 64 * 1) = (cellsU z64).toArray := by kernel_rfl
  rw [hc] at h
  exact h
theorem hn_e1 : onE 0 1 [] = 6 := by decide
theorem hn_d1 : onD 0 1 [] 5 = (0, 0) := by decide
theorem hn_s65 : smE 0 3 thr z65 = 4 := by decide
theorem hn_l65 : smL 0 3 thr z65 = [] := by decide
theorem hn_s64 : smE 0 3 thr z64 = 0 := by decide
theorem hn_l64 : smL 0 3 thr z64 = thr := by decide
theorem hn_dw : dwE 0 3 thr [(1, 8), (1, 8)] = 6 := by decide
theorem hn_e5 : onE 0 0 [] = 8 := by decide
theorem hn_d5 : onD 0 0 [] 0 = (0, 0) := by decide
theorem hn_e6 : onE 0 3 thr = 0 := by decide
theorem hn_d6 : onD 0 3 thr 18446744073709551615 = (2, 9) := by decide
theorem hn_s7 : smE 0 1 [] [7] = 0 := by decide
theorem hn_l7 : smL 0 1 [] [7] = [] := by decide
theorem hn_sof : strN (sof thr) = ⟨#[50, 49, 51]⟩ := by rfl

set_option maxHeartbeats 12800000 in
set_option maxRecDepth 100000 in
theorem hnames_walk (CA : HAliveOk) (D1 : OneOk) (DS : SomeOk) (DD : DrawsOk) {w : World} : Calls Try.prog 3 #[] w fun e w' => e = .returned (.bool true) ∧ Below w.heap.size w w' := by
  have mixed : Try.prog.follows .mixedOrders = true := by kernel_rfl
  have CT := hid three_any
  have C1 := hid (D1 w 0 1 0 0 0 none [] 5 (Ds.nil' w 0) (Nat.zero_le _) (by decide))
  rw [hn_e1, hn_d1] at C1
  unfold cav at CT C1
  unfold dv at C1
  go_enter Try.func3, Try.ntmps3
  go_wp2_with fail
  refine C1.out.mono ?_
  rintro e w1 ⟨rfl, h1⟩
  go_upto_region 2 with fail
  obtain ⟨W1, hW1⟩ : ∃ W1, W1 = w1.alloc (.cells #[.int .i64 0, .int .i64 0] 23) := ⟨_, rfl⟩
  rw [← hW1]
  have B1 := hid (show Below w.heap.size w W1 from hW1 ▸ bh_alloc h1.out)
  clear hW1 h1 C1
  obtain ⟨ZR, hZR⟩ : ∃ ZR, ZR = (cellsU z65).toArray := ⟨_, rfl⟩
  have hmk := make_u65
  rw [← hZR] at hmk
  have UA0 : Hid (Us ((W1.alloc (.cells ZR 30)).drew) ((W1.alloc (.cells ZR 30)).drew).heap.size (some ⟨W1.heap.size, 0, none⟩) 65 65 z65) := hid (us_row (l := z65) (show ((W1.alloc (.cells ZR 30)).drew).heap[W1.heap.size]? = _ from hZR ▸ heap_alloc_new W1 _) (by decide) (by decide))
  have UB0 := hid (fun X : World => show Us (X.alloc (.cells ZR 30)) (X.alloc (.cells ZR 30)).heap.size (some ⟨X.heap.size, 0, none⟩) 65 65 z65 from us_row (l := z65) (hZR ▸ heap_alloc_new X _) (by decide) (by decide))
  have CS := hid (fun (X : World) (A3 D3 : Option Addr) (hD : Ds X X.heap.size A3 3 3 thr) (hU : Us X X.heap.size D3 65 65 z65) => DS X 0 3 _ 3 3 _ 65 65 A3 D3 thr z65 hD hU (Nat.le_refl _) (Nat.le_refl _))
  rw [hn_s65, hn_l65] at CS
  unfold cav at CS
  clear hZR
  have HBy := hid (Below.refl W1.heap.size W1)
  go_upto_region 2 with fail
  go_cut [3, 4] from 20 to 25 (fun _ s4 wx => s4 = .int .i64 4 ∧ Hid (Below W1.heap.size W1 wx))
  case first =>
    go_region_held3 (fun _ => True)
      (exact trivial)
      (first
      | (go_at_call 10
         with_reducible refine (CT.out _).mono ?_
         rintro e' w3 ⟨A3, rfl, h3⟩
         have D3 := hid h3.out.1
         have HBy := hid (bh_then (by (repeat (first | with_reducible exact HBy.out | with_reducible apply bh_drew | with_reducible apply bh_alloc))) h3.out.2)
         try (have UA := hid (us_on' UA0.out h3.out.2))
         clear h3)
      | (go_at_call 9
         with_reducible refine (CS.out _ _ _ (by first | with_reducible exact D3.out | exact ds_on D3.out (bh_alloc (Below.refl _ _))) (by first | with_reducible exact UA.out | with_reducible exact UB0.out _)).mono ?_
         rintro e' w4 ⟨A4, n4, c4, rfl, h4⟩
         have HBy := hid (bh_then (by (repeat (first | with_reducible exact HBy.out | with_reducible apply bh_drew | with_reducible apply bh_alloc))) h4.out.2)))
    all_goals go_wp2
    all_goals go_meet
    all_goals exact ⟨rfl, HBy⟩
  case rest =>
    obtain ⟨rfl, HR⟩ := hcut
    have B2 := hid (B1.out.trans (HR.out.mono B1.out.size))
    clear HR B1 UA0 UB0 CS HBy hmk
    generalize hWW : wc = W2 at B2 ⊢
    clear hWW
    obtain ⟨ZR, hZR⟩ : ∃ ZR, ZR = (cellsU z64).toArray := ⟨_, rfl⟩
    have hmk := make_u64
    rw [← hZR] at hmk
    have UA0 : Hid (Us ((W2.alloc (.cells ZR 30)).drew) ((W2.alloc (.cells ZR 30)).drew).heap.size (some ⟨W2.heap.size, 0, none⟩) 64 64 z64) := hid (us_row (l := z64) (show ((W2.alloc (.cells ZR 30)).drew).heap[W2.heap.size]? = _ from hZR ▸ heap_alloc_new W2 _) (by decide) (by decide))
    have UB0 := hid (fun X : World => show Us (X.alloc (.cells ZR 30)) (X.alloc (.cells ZR 30)).heap.size (some ⟨X.heap.size, 0, none⟩) 64 64 z64 from us_row (l := z64) (hZR ▸ heap_alloc_new X _) (by decide) (by decide))
    have CS := hid (fun (X : World) (A3 D3 : Option Addr) (hD : Ds X X.heap.size A3 3 3 thr) (hU : Us X X.heap.size D3 64 64 z64) => DS X 0 3 _ 3 3 _ 64 64 A3 D3 thr z64 hD hU (Nat.le_refl _) (Nat.le_refl _))
    rw [hn_s64, hn_l64] at CS
    unfold cav at CS
    clear hZR
    have HBy := hid (Below.refl W2.heap.size W2)
    go_upto_region 3 with fail
    go_cut [5, 6] from 26 to 31 (fun s5 s6 wx => ∃ (A5 : Option Addr) (n5 c5 : Nat), s5 = .slice A5 n5 c5 ∧ s6 = .int .i64 0 ∧ Hid (Ds wx wx.heap.size A5 n5 c5 thr ∧ Below W2.heap.size W2 wx))
    case first =>
      go_region_held3 (fun _ => True)
        (exact trivial)
        (first
        | (go_at_call 10
           with_reducible refine (CT.out _).mono ?_
           rintro e' w3 ⟨A3, rfl, h3⟩
           have D3 := hid h3.out.1
           have HBy := hid (bh_then (by (repeat (first | with_reducible exact HBy.out | with_reducible apply bh_drew | with_reducible apply bh_alloc))) h3.out.2)
           try (have UA := hid (us_on' UA0.out h3.out.2))
           clear h3)
        | (go_at_call 9
           with_reducible refine (CS.out _ _ _ (by first | with_reducible exact D3.out | exact ds_on D3.out (bh_alloc (Below.refl _ _))) (by first | with_reducible exact UA.out | with_reducible exact UB0.out _)).mono ?_
           rintro e' w4 ⟨A4, n4, c4, rfl, h4⟩
           have HBy := hid (bh_then (by (repeat (first | with_reducible exact HBy.out | with_reducible apply bh_drew | with_reducible apply bh_alloc))) h4.out.2)))
      all_goals go_wp2
      all_goals go_meet
      all_goals exact ⟨A4, n4, c4, rfl, rfl, hid ⟨h4.out.1, HBy.out⟩⟩
    case rest =>
      obtain ⟨A5, n5, c5, rfl, rfl, HR⟩ := hcut
      obtain rfl : n5 = 3 := HR.out.1.len.symm
      have B3 := hid (B2.out.trans (HR.out.2.mono B2.out.size))
      have D5 := hid HR.out.1
      clear HR B2 UA0 UB0 CS HBy hmk
      generalize hWW : wc = W3 at B3 D5 ⊢
      clear hWW
      go_wp2_with fail
      refine (CT.out W3).mono ?_
      rintro e w4 ⟨A4, rfl, h4⟩
      have b4 := hid (h4.out.2.alloc h4.out.2.size (.cells #[.int .i64 1, .int .i64 8, .int .i64 1, .int .i64 8] 23))
      have D4 := hid (ds_on h4.out.1 (bh_alloc (o := .cells #[.int .i64 1, .int .i64 8, .int .i64 1, .int .i64 8] 23) (Below.refl _ w4)))
      have M4 := hid (show Ds (w4.alloc (.cells #[.int .i64 1, .int .i64 8, .int .i64 1, .int .i64 8] 23)) (w4.alloc (.cells #[.int .i64 1, .int .i64 8, .int .i64 1, .int .i64 8] 23)).heap.size (some ⟨w4.heap.size, 0, none⟩) 2 2 [(1, 8), (1, 8)] from ds_row (l := [(1, 8), (1, 8)]) (heap_alloc_new w4 _) (by decide))
      have CD := hid (DD _ 0 3 _ 3 3 _ 2 2 A4 _ thr [(1, 8), (1, 8)] D4.out M4.out (Nat.le_refl _) (Nat.le_refl _))
      rw [hn_dw] at CD
      unfold cav at CD
      go_wp2_with fail
      refine CD.out.mono ?_
      rintro e w5 ⟨A7, n7, c7, rfl, h5⟩
      have bb := hid (b4.out.trans (h5.out.2.mono b4.out.size))
      have B5 := hid (B3.out.trans (bb.out.mono B3.out.size))
      have D6 := hid (ds_on D5.out bb.out)
      have C5 := hid (D1 w5 0 0 0 0 0 none [] 0 (Ds.nil' w5 0) (Nat.zero_le _) (by decide))
      rw [hn_e5, hn_d5] at C5
      unfold cav dv at C5
      clear CD M4 D4 b4 h4 h5 B3 D5 bb
      go_wp2_with fail
      refine C5.out.mono ?_
      rintro e w6 ⟨rfl, h6⟩
      go_upto_region 6 with fail
      obtain ⟨W6, hW6⟩ : ∃ W6, W6 = w6.alloc (.cells #[.int .i64 0, .int .i64 0] 23) := ⟨_, rfl⟩
      rw [← hW6]
      have b6 := hid (show Below w5.heap.size w5 W6 from hW6 ▸ bh_alloc h6.out)
      have B6 := hid (B5.out.trans (b6.out.mono B5.out.size))
      have D7 := hid (ds_on D6.out b6.out)
      clear hW6 h6 C5 b6 B5 D6
      go_wp2_with fail
      refine (CT.out W6).mono ?_
      rintro e w7 ⟨A8, rfl, h7⟩
      have C6 := hid (D1 w7 0 3 _ 3 3 A8 thr 18446744073709551615 h7.out.1 (Nat.le_refl _) (by decide))
      rw [hn_e6, hn_d6] at C6
      unfold cav dv at C6
      go_wp2_with fail
      refine C6.out.mono ?_
      rintro e w8 ⟨rfl, h8⟩
      go_upto_region 7 with fail
      obtain ⟨W8, hW8⟩ : ∃ W8, W8 = w8.alloc (.cells #[.int .i64 2, .int .i64 9] 23) := ⟨_, rfl⟩
      rw [← hW8]
      have Z8 := hid (show Dbx W8 w8.heap.size (2, 9) from hW8 ▸ heap_alloc_new w8 _)
      have b8 := hid (show Below W6.heap.size W6 W8 from hW8 ▸ bh_alloc (bh_then h7.out.2 h8.out))
      have B8 := hid (B6.out.trans (b8.out.mono B6.out.size))
      have D8 := hid (ds_on D7.out b8.out)
      clear hW8 h7 h8 C6 b8 B6 D7
      have U9 := hid (show Us (W8.alloc (.cells #[.int .u64 7] 30)) (W8.alloc (.cells #[.int .u64 7] 30)).heap.size (some ⟨W8.heap.size, 0, none⟩) 1 1 [7] from us_row (l := [7]) (heap_alloc_new W8 _) (by decide) (by decide))
      have C9 := hid (DS _ 0 1 0 0 0 _ 1 1 none _ [] [7] (Ds.nil' _ 0) U9.out (Nat.zero_le _) (Nat.le_refl _))
      rw [hn_s7, hn_l7] at C9
      unfold cav at C9
      go_wp2_with fail
      refine C9.out.mono ?_
      rintro e w9 ⟨A9, n9, c9, rfl, h9⟩
      obtain rfl : n9 = 0 := h9.out.1.len.symm
      have b9 := hid ((bh_alloc (o := .cells #[.int .u64 7] 30) (Below.refl _ W8)).trans (h9.out.2.mono (by simp)))
      have Z9 := hid (Z8.out.below b9.out Z8.out.lt)
      have B9 := hid (B8.out.trans (b9.out.mono B8.out.size))
      have D9 := hid (ds_on D8.out b9.out)
      clear C9 U9 h9 b9 Z8 B8 D8
      go_wp2_with fail
      refine (CA w9).mono ?_
      rintro e w10 ⟨rfl, h10⟩
      have Z10 := hid (Z9.out.below h10.out Z9.out.lt)
      have B10 := hid (B9.out.trans (h10.out.mono B9.out.size))
      have CI := hid (ids_any (ds_on D9.out h10.out) (Nat.le_refl _) (by omega) (by intro z hz; simp [thr] at hz; rcases hz with rfl | rfl | rfl <;> decide))
      rw [hn_sof] at CI
      clear Z9 B9 D9 h10
      go_wp2_with fail
      refine CI.out.mono ?_
      rintro e w11 ⟨rfl, h11⟩
      have Z11 := hid (Z10.out.below h11.out Z10.out.lt)
      have z0 := Z11.out.c0
      change w11.cell? ⟨w8.heap.size, 0, none⟩ = some (.int .i64 2) at z0
      have B11 := hid (B10.out.trans (h11.out.mono B10.out.size))
      go_wp2
      go_ret
      exact ⟨rfl, B11.out⟩
end Go.Proofs.Ytdemhghflanncaa
