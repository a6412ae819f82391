/- What the laws of choose ask of the program; the laws' own helpers three and alive. -/
import Derived.Test.YtdemhghflanncaaHids
namespace Go.Proofs.Ytdemhghflanncaa
open Go.RowKit Go.Shelf Go.Lib

def OneOk : Prop := ∀ (w : World) (o p : Int) (B n c : Nat) (A : Option Addr) (l : List De) (x : Nat), Ds w B A n c l → B ≤ w.heap.size → x < 18446744073709551616 →
    Calls Try.prog 8 #[cav o p (.slice A n c), .int .u64 (x : Int)] w fun e w' => e = .returned (.tuple #[dv (onD o p l x), .int .i64 (onE o p l)]) ∧ Hid (Below w.heap.size w w')
def SomeOk : Prop := ∀ (w : World) (o p : Int) (B n c C m d : Nat) (A D : Option Addr) (l : List De) (r : List Nat), Ds w B A n c l → Us w C D m d r → B ≤ w.heap.size → C ≤ w.heap.size →
    Calls Try.prog 9 #[cav o p (.slice A n c), .slice D m d] w fun e w' => ∃ A' n' c', e = .returned (.tuple #[.slice A' n' c', .int .i64 (smE o p l r)]) ∧ Hid (Ds w' w'.heap.size A' n' c' (smL o p l r) ∧ Below w.heap.size w w')
def DrawsOk : Prop := ∀ (w : World) (o p : Int) (B n c C m d : Nat) (A D : Option Addr) (l r : List De), Ds w B A n c l → Ds w C D m d r → B ≤ w.heap.size → C ≤ w.heap.size →
    Calls Try.prog 11 #[cav o p (.slice A n c), .slice D m d] w fun e w' => ∃ A' n' c', e = .returned (.tuple #[.slice A' n' c', .int .i64 (dwE o p l r)]) ∧ Hid (Us w' w'.heap.size A' n' c' (dwL o p l r) ∧ Below w.heap.size w w')

/-- The chapter's cache. -/
def thr : List De := [(2, 9), (1, 8), (3, 8)]
theorem three_any (w : World) : Calls Try.prog 10 #[] w fun e w' => ∃ A, e = .returned (cav 0 3 (.slice A 3 3)) ∧ Hid (Ds w' w'.heap.size A 3 3 thr ∧ Below w.heap.size w w') := by
  obtain ⟨W, hW⟩ : ∃ W, W = (w.alloc (.cells #[.int .i64 0, .int .i64 3, .slice (some ⟨w.heap.size + 1, 0, none⟩) 3 3] 29)).alloc (.cells #[.int .i64 2, .int .i64 9, .int .i64 1, .int .i64 8, .int .i64 3, .int .i64 8] 23) := ⟨_, rfl⟩
  have B0 := hid (show Below w.heap.size w W from hW ▸ ((Below.refl _ w).alloc (Nat.le_refl _) _).alloc (by simp) _)
  have X0 := hid (show Cbox W w.heap.size 0 3 (.slice (some ⟨w.heap.size + 1, 0, none⟩) 3 3) from hW ▸ heap2_0 w _ _)
  have D0 := hid (show Ds W W.heap.size (some ⟨w.heap.size + 1, 0, none⟩) 3 3 thr from ds_row (l := thr) (hW ▸ heap2_1 w _ _) (by decide))
  have HW := hid hW
  clear hW
  go_enter Try.func10, Try.ntmps10
  go_wp2
  rw [← HW.out]
  refine ret_cache1 (g := w.heap.size) (o := 0) (q := 3) (v := .slice (some ⟨w.heap.size + 1, 0, none⟩) 3 3) rfl rfl rfl X0.out ?_
  exact ⟨_, rfl, hid ⟨D0.out, B0.out⟩⟩

def thr2 : List De := [(1, 8), (3, 8), (2, 9)]
theorem thr_onE : onE 0 3 thr = 0 := by decide
theorem thr_onD : onD 0 3 thr 4 = (1, 8) := by decide
theorem thr_smE : smE 0 3 thr [4, 1, 9] = 0 := by decide
theorem thr_smL : smL 0 3 thr [4, 1, 9] = thr2 := by decide
theorem thr_dwE : dwE 0 3 thr thr2 = 0 := by decide
theorem thr_dwL : dwL 0 3 thr thr2 = [1, 1, 0] := by decide
theorem thr_sof : strN (sof thr2) = ⟨#[49, 51, 50]⟩ := by rfl

set_option maxHeartbeats 6400000 in
set_option maxRecDepth 100000 in
theorem halive_walk (D1 : OneOk) (DS : SomeOk) (DD : DrawsOk) (w : World) : Calls Try.prog 12 #[] w fun e w' => e = .returned (.bool true) ∧ Hid (Below w.heap.size w w') := by
  have CT := hid three_any
  unfold cav at CT
  go_enter Try.func12, Try.ntmps12
  go_wp2_with fail
  refine (CT.out w).mono ?_
  rintro e w1 ⟨A1, rfl, h1⟩
  have C1 := hid (D1 w1 0 3 _ 3 3 A1 thr 4 h1.out.1 (Nat.le_refl _) (by decide))
  rw [thr_onE, thr_onD] at C1
  unfold cav dv at C1
  go_wp2_with fail
  refine C1.out.mono ?_
  rintro e w2 ⟨rfl, h2⟩
  have B2 := hid (h1.out.2.trans (h2.out.mono h1.out.2.size))
  clear C1 h1 h2
  go_upto_region 2 with fail
  obtain ⟨W2, hW2⟩ : ∃ W2, W2 = w2.alloc (.cells #[.int .i64 1, .int .i64 8] 23) := ⟨_, rfl⟩
  rw [← hW2]
  have X2 := hid (show Dbx W2 w2.heap.size (1, 8) from hW2 ▸ heap_alloc_new w2 _)
  have F2 := hid (show Below w.heap.size w W2 from hW2 ▸ B2.out.alloc B2.out.size _)
  clear hW2 B2
  go_wp2_with fail
  refine (CT.out W2).mono ?_
  rintro e w3 ⟨A3, rfl, h3⟩
  have X3 := hid (X2.out.below h3.out.2 X2.out.lt)
  have F3 := hid (F2.out.trans (h3.out.2.mono F2.out.size))
  have U3 := hid (show Us (w3.alloc (.cells #[.int .u64 4, .int .u64 1, .int .u64 9] 30)) (w3.alloc (.cells #[.int .u64 4, .int .u64 1, .int .u64 9] 30)).heap.size (some ⟨w3.heap.size, 0, none⟩) 3 3 [4, 1, 9] from us_row (l := [4, 1, 9]) (heap_alloc_new w3 _) (by decide) (by decide))
  have b3 := hid ((Below.refl _ w3).alloc (Nat.le_refl _) (.cells #[.int .u64 4, .int .u64 1, .int .u64 9] 30))
  have C2 := hid (DS _ 0 3 _ 3 3 _ 3 3 A3 _ thr [4, 1, 9] (h3.out.1.below b3.out) U3.out b3.out.size (Nat.le_refl _))
  rw [thr_smE, thr_smL] at C2
  unfold cav at C2
  go_wp2_with fail
  refine C2.out.mono ?_
  rintro e w4 ⟨A4, n4, c4, rfl, h4⟩
  have bb := hid (b3.out.trans (h4.out.2.mono b3.out.size))
  have X4 := hid (X3.out.below bb.out X3.out.lt)
  have F4 := hid (F3.out.trans (bb.out.mono F3.out.size))
  have D4 := hid h4.out.1
  clear C2 U3 b3 h3 h4 X2 X3 F2 F3 bb
  go_wp2_with fail
  refine (CT.out w4).mono ?_
  rintro e w5 ⟨A5, rfl, h5⟩
  have X5 := hid (X4.out.below h5.out.2 X4.out.lt)
  have F5 := hid (F4.out.trans (h5.out.2.mono F4.out.size))
  have D5 := hid ((D4.out.below h5.out.2).mono h5.out.2.size)
  have C3 := hid (DD w5 0 3 _ 3 3 _ n4 c4 A5 A4 thr thr2 h5.out.1 D5.out (Nat.le_refl _) (Nat.le_refl _))
  rw [thr_dwE, thr_dwL] at C3
  unfold cav at C3
  go_wp2_with fail
  refine C3.out.mono ?_
  rintro e w6 ⟨A6, n6, c6, rfl, h6⟩
  have X6 := hid (X5.out.below h6.out.2 X5.out.lt)
  have F6 := hid (F5.out.trans (h6.out.2.mono F5.out.size))
  have D6 := hid ((D5.out.below h6.out.2).mono h6.out.2.size)
  have U6 := hid h6.out.1
  clear C3 h5 h6 X4 X5 F4 F5 D4 D5 CT
  obtain rfl : n6 = 3 := U6.out.len.symm
  have hc6 := U6.out.cap
  have x0 := X6.out.c0
  change w6.cell? ⟨w2.heap.size, 0, none⟩ = some (.int .i64 1) at x0
  have CI := hid (ids_any D6.out (Nat.le_refl _) (by have := D6.out.len; simp [thr2] at this; omega) (by intro z hz; simp [thr2] at hz; rcases hz with rfl | rfl | rfl <;> decide))
  rw [thr_sof] at CI
  go_wp2_with fail
  refine CI.out.mono ?_
  rintro e w7 ⟨rfl, h7⟩
  have F7 := hid (F6.out.trans (h7.out.mono F6.out.size))
  obtain ⟨b, off, rfl, _, hc⟩ := (U6.out.below h7.out).at_ (by omega)
  have e0 := hc 0 1 rfl
  have e1 := hc 1 1 rfl
  have e2 := hc 2 0 rfl
  rw [Nat.add_zero] at e0
  clear hc U6 D6 X6 x0 CI
  go_wp2
  go_ret
  exact ⟨rfl, F7⟩
end Go.Proofs.Ytdemhghflanncaa
