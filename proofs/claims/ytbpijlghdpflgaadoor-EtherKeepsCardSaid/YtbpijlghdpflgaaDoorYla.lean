/- Ether: alive. -/
import Derived.Test.YtbpijlghdpflgaaDoorYlo
namespace Go.Proofs.YtbpijlghdpflgaaDoor.Eth
open Go.RowKit Go.Shelf Go.Lib

set_option maxHeartbeats 6400000 in
set_option maxRecDepth 100000 in
theorem alive_walk (PS : SendOk) (PT : TakeOk) (PD : DoubleOk) {T : World → Prop} (PP : SpoilOk T) (ST : Stays T) (w : World) (hT : T w) : Calls Tryd.prog 12 #[] w fun e w' => e = .returned (.bool true) ∧ Hid (Below w.heap.size w w') := by
  go_enter Tryd.func12, Tryd.ntmps12
  go_wp2_with fail
  refine (one_any 3 w).mono ?_
  rintro e w1 ⟨D1, d1, rfl, h1⟩
  have b1 := hid h1.out.2
  have L1 := hid (cls_one (x := 3) (y := 1) (s := false) h1.out.1 fit_one)
  have b1' := hid ((Below.refl w1.heap.size w1).alloc (Nat.le_refl _) (.cells #[.int .i64 3, .int .i64 1, .slice D1 2 d1, .bool false] 28))
  clear h1
  go_wp2_with fail
  refine (one_any 4 _).mono ?_
  rintro e w2 ⟨D2, d2, rfl, h2⟩
  have b2 := hid (gbelow_on b1.out (Nat.le_refl _) (gbelow_on b1'.out (Nat.le_refl _) h2.out.2))
  have L2 := hid (L1.out.on (Nat.le_refl _) h2.out.2)
  have CS := hid (PS _ _ _ _ _ _ _ _ _ _ 4 1 _ false L2.out (Nat.le_refl _) h2.out.1 fit_one (Nat.le_refl _))
  rw [show snE [((3, 1, [1, 2], false) : Cp)] (4, 1, [1, 2], false) = 0 by decide, show snL [((3, 1, [1, 2], false) : Cp)] (4, 1, [1, 2], false) = [(3, 1, [1, 2], false), (4, 1, [1, 2], false)] by decide] at CS
  clear h2 L1 L2 b1 b1'
  go_wp2_with fail
  refine CS.out.mono ?_
  rintro e w3 ⟨A3, n3, c3, rs3, rfl, h3⟩
  obtain rfl : n3 = 2 := h3.out.2.2
  have b3 := hid (gbelow_on b2.out (Nat.le_refl _) h3.out.2.1)
  have L3 := hid h3.out.1.cls
  have CD := hid (PD _ _ _ _ _ _ 0 L3.out (Nat.le_refl _))
  rw [show dbE [((3, 1, [1, 2], false) : Cp), (4, 1, [1, 2], false)] 0 = 0 by decide, show dbL [((3, 1, [1, 2], false) : Cp), (4, 1, [1, 2], false)] 0 = [(3, 1, [1, 2], false), (4, 1, [1, 2], false), (3, 1, [1, 2], false)] by decide] at CD
  clear h3 CS b2
  go_wp2_with fail
  refine CD.out.mono ?_
  rintro e w4 ⟨A4, n4, c4, rs4, rfl, h4⟩
  obtain rfl : n4 = 3 := h4.out.2.2
  have b4 := hid (gbelow_on b3.out (Nat.le_refl _) h4.out.2.1)
  have L4 := hid h4.out.1.cls
  have M4 := hid (L3.out.on (Nat.le_refl _) h4.out.2.1)
  have CT := hid (PT _ _ _ _ _ _ 0 L4.out (Nat.le_refl _))
  rw [show tkE [((3, 1, [1, 2], false) : Cp), (4, 1, [1, 2], false), (3, 1, [1, 2], false)] 0 = 0 by decide, show tkL [((3, 1, [1, 2], false) : Cp), (4, 1, [1, 2], false), (3, 1, [1, 2], false)] 0 = [(4, 1, [1, 2], false), (3, 1, [1, 2], false)] by decide, show tkC [((3, 1, [1, 2], false) : Cp), (4, 1, [1, 2], false), (3, 1, [1, 2], false)] 0 = (3, 1, [1, 2], false) by decide] at CT
  clear h4 CD b3 L3
  go_wp2_with fail
  refine CT.out.mono ?_
  rintro e w5 ⟨A5, n5, c5, rs5, x5, y5, D5, m5, d5, s5, S5, rfl, h5⟩
  obtain ⟨q1, q2, q3, q4, q5, rfl⟩ := h5.out
  obtain rfl : x5 = 3 := q4.num
  have b5 := hid (gbelow_on b4.out (Nat.le_refl _) q5)
  have N5 := hid (q1.cls)
  have L5 := hid (L4.out.on (Nat.le_refl _) q5)
  have M5 := hid (M4.out.on (Nat.le_refl _) q5)
  clear h5 CT b4 L4 M4 q1 q2 q3 q4 q5
  have bx := hid ((Below.refl w5.heap.size w5).alloc (Nat.le_refl _) (.cells #[.int .i64 3, .int .i64 y5, .slice D5 m5 d5, .bool s5] 28))
  have X5 := hid (Cbx.new w5 3 y5 D5 m5 d5 s5)
  have CP := hid (PP _ _ _ _ _ _ 0 6 6 (M5.out.on (Nat.le_refl _) bx.out) (Nat.le_refl _) (by decide) (ST _ _ hT (gbelow_on b5.out (Nat.le_refl _) bx.out)))
  rw [show spE [((3, 1, [1, 2], false) : Cp), (4, 1, [1, 2], false)] 0 6 6 = 0 by decide, show spL [((3, 1, [1, 2], false) : Cp), (4, 1, [1, 2], false)] 0 6 6 = [(3, 1, [129, 3], true), (4, 1, [1, 2], false)] by decide] at CP
  go_wp2_with fail
  refine CP.out.mono ?_
  rintro e w6 ⟨A6, n6, c6, rs6, rfl, h6⟩
  obtain rfl : n6 = 2 := h6.out.2.2
  have bb := hid (gbelow_on bx.out (Nat.le_refl _) h6.out.2.1)
  have b6 := hid (gbelow_on b5.out (Nat.le_refl _) bb.out)
  have X6 := hid (X5.out.below h6.out.2.1 X5.out.lt)
  have S6 := hid h6.out.1.cls
  have L6 := hid (L5.out.on (Nat.le_refl _) bb.out)
  have N6 := hid (N5.out.on (Nat.le_refl _) bb.out)
  clear h6 CP X5 bb bx b5 L5 N5 M5
  have CN := hid (numbers_any (r := [3, 4, 3]) (L6.out.on (Nat.le_refl _) ((Below.refl w6.heap.size w6).alloc (Nat.le_refl _) (.cells #[.int .i64 3, .int .i64 4, .int .i64 3] 3))) (Gs.new (cs := cellsI [3, 4, 3]) (k := 1) (n := 3) (c := 3) (B := (w6.alloc (.cells #[.int .i64 3, .int .i64 4, .int .i64 3] 3)).heap.size) (heap_alloc_new w6 (.cells #[.int .i64 3, .int .i64 4, .int .i64 3] 3)) (by simp) rfl (Nat.le_refl _) (by omega)) (Nat.le_refl _) (Nat.le_refl _) rfl)
  have bn := hid ((Below.refl w6.heap.size w6).alloc (Nat.le_refl _) (.cells #[.int .i64 3, .int .i64 4, .int .i64 3] 3))
  go_wp2_with fail
  refine CN.out.mono ?_
  rintro e w7 ⟨rfl, h7⟩
  have bb := hid (gbelow_on bn.out (Nat.le_refl _) h7.out)
  have b7 := hid (gbelow_on b6.out (Nat.le_refl _) bb.out)
  have X7 := hid (X6.out.below bb.out X6.out.lt)
  have S7 := hid (S6.out.on (Nat.le_refl _) bb.out)
  have N7 := hid (N6.out.on (Nat.le_refl _) bb.out)
  clear CN bn h7 bb b6 X6 S6 N6 L6
  have CN := hid (numbers_any (r := [4, 3]) (N7.out.on (Nat.le_refl _) ((Below.refl w7.heap.size w7).alloc (Nat.le_refl _) (.cells #[.int .i64 4, .int .i64 3] 3))) (Gs.new (cs := cellsI [4, 3]) (k := 1) (n := 2) (c := 2) (B := (w7.alloc (.cells #[.int .i64 4, .int .i64 3] 3)).heap.size) (heap_alloc_new w7 (.cells #[.int .i64 4, .int .i64 3] 3)) (by simp) rfl (Nat.le_refl _) (by omega)) (Nat.le_refl _) (Nat.le_refl _) rfl)
  have bn := hid ((Below.refl w7.heap.size w7).alloc (Nat.le_refl _) (.cells #[.int .i64 4, .int .i64 3] 3))
  go_wp2_with fail
  refine CN.out.mono ?_
  rintro e w8 ⟨rfl, h8⟩
  have bb := hid (gbelow_on bn.out (Nat.le_refl _) h8.out)
  have b8 := hid (gbelow_on b7.out (Nat.le_refl _) bb.out)
  have X8 := hid (X7.out.below bb.out X7.out.lt)
  have S8 := hid (S7.out.on (Nat.le_refl _) bb.out)
  clear CN bn h8 bb b7 X7 S7 N7
  have k0 := X8.out.c0
  obtain ⟨b, off, x, y, A', n', c', t, s, rfl, hb, hp, c0, c1, c2, c3, ht, hf⟩ := S8.out.get (k := 0) (by omega)
  obtain ⟨b9, off9, x9, y9, A9, n9, c9, t9, s9, e9, hb9, hp9, d0, d1, d2, d3, ht9, hf9⟩ := S8.out.get (k := 1) (by omega)
  obtain ⟨rfl, rfl⟩ : b = b9 ∧ off = off9 := by injection e9 with e9; injection e9 with e1 e2; exact ⟨e1, e2⟩
  have hs1 : s = true := by simp at hp; exact hp.2.2.2
  have ht1 : t = [129, 3] := by simp at hp; exact hp.2.2.1.symm
  have hs9 : s9 = false := by simp at hp9; exact hp9.2.2.2
  subst hs1 ht1 hs9
  have hcv := convB ht
  have hst : strB [129, 3] = ⟨#[129, 3]⟩ := rfl
  rw [hst] at hcv
  rw [Nat.zero_mul, Nat.add_zero] at c0 c1 c2 c3
  rw [Nat.one_mul] at d0 d1 d2 d3
  clear hp hp9 hf hf9 ht ht9 e9 hst c0 c1 d0 d1 d2
  go_wp2
  go_ret
  exact ⟨rfl, b8⟩
end Go.Proofs.YtbpijlghdpflgaaDoor.Eth
