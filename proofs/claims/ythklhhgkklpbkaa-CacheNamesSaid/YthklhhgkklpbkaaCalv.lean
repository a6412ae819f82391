/- The law's alive. -/
import Derived.Test.YthklhhgkklpbkaaCofr
namespace Go.Proofs.Ythklhhgkklpbkaa
open Go.RowKit Go.Shelf Go.Lib

def al1 : List De := [(1, 5), (2, 3), (0, 9), (3, 4)]
def al2 : List De := [(1, 5), (3, 4)]
def al3 : List De := [(2, 9), (1, 5)]
def al4 : List De := [(2, 9), (0, 7), (1, 5)]
theorem al_e1 : mgE 0 2 [] al1 = 0 := by decide
theorem al_o1 : mgO 0 2 [] al1 = 0 := by decide
theorem al_p1 : mgP 0 2 [] al1 = 2 := by decide
theorem al_l1 : mgL 0 2 [] al1 = al2 := by decide
theorem al_e2 : mgE 0 2 al2 [(2, 9)] = 0 := by decide
theorem al_o2 : mgO 0 2 al2 [(2, 9)] = 0 := by decide
theorem al_p2 : mgP 0 2 al2 [(2, 9)] = 2 := by decide
theorem al_l2 : mgL 0 2 al2 [(2, 9)] = al3 := by decide
theorem al_e3 : ofE 0 2 7 al3 = 0 := by decide
theorem al_l3 : ofL 0 2 7 al3 = al4 := by decide

set_option maxHeartbeats 6400000 in
set_option maxRecDepth 100000 in
theorem calive_any (w : World) : Calls Try.prog 12 #[] w fun e w' => e = .returned (.bool true) ∧ Hid (Below w.heap.size w w') := by
  have C0 := hid (cnew_any 0 2 w)
  rw [if_pos (show NMay 0 2 by decide), if_pos (show NMay 0 2 by decide)] at C0
  have C1 := hid (fun X => cmerge_any (w := X.alloc (.cells (cellsD al1).toArray 29)) 0 2 (Ds.nil' _ 0) (ds_row (heap_alloc_new X _) (by decide)) (Nat.zero_le _) (Nat.le_refl _))
  rw [al_e1, al_o1, al_p1, al_l1] at C1
  have C2 := hid (fun X (A : Option Addr) (n c : Nat) (hD : Ds X X.heap.size A n c al2) => cmerge_any (w := X.alloc (.cells (cellsD [(2, 9)]).toArray 29)) 0 2 (hD.below ((Below.refl _ X).alloc (Nat.le_refl _) _)) (ds_row (heap_alloc_new X _) (by decide)) (by simp) (Nat.le_refl _))
  rw [al_e2, al_o2, al_p2, al_l2] at C2
  have C3 := hid (fun X (A : Option Addr) (n c : Nat) (hD : Ds X X.heap.size A n c al3) => coffer_any (w := X) 0 2 7 hD (Nat.le_refl _))
  rw [al_e3, al_l3] at C3
  have S1 := hid (fun X (A : Option Addr) (n c : Nat) (hD : Ds X X.heap.size A n c al2) => dsame_any (w := X.alloc (.cells (cellsD al2).toArray 29)) (hD.below ((Below.refl _ X).alloc (Nat.le_refl _) _)) (ds_row (heap_alloc_new X _) (by decide)) (by simp) (Nat.le_refl _))
  have S2 := hid (fun X (A : Option Addr) (n c : Nat) (hD : Ds X X.heap.size A n c al3) => dsame_any (w := X.alloc (.cells (cellsD al3).toArray 29)) (hD.below ((Below.refl _ X).alloc (Nat.le_refl _) _)) (ds_row (heap_alloc_new X _) (by decide)) (by simp) (Nat.le_refl _))
  have S3 := hid (fun X (A : Option Addr) (n c : Nat) (hD : Ds X X.heap.size A n c al4) => dsame_any (w := X.alloc (.cells (cellsD al4).toArray 29)) (hD.below ((Below.refl _ X).alloc (Nat.le_refl _) _)) (ds_row (heap_alloc_new X _) (by decide)) (by simp) (Nat.le_refl _))
  rw [decide_eq_true rfl] at S1 S2 S3
  unfold cav at C0 C1 C2 C3
  go_enter Try.func12, Try.ntmps12
  go_wp2_with fail
  refine C0.out.mono ?_
  rintro e w1 ⟨rfl, b1⟩
  go_upto_region 2 with fail
  obtain ⟨W1, hW1⟩ : ∃ W1, W1 = w1.alloc (.cells #[.int .i64 0, .int .i64 2, .slice none 0 0] 24) := ⟨_, rfl⟩
  rw [← hW1]
  have B1 := hid (b1.out.trans (show Below w.heap.size w1 W1 from hW1 ▸ ((Below.refl _ w1).mono b1.out.size).alloc b1.out.size _))
  have X1 := hid (show Cbox W1 w1.heap.size 0 2 (.slice none 0 0) from hW1 ▸ heap_alloc_new w1 _)
  clear hW1 b1 C0
  have x0 := X1.out.c0
  have x1 := X1.out.c1
  have x2 := X1.out.c2
  go_wp2_with fail
  refine (C1.out W1).mono ?_
  rintro e w2 ⟨v2, rfl, h2⟩
  obtain ⟨A2, c2, rfl, hD2, _, _⟩ := h2.out.1.form
  obtain ⟨n2, hn2⟩ : ∃ n, n = al2.length := ⟨_, rfl⟩
  rw [← hn2] at hD2 ⊢
  have B2 := hid ((B1.out.alloc B1.out.size (.cells (cellsD al1).toArray 29)).trans (h2.out.2.mono (Nat.le_trans B1.out.size (by simp))))
  have D2 := hid hD2
  clear hn2 hD2 h2 x0 x1 x2 X1 B1 C1
  go_upto_region 3 with fail
  obtain ⟨W2, hW2⟩ : ∃ W2, W2 = w2.alloc (.cells #[.int .i64 0, .int .i64 2, .slice A2 n2 c2] 24) := ⟨_, rfl⟩
  rw [← hW2]
  have b2 := hid (show Below w2.heap.size w2 W2 from hW2 ▸ (Below.refl _ w2).alloc (Nat.le_refl _) _)
  have X2 := hid (show Cbox W2 w2.heap.size 0 2 (.slice A2 n2 c2) from hW2 ▸ heap_alloc_new w2 _)
  have E2 := hid ((D2.out.below b2.out).mono b2.out.size)
  have C2' := hid (C2.out W2 _ _ _ E2.out)
  have F2 := hid (B2.out.trans (b2.out.mono B2.out.size))
  clear hW2 D2 B2 b2 C2
  have x0 := X2.out.c0
  have x1 := X2.out.c1
  have x2 := X2.out.c2
  go_wp2_with fail
  refine C2'.out.mono ?_
  rintro e w3 ⟨v3, rfl, h3⟩
  obtain ⟨A3, c3, rfl, hD3, _, _⟩ := h3.out.1.form
  obtain ⟨n3, hn3⟩ : ∃ n, n = al3.length := ⟨_, rfl⟩
  rw [← hn3] at hD3 ⊢
  have b3 := hid (((Below.refl _ W2).alloc (Nat.le_refl _) (.cells (cellsD [(2, 9)]).toArray 29)).trans (h3.out.2.mono (by simp)))
  have X3 := hid (X2.out.below b3.out X2.out.lt)
  have E3 := hid ((E2.out.below b3.out).mono b3.out.size)
  have F3 := hid (F2.out.trans (b3.out.mono F2.out.size))
  have D3 := hid hD3
  clear hn3 hD3 h3 x0 x1 x2 X2 E2 F2 b3 C2'
  go_upto_region 4 with fail
  obtain ⟨W3, hW3⟩ : ∃ W3, W3 = w3.alloc (.cells #[.int .i64 0, .int .i64 2, .slice A3 n3 c3] 24) := ⟨_, rfl⟩
  rw [← hW3]
  have b3 := hid (show Below w3.heap.size w3 W3 from hW3 ▸ (Below.refl _ w3).alloc (Nat.le_refl _) _)
  have Y3 := hid (show Cbox W3 w3.heap.size 0 2 (.slice A3 n3 c3) from hW3 ▸ heap_alloc_new w3 _)
  have X4 := hid (X3.out.below b3.out X3.out.lt)
  have E4 := hid ((E3.out.below b3.out).mono b3.out.size)
  have D4 := hid ((D3.out.below b3.out).mono b3.out.size)
  have F4 := hid (F3.out.trans (b3.out.mono F3.out.size))
  have C3' := hid (C3.out W3 _ _ _ D4.out)
  clear hW3 D3 X3 E3 F3 b3 C3
  have x0 := Y3.out.c0
  have x1 := Y3.out.c1
  have x2 := Y3.out.c2
  go_wp2_with fail
  refine C3'.out.mono ?_
  rintro e w4 ⟨v4, rfl, h4⟩
  obtain ⟨A4, c4, rfl, hD4, _, _⟩ := h4.out.1.form
  obtain ⟨n4, hn4⟩ : ∃ n, n = al4.length := ⟨_, rfl⟩
  rw [← hn4] at hD4 ⊢
  have X5 := hid (X4.out.below h4.out.2 X4.out.lt)
  have Y5 := hid (Y3.out.below h4.out.2 Y3.out.lt)
  have E5 := hid ((E4.out.below h4.out.2).mono h4.out.2.size)
  have D5 := hid ((D4.out.below h4.out.2).mono h4.out.2.size)
  have F5 := hid (F4.out.trans (h4.out.2.mono F4.out.size))
  have G5 := hid hD4
  clear hn4 hD4 h4 x0 x1 x2 Y3 X4 E4 D4 F4 C3'
  have x2 := X5.out.c2
  have S1' := hid (S1.out w4 _ _ _ E5.out)
  clear S1
  go_wp2_with fail
  refine S1'.out.mono ?_
  rintro e w5 ⟨rfl, hb⟩
  have b5 := hid (((Below.refl _ w4).alloc (Nat.le_refl _) (.cells (cellsD al2).toArray 29)).trans (hb.out.mono (by simp)))
  have Y6 := hid (Y5.out.below b5.out Y5.out.lt)
  have D6 := hid ((D5.out.below b5.out).mono b5.out.size)
  have G6 := hid ((G5.out.below b5.out).mono b5.out.size)
  have F6 := hid (F5.out.trans (b5.out.mono F5.out.size))
  clear hb b5 x2 X5 Y5 E5 D5 G5 F5 S1'
  have x2 := Y6.out.c2
  have S2' := hid (S2.out w5 _ _ _ D6.out)
  clear S2
  go_wp2_with fail
  refine S2'.out.mono ?_
  rintro e w6 ⟨rfl, hb⟩
  have b6 := hid (((Below.refl _ w5).alloc (Nat.le_refl _) (.cells (cellsD al3).toArray 29)).trans (hb.out.mono (by simp)))
  have G7 := hid ((G6.out.below b6.out).mono b6.out.size)
  have F7 := hid (F6.out.trans (b6.out.mono F6.out.size))
  clear hb b6 x2 Y6 D6 G6 F6 S2'
  have S3' := hid (S3.out w6 _ _ _ G7.out)
  clear S3
  go_wp2_with fail
  refine S3'.out.mono ?_
  rintro e w7 ⟨rfl, hb⟩
  have b7 := hid (((Below.refl _ w6).alloc (Nat.le_refl _) (.cells (cellsD al4).toArray 29)).trans (hb.out.mono (by simp)))
  go_wp2
  go_ret
  exact ⟨rfl, hid (F7.out.trans (b7.out.mono F7.out.size))⟩
end Go.Proofs.Ythklhhgkklpbkaa
