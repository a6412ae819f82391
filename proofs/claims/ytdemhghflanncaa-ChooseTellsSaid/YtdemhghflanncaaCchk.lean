/- Check of caches. -/
import Derived.Test.YtdemhghflanncaaCtwn
namespace Go.Proofs.Ytdemhghflanncaa
open Go.RowKit Go.Shelf Go.Lib

theorem oth_le (o : Int) (l : List De) : (oth o l).length ≤ l.length := List.length_filter_le _ _
theorem oth_chk {o : Int} {l : List De} (h : chk l = 0) : chk (oth o l) = 0 := by
  obtain ⟨h1, h2⟩ := chk_zero.1 h
  refine chk_zero.2 ⟨Nat.le_trans (oth_le o l) h1, any_bad_mem (m := l) (fun d hd => (mem_oth.1 hd).1) h2⟩
/-- What is kept of a cache's own List is just it, where it may be. -/
theorem kept_may {o p : Int} {l : List De} (hn : NMay o p) (hl : (l.length : Int) ≤ p) : ((bst (oth o l)).take p.toNat = l) ↔ CMay o p l := by
  obtain ⟨h1, h2, h3, h4⟩ := hn
  constructor
  · intro h
    have hc : chk (oth o l) = 0 := by
      by_cases h0 : chk (oth o l) = 0
      · exact h0
      · have hb : bst (oth o l) = [] := if_neg h0
        rw [hb, List.take_nil] at h
        rw [← h] at h0
        exact absurd rfl h0
    have hb : bst (oth o l) = top (oth o l) := if_pos hc
    rw [hb] at h
    have hm : ∀ d, d ∈ l → d.1 ≠ o := fun d hd => by
      rw [← h] at hd
      exact (mem_oth.1 (mem_top.1 (List.mem_of_mem_take hd)).1).2
    have ho := oth_self hm
    refine ⟨h1, h2, h3, h4, hl, by rw [← ho]; exact hc, ?_⟩
    have hle : (top (oth o l)).length ≤ p.toNat := by
      have := top_length_le (oth o l)
      have := oth_le o l
      omega
    rw [List.take_of_length_le hle] at h
    exact h.symm
  · rintro ⟨_, _, _, _, h5, h6, h7⟩
    have hb : bst (oth o l) = top (oth o l) := if_pos (oth_chk h6)
    rw [hb, ← h7, List.take_of_length_le (by omega)]

set_option maxHeartbeats 6400000 in
set_option maxRecDepth 100000 in
theorem ccheck_any {w : World} {B n c : Nat} {A : Option Addr} {l : List De} (o p : Int) (h : Ds w B A n c l) (hB : B ≤ w.heap.size) :
    Calls Try.prog 23 #[cav o p (.slice A n c)] w fun e w' => e = .returned (.int .i64 (cchk o p l)) ∧ Hid (Below w.heap.size w w') := by
  have H := hid (h.mono hB)
  have HL := hid h.len
  have hcap := h.cap
  have hmx := h.max
  clear h hB
  obtain ⟨W, hW⟩ : ∃ W, W = w.alloc (.cells #[.int .i64 o, .int .i64 p, .slice A n c] 29) := ⟨_, rfl⟩
  have B0 := hid (show Below w.heap.size w W from hW ▸ (Below.refl _ w).alloc (Nat.le_refl _) _)
  have hz : W.heap.size = w.heap.size + 1 := by rw [hW]; simp
  have X0 := hid (show Cbox W w.heap.size o p (.slice A n c) from hW ▸ heap_alloc_new w _)
  have HW := hid hW
  have HZ := hid hz
  clear hW
  have CN := hid (cnew_any o p W)
  have x0 := X0.out.c0
  have x1 := X0.out.c1
  unfold cav
  by_cases hN : NMay o p
  case neg =>
    rw [show cchk o p l = 8 from if_neg (fun h => hN ⟨h.1, h.2.1, h.2.2.1, h.2.2.2.1⟩)]
    rw [if_neg hN, if_neg hN] at CN
    clear hN
    go_enter Try.func23, Try.ntmps23
    go_upto_region 1 with fail
    rw [← HW.out]
    clear HW
    go_wp2_with fail
    refine CN.out.mono ?_
    rintro e w1 ⟨rfl, hb⟩
    unfold cav
    go_wp2
    go_ret
    refine ⟨rfl, hid ?_⟩
    exact (B0.out.trans (hb.out.mono B0.out.size)).alloc (Nat.le_trans B0.out.size hb.out.size) _
  rw [if_pos hN, if_pos hN] at CN
  have HN := hid hN
  obtain ⟨q, rfl⟩ : ∃ q : Nat, p = (q : Int) := ⟨p.toNat, by obtain ⟨_, _, h3, _⟩ := hN; omega⟩
  clear hN
  go_enter Try.func23, Try.ntmps23
  go_upto_region 1 with fail
  rw [← HW.out]
  clear HW
  go_wp2_with fail
  refine CN.out.mono ?_
  rintro e w1 ⟨rfl, hb⟩
  unfold cav
  have X1 := hid (X0.out.below hb.out (by omega))
  have B1 := hid (B0.out.trans (hb.out.mono B0.out.size))
  clear x0 x1 CN
  go_upto_region 2 with fail
  obtain ⟨W2, hW2⟩ : ∃ W2, W2 = w1.alloc (.cells #[.int .i64 o, .int .i64 (q : Int), .slice none 0 0] 29) := ⟨_, rfl⟩
  rw [← hW2]
  have b2 := hid (show Below w1.heap.size w1 W2 from hW2 ▸ (Below.refl _ w1).alloc (Nat.le_refl _) _)
  have X2 := hid (X1.out.below b2.out X1.out.lt)
  have B2 := hid (B1.out.trans (b2.out.mono B1.out.size))
  have D2 := hid (H.out.below B2.out)
  clear hW2 b2 hb X0 B0 X1 B1 H
  have x1 := X2.out.c1
  have x2 := X2.out.c2
  by_cases hnq : (n : Int) > (q : Int)
  · have HC := hid (show cchk o (q : Int) l = 8 from if_neg (fun h => by have := h.2.2.2.2.1; have := HL.out; omega))
    go_wp2
    go_ret
    exact ⟨by rw [HC.out]; rfl, B2⟩
  have x0 := X2.out.c0
  have HQ := hid (kept_may (l := l) HN.out (by have := HL.out; omega))
  rw [Int.toNat_natCast] at HQ
  go_upto_region 5 with fail
  obtain ⟨W3, hW3⟩ : ∃ W3, W3 = W2.alloc (.cells #[.int .i64 o, .int .i64 (q : Int), .slice A n c] 68) := ⟨_, rfl⟩
  rw [← hW3]
  have b3 := hid (show Below W2.heap.size W2 W3 from hW3 ▸ (Below.refl _ W2).alloc (Nat.le_refl _) _)
  have G3 := hid (show Gbox W3 W2.heap.size o (q : Int) (.slice A n c) from hW3 ▸ heap_alloc_new W2 _)
  have hz3 := hid (show W3.heap.size = W2.heap.size + 1 from by rw [hW3]; simp)
  have X3 := hid (X2.out.below b3.out X2.out.lt)
  have B3 := hid (B2.out.trans (b3.out.mono B2.out.size))
  have D3 := hid (D2.out.below (b3.out.mono B2.out.size))
  have hlt2 := X2.out.lt
  have x3 := X3.out.c2
  obtain ⟨W4, hW4⟩ : ∃ W4, W4 = W3.alloc (.cells #[.slice A n c] 27) := ⟨_, rfl⟩
  have b4 := hid (show Below W3.heap.size W3 W4 from hW4 ▸ (Below.refl _ W3).alloc (Nat.le_refl _) _)
  have hz4 := hid (show W4.heap.size = W3.heap.size + 1 from by rw [hW4]; simp)
  have G4 := hid (G3.out.below b4.out G3.out.lt)
  have X4 := hid (X3.out.below b4.out X3.out.lt)
  have B4 := hid (B3.out.trans (b4.out.mono B3.out.size))
  have D4 := hid ((D3.out.below (b4.out.mono B3.out.size)))
  have hrow : W4.heap[W3.heap.size]? = some (.cells #[.slice A n c] 27 (0, 0)) := hW4 ▸ heap_alloc_new W3 _
  have CK := hid (keep_any (w := W4) (b := W3.heap.size) (off := 0) (k := 1) (c := 1) o q (fun _ => (A, n, c)) (fun _ => l) G4.out (fun j hj => by
    obtain rfl : j = 0 := by omega
    exact ⟨(cell_of_row W4 _ 0 _ _ (0, 0) hrow).trans rfl, D4.out.mono B4.out.size⟩) (by have := hz4.out; omega) (by omega) (Nat.le_refl _) (by show ([] ++ l).length ≤ 100000; have := HL.out; rw [List.nil_append]; have := HN.out.2.2.2; omega))
  change Hid (Calls _ _ _ W4 fun e w' => e = .returned (.tuple #[]) ∧ ∃ v, Hid (Gbox w' W2.heap.size o (q : Int) v ∧ Od w' W4.heap.size v ((bst (oth o l)).take q) ∧ W4.grownBy w' (some W2.heap.size))) at CK
  have HW4 := hid hW4
  obtain ⟨s, hs⟩ : ∃ s, s = (bst (oth o l)).take q := ⟨_, rfl⟩
  rw [← hs] at CK HQ
  clear hW4 hrow hs hW3 D2 D3 X2 X3 B2 B3 G3 x0 x1 x2
  go_wp2_with fail
  rw [← HW4.out]
  refine CK.out.mono ?_
  rintro e w5 ⟨rfl, v, HV⟩
  have X5 := hid (show Cbox w5 w.heap.size o (q : Int) (.slice A n c) from (HV.out.2.2.block _ X4.out.lt (fun e => by have := Option.some.inj e; omega)).trans X4.out)
  have B5 := hid (B4.out.trans (⟨HV.out.2.2.os, HV.out.2.2.tape, HV.out.2.2.output, HV.out.2.2.size, fun j hj => HV.out.2.2.block j (by have := B4.out.size; omega) (fun e => by have := Option.some.inj e; omega)⟩))
  have D5 := hid ((D4.out.mono (show w.heap.size ≤ w.heap.size from Nat.le_refl _)).below (show Below w.heap.size W4 w5 from ⟨HV.out.2.2.os, HV.out.2.2.tape, HV.out.2.2.output, HV.out.2.2.size, fun j hj => HV.out.2.2.block j (by have := B4.out.size; omega) (fun e => by have := Option.some.inj e; omega)⟩))
  obtain ⟨A5, c5, hv5, hD5, _, _⟩ := HV.out.2.1.form
  have G5 := hid HV.out.1
  have CS := hid (csame_any o (q : Int) o (q : Int) hD5 D5.out (Nat.le_refl _) B5.out.size)
  rw [show decide (o = o ∧ (q : Int) = q ∧ s = l) = decide (s = l) by simp] at CS
  generalize s.length = m5 at hv5 CS
  subst hv5
  unfold cav at CS
  clear hD5 HV CK X4 B4 G4 D4 D5
  have x0 := X5.out.c0
  have x1 := X5.out.c1
  have x2 := X5.out.c2
  have y0 := G5.out.c0
  have y1 := G5.out.c1
  have y2 := G5.out.c2
  by_cases hsl : s = l
  · have HC := hid (show cchk o (q : Int) l = 0 from if_pos (HQ.out.1 hsl))
    rw [decide_eq_true hsl] at CS
    clear hsl
    go_wp2_with fail
    refine CS.out.mono ?_
    rintro e w6 ⟨rfl, hb⟩
    go_wp2
    go_ret
    exact ⟨by rw [HC.out]; rfl, hid (B5.out.trans (hb.out.mono B5.out.size))⟩
  · have HC := hid (show cchk o (q : Int) l = 8 from if_neg (fun h => hsl (HQ.out.2 h)))
    rw [decide_eq_false hsl] at CS
    clear hsl
    go_wp2_with fail
    refine CS.out.mono ?_
    rintro e w6 ⟨rfl, hb⟩
    go_wp2
    go_ret
    exact ⟨by rw [HC.out]; rfl, hid (B5.out.trans (hb.out.mono B5.out.size))⟩
end Go.Proofs.Ytdemhghflanncaa
