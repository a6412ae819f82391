/- Ether: the document's Double. -/
import Derived.Test.YtbpijlghdpflgaaYsn
namespace Go.Proofs.Ytbpijlghdpflgaa.Eth
open Go.RowKit Go.Shelf Go.Lib

set_option maxHeartbeats 6400000 in
set_option maxRecDepth 100000 in
theorem rdouble_any {w : World} {B n c : Nat} {A : Option Addr} {l : List Cp} (h : Cls w B A n c l) (hB : B ≤ w.heap.size) (i : Int) :
    Calls Try.prog 11 #[.slice A n c, .int .i64 i] w (LstR w (dbE l i) (dbL l i)) := by
  have H0 := hid (h.mono hB)
  have hl := hid h.len
  have hcap := h.cap
  have CK := hid (rcheck_any h hB)
  clear h hB
  by_cases h0 : echk l = 0
  case neg =>
    have hE : dbE l i = echk l := by unfold dbE; rw [if_pos h0]
    have hL : dbL l i = [] := by unfold dbL; rw [hE, if_neg h0]
    rw [hE, hL]
    clear hE hL
    generalize echk l = q at h0 CK ⊢
    go_enter Try.func11, Try.ntmps11
    go_wp2_with fail
    refine CK.out.mono ?_
    rintro e w1 ⟨rfl, hb⟩
    go_wp2
    go_ret2
    exact LstR.none' hb.out
  rw [h0] at CK
  have hmay := (echk_zero.1 h0).2
  by_cases hi0 : i < 0
  case pos =>
    have hE : dbE l i = 2 := by unfold dbE plc; rw [if_neg (by simp [h0]), if_pos (by omega)]
    have hL : dbL l i = [] := by unfold dbL; rw [hE]; rfl
    rw [hE, hL]
    clear hE hL h0 hmay
    go_enter Try.func11, Try.ntmps11
    go_wp2_with fail
    refine CK.out.mono ?_
    rintro e w1 ⟨rfl, hb⟩
    go_wp2
    go_ret2
    exact LstR.none' hb.out
  obtain ⟨k, rfl⟩ : ∃ k : Nat, i = (k : Int) := ⟨i.toNat, by omega⟩
  clear hi0
  by_cases hkn : k < n
  case neg =>
    have hE : dbE l (k : Int) = 2 := by unfold dbE plc; rw [if_neg (by simp [h0]), if_pos (by rw [hl.out]; omega)]
    have hL : dbL l (k : Int) = [] := by unfold dbL; rw [hE]; rfl
    have hz : (k : Int) ≥ (n : Int) := by omega
    rw [hE, hL]
    clear hE hL h0 hmay
    go_enter Try.func11, Try.ntmps11
    go_wp2_with fail
    refine CK.out.mono ?_
    rintro e w1 ⟨rfl, hb⟩
    go_wp2
    go_ret2
    exact LstR.none' hb.out
  have hz : ¬ (k : Int) ≥ (n : Int) := by omega
  by_cases h16 : 16 ≤ n
  case pos =>
    have hE : dbE l (k : Int) = 9 := by unfold dbE plc; rw [if_neg (by simp [h0]), if_neg (fun h => h (by rw [hl.out]; omega)), if_pos (by rw [hl.out]; exact h16)]
    have hL : dbL l (k : Int) = [] := by unfold dbL; rw [hE]; rfl
    have h16z : (n : Int) ≥ 16 := by omega
    rw [hE, hL]
    clear hE hL h0 hmay
    go_enter Try.func11, Try.ntmps11
    go_wp2_with fail
    refine CK.out.mono ?_
    rintro e w1 ⟨rfl, hb⟩
    go_wp2
    go_ret2
    exact LstR.none' hb.out
  have h16z : ¬ (n : Int) ≥ 16 := by omega
  have hE : dbE l (k : Int) = 0 := by unfold dbE plc; rw [if_neg (by simp [h0]), if_neg (fun h => h (by rw [hl.out]; omega)), if_neg (by rw [hl.out]; exact h16)]
  obtain ⟨p0, hp0⟩ : ∃ p0, l[k]? = some p0 := ⟨_, List.getElem?_eq_getElem (by rw [hl.out]; exact hkn)⟩
  have hL : dbL l (k : Int) = l ++ [p0] := by
    unfold dbL
    rw [if_pos hE, Int.toNat_natCast, List.getD_eq_getElem?_getD, hp0]
    rfl
  rw [hE, hL]
  have HP0 := hid hp0
  clear hE hL h0 hp0
  go_enter Try.func11, Try.ntmps11
  go_wp2_with fail
  refine CK.out.mono ?_
  rintro e w2 ⟨rfl, hb⟩
  have B2 := hid hb.out
  have H2 := hid (H0.out.on (Nat.le_refl _) hb.out)
  obtain ⟨b, off, x, y, D, m, d, t, s, rfl, hbb, hp, c0, c1, c2, c3, ht, hf⟩ := H2.out.get hkn
  have HP := hid hp
  have hgd : p0 = (x, y, t, s) := by have := HP0.out; rw [hp] at this; injection this with this; exact this.symm
  subst hgd
  have HMY := hid (show ∀ p ∈ l ++ [(x, y, t, s)], MayC p from fun p hp2 => by
    rcases List.mem_append.1 hp2 with h1 | h1
    · exact hmay p h1
    · obtain rfl : p = (x, y, t, s) := by simpa using h1
      exact hmay _ (List.mem_of_getElem? hp))
  have HCl : Hid (∀ X, Below w2.heap.size w2 X → X.cell? ⟨b, off + k * 4, none⟩ = some (.int .i64 x) ∧ X.cell? ⟨b, off + k * 4 + 1, none⟩ = some (.int .i64 y) ∧ X.cell? ⟨b, off + k * 4 + 2, none⟩ = some (.slice D m d) ∧ X.cell? ⟨b, off + k * 4 + 3, none⟩ = some (.bool s)) := hid fun X hX =>
    ⟨(hX.cell (p := ⟨b, off + k * 4, none⟩) hbb).trans c0, (hX.cell (p := ⟨b, off + k * 4 + 1, none⟩) hbb).trans c1, (hX.cell (p := ⟨b, off + k * 4 + 2, none⟩) hbb).trans c2, (hX.cell (p := ⟨b, off + k * 4 + 3, none⟩) hbb).trans c3⟩
  obtain ⟨rl, hg, hpr⟩ := H2.out
  have HRL := hid (And.intro hg hpr)
  have HRC := hid (show Crd w2 w2.heap.size (x, y, (D, m, d), s) (x, y, t, s) from Crd.in_ ht hf)
  clear hg hpr H2 H0 hp hmay ht hf CK
  go_upto_region 8 with fail
  have HN1 : Hid ((w2.alloc (.cells #[] 25)).drew.heap[w2.heap.size]? = some (.cells #[] 25 (0, 0))) := hid (heap_alloc_new w2 _)
  have HN2 : Hid (((w2.alloc (.cells #[] 25)).alloc (.cells #[.int .i64 x, .int .i64 y, .slice D m d, .bool s] 25)).drew.heap[w2.heap.size]? = some (.cells #[] 25 (0, 0))) := hid (heap_two w2 _ _).1
  have HN3 : Hid (((w2.alloc (.cells #[.int .i64 x, .int .i64 y, .slice D m d, .bool s] 25)).alloc (.cells #[] 25)).drew.heap[w2.heap.size + 1]? = some (.cells #[] 25 (0, 0))) := hid (heap_two w2 _ _).2
  have HM2 : Hid (((w2.alloc (.cells #[] 25)).alloc (.cells #[.int .i64 x, .int .i64 y, .slice D m d, .bool s] 25)).drew.heap[w2.heap.size + 1]? = some (.cells (cellsC [(x, y, (D, m, d), s)]).toArray 25 (0, 0))) := hid (heap_two w2 _ _).2
  have HM3 : Hid (((w2.alloc (.cells #[.int .i64 x, .int .i64 y, .slice D m d, .bool s] 25)).alloc (.cells #[] 25)).drew.heap[w2.heap.size]? = some (.cells (cellsC [(x, y, (D, m, d), s)]).toArray 25 (0, 0))) := hid (heap_two w2 _ _).1
  have HB1 : Hid (Below w2.heap.size w2 (w2.alloc (.cells #[] 25)).drew) := hid (((Below.refl _ w2).alloc (Nat.le_refl _) _).drew)
  have HB2 : Hid (Below w2.heap.size w2 ((w2.alloc (.cells #[] 25)).alloc (.cells #[.int .i64 x, .int .i64 y, .slice D m d, .bool s] 25)).drew) := hid ((below_two w2 _ _).drew)
  have HB3 : Hid (Below w2.heap.size w2 ((w2.alloc (.cells #[.int .i64 x, .int .i64 y, .slice D m d, .bool s] 25)).alloc (.cells #[] 25)).drew) := hid ((below_two w2 _ _).drew)
  have HS1 : Hid (∀ X, Below w2.heap.size w2 X → Gs X w2.heap.size (some ⟨b, off, none⟩) n c 4 (cellsC rl)) := hid fun X hX => HRL.out.1.below hX
  have HE1 := hid (fun (X : World) (g : Nat) (hg : X.heap[g]? = some (.cells #[] 25 (0, 0))) (hB : w2.heap.size ≤ g) => (Gw.none' (c := 0) hg hB (by unfold maxLen; omega) rfl : Gw X w2.heap.size 25 4 (.slice (some ⟨g, 0, none⟩) 0 0) 0 []))
  have HG1 := hid (fun (X : World) (g : Nat) (hg : X.heap[g]? = some (.cells (cellsC [(x, y, (D, m, d), s)]).toArray 25 (0, 0))) => (Gs.new (B := X.heap.size) (n := 1) (c := 1) (k := 4) hg (lt_of_heap hg) rfl (Nat.le_refl _) (by omega) : Gs X X.heap.size (some ⟨g, 0, none⟩) 1 1 4 (cellsC [(x, y, (D, m, d), s)])))
  have HB0 : Hid (Below w2.heap.size w2 w2.drew) := hid (Below.refl _ w2).drew
  have HB4 : Hid (Below w2.heap.size w2 (w2.alloc (.cells #[.int .i64 x, .int .i64 y, .slice D m d, .bool s] 25)).drew) := hid (((Below.refl _ w2).alloc (Nat.le_refl _) _).drew)
  go_region_held3 (fun X => X.cell? ⟨b, off + k * 4, none⟩ = some (.int .i64 x) ∧ X.cell? ⟨b, off + k * 4 + 1, none⟩ = some (.int .i64 y) ∧ X.cell? ⟨b, off + k * 4 + 2, none⟩ = some (.slice D m d) ∧ X.cell? ⟨b, off + k * 4 + 3, none⟩ = some (.bool s))
    (first
    | with_reducible exact HCl.out _ HBy.out
    | with_reducible exact HCl.out _ HBx.out
    | with_reducible exact HCl.out _ (HBw.out.alloc HBw.out.size _)
    | with_reducible exact HCl.out _ HBw.out
    | with_reducible exact HCl.out _ HB0.out
    | with_reducible exact HCl.out _ HB1.out
    | with_reducible exact HCl.out _ HB4.out
    | with_reducible exact HCl.out _ HB2.out
    | with_reducible exact HCl.out _ HB3.out)
    (first
    | (refine step_appC rfl (.tmp 23) (.tmp 24) rfl rfl rfl (v := .slice (some ⟨w2.heap.size, 0, none⟩) 0 0) (B := w2.heap.size) (C := w2.heap.size) (cs := []) (rs := rl) (by first | with_reducible exact HE1.out _ _ HN1.out (Nat.le_refl _) | with_reducible exact HE1.out _ _ HN2.out (Nat.le_refl _)) (by first | with_reducible exact HS1.out _ HB1.out | with_reducible exact HS1.out _ HB2.out) (by omega) (by first | with_reducible exact HB1.out.size | with_reducible exact HB2.out.size) ?_
       intro v34 w34 HT1
       rw [Nat.zero_add, List.nil_append] at HT1
       have HO34 := hid HT1.out.own
       have HBw : Hid (Below w2.heap.size w2 w34) := hid (by first | with_reducible exact HB1.out.trans (HT1.out.below (HE1.out _ _ HN1.out (Nat.le_refl _)) HB1.out.size) | with_reducible exact HB2.out.trans (HT1.out.below (HE1.out _ _ HN2.out (Nat.le_refl _)) HB2.out.size))
       have c0 := (HCl.out _ HBw.out).1
       have c1 := (HCl.out _ HBw.out).2.1
       have c2 := (HCl.out _ HBw.out).2.2.1
       have c3 := (HCl.out _ HBw.out).2.2.2
       try (have HMx := hid ((HT1.out.grown.block (w2.heap.size + 1) (lt_of_heap HM2.out) (by simp [Value.ownBlock])).trans HM2.out)))
    | (refine step_appC rfl (.tmp 23) (.tmp 24) rfl rfl rfl (v := .slice (some ⟨w2.heap.size + 1, 0, none⟩) 0 0) (B := w2.heap.size) (C := w2.heap.size) (cs := []) (rs := rl) (by first | with_reducible exact HE1.out _ _ HN3.out (Nat.le_succ _)) (by first | with_reducible exact HS1.out _ HB3.out) (by omega) (by first | with_reducible exact HB3.out.size) ?_
       intro v34 w34 HT1
       rw [Nat.zero_add, List.nil_append] at HT1
       have HO34 := hid HT1.out.own
       have HBw : Hid (Below w2.heap.size w2 w34) := hid (by first | with_reducible exact HB3.out.trans (HT1.out.below (HE1.out _ _ HN3.out (Nat.le_succ _)) HB3.out.size))
       have c0 := (HCl.out _ HBw.out).1
       have c1 := (HCl.out _ HBw.out).2.1
       have c2 := (HCl.out _ HBw.out).2.2.1
       have c3 := (HCl.out _ HBw.out).2.2.2
       try (have HMx := hid ((HT1.out.grown.block w2.heap.size (lt_of_heap HM3.out) (by simp [Value.ownBlock])).trans HM3.out)))
    | (refine step_appC rfl (.tmp 25) (.tmp 30) rfl rfl rfl (v := v34) (B := w2.heap.size) (cs := cellsC rl) (rs := [(x, y, (D, m, d), s)]) (by first | with_reducible exact HO34.out | with_reducible exact HO34.out.below ((Below.refl _ _).alloc (Nat.le_refl _) _)) (by first | with_reducible exact HG1.out _ _ HMx.out | with_reducible exact HG1.out _ _ (heap_alloc_new w34 _)) (by omega) (by first | with_reducible exact HBw.out.size | with_reducible exact (HBw.out.alloc HBw.out.size _).size) ?_
       intro v40 w40 HT2
       have HBx : Hid (Below w2.heap.size w2 w40) := hid (by first | with_reducible exact HBw.out.trans (HT2.out.below HO34.out HBw.out.size) | with_reducible exact (HBw.out.alloc HBw.out.size _).trans (HT2.out.below (HO34.out.below ((Below.refl _ _).alloc (Nat.le_refl _) _)) (HBw.out.alloc HBw.out.size _).size))
       obtain ⟨A40, c40, rfl, g40, m40, a40, o40⟩ := HT2.out.own.form
       have HCL := hid (cls_join HRL.out.2 HRC.out HBx.out HT2.out.own)
       clear HT2 g40 m40 a40 o40)
    | (go_at_call 5
       with_reducible refine (twin_own HCL.out (Nat.le_refl _) (by omega) HMY.out).mono ?_
       rintro e w50 ⟨A50, c50, rs50, rfl, h50⟩
       have HBy := hid (HBx.out.trans (h50.out.2.mono HBx.out.size))))
  all_goals
    go_wp2
    go_ret2
    exact ⟨A50, _, c50, rs50, rfl, hid ⟨h50.out.1.mono (fun q hq => Nat.le_trans (Nat.le_trans B2.out.size HBx.out.size) hq), gbelow_on B2.out (Nat.le_refl _) HBy.out, by rw [List.length_append, hl.out]; rfl⟩⟩
end Go.Proofs.Ytbpijlghdpflgaa.Eth
