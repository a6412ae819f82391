/- Ether: the document's Send. -/
import Derived.Test.YtbpijlghdpflgaaYtw
import Derived.Deep.RegionHeld3
namespace Go.Proofs.Ytbpijlghdpflgaa.Eth
open Go.RowKit Go.Shelf Go.Lib

/-- What a call leaves that answers copies and an error. -/
def LstR (w : World) (q : Int) (l : List Cp) (e : Ending) (w' : World) : Prop := ∃ A' n' c' rs, e = .returned (.tuple #[.slice A' n' c', .int .i64 q]) ∧ Hid (Cow w' (fun q => w.heap.size ≤ q) A' n' c' rs l ∧ Below w.heap.size w w' ∧ n' = l.length)
theorem LstR.none' {w w' : World} {q : Int} (hb : Below w.heap.size w w') : LstR w q [] (.returned (.tuple #[.slice none 0 0, .int .i64 q])) w' := ⟨_, _, _, _, rfl, hid ⟨Cow.nil _ _, hb, rfl⟩⟩

theorem twin_own {w : World} {B n c : Nat} {A : Option Addr} {l : List Cp} (h : Cls w B A n c l) (hB : B ≤ w.heap.size) (hn : n ≤ 1000) (hT : ∀ p ∈ l, MayC p) : Calls Try.prog 5 #[.slice A n c] w (TwinR w n l) :=
  twin_any h hB hn fun p hp => by have := (hT p hp).2.2.2; omega

/-- Lists put together, as they lie. -/
theorem cls_join {w2 w4 : World} {A4 : Option Addr} {n4 c4 B : Nat} {l : List Cp} {rl : List Cr} {r : Cr} {p : Cp} (hp : Pair w2 w2.heap.size rl l) (hr : Crd w2 w2.heap.size r p) (hb : Below w2.heap.size w2 w4) (hO : Gw w4 B 25 4 (.slice A4 n4 c4) n4 (cellsC rl ++ cellsC [r])) : Cls w4 w4.heap.size A4 n4 c4 (l ++ [p]) := by
  obtain ⟨A', c', e, hG, _⟩ := hO.form
  injection e with e1 e2 e3
  subst e1 e3
  rw [← cellsC_append] at hG
  exact ⟨_, hG, ((hp.snoc hr).below hb).mono hb.size⟩

set_option maxHeartbeats 6400000 in
set_option maxRecDepth 100000 in
theorem rsend_any {w : World} {B C n c m d : Nat} {A D : Option Addr} {l : List Cp} {x y : Int} {t : List Nat} {s : Bool} (h : Cls w B A n c l) (hB : B ≤ w.heap.size) (ht : Gs w C D m d 1 (cellsB t)) (hf : ∀ b ∈ t, b < 256) (hC : C ≤ w.heap.size) :
    Calls Try.prog 7 #[.slice A n c, .agg #[.int .i64 x, .int .i64 y, .slice D m d, .bool s]] w (LstR w (snE l (x, y, t, s)) (snL l (x, y, t, s))) := by
  obtain ⟨W, hW⟩ : ∃ W, W = w.alloc (.cells #[.int .i64 x, .int .i64 y, .slice D m d, .bool s] 25) := ⟨_, rfl⟩
  have B0 := hid (show Below w.heap.size w W from hW ▸ (Below.refl _ w).alloc (Nat.le_refl _) _)
  have X0 := hid (show Cbx W w.heap.size x y D m d s from hW ▸ Cbx.new w x y D m d s)
  have HW := hid hW
  have H0 := hid (h.on hB B0.out)
  have T0 := hid (ht.on hC B0.out)
  have hl := hid h.len
  have hcap := h.cap
  have HF := hid hf
  have CK := hid (rcheck_any H0.out (Nat.le_refl _))
  clear hW h hB ht hC hf
  by_cases h0 : echk l = 0
  case neg =>
    have hE : snE l (x, y, t, s) = echk l := by unfold snE; rw [if_pos h0]
    have hL : snL l (x, y, t, s) = [] := by unfold snL; rw [hE, if_neg h0]
    rw [hE, hL]
    clear hE hL
    generalize echk l = q at h0 CK ⊢
    go_enter Try.func7, Try.ntmps7
    go_upto_region 1 with fail
    rw [← HW.out]
    go_wp2_with fail
    refine CK.out.mono ?_
    rintro e w1 ⟨rfl, hb⟩
    go_wp2
    go_ret2
    exact LstR.none' (gbelow_on B0.out (Nat.le_refl _) hb.out)
  rw [h0] at CK
  have hmay := (echk_zero.1 h0).2
  have hlen := (echk_zero.1 h0).1
  have CM := hid (fun X (hX : Below W.heap.size W X) => may_any (w := X) (x := x) (y := y) (s := s) (T0.out.below hX))
  by_cases hm : MayC (x, y, t, s)
  case neg =>
    have hE : snE l (x, y, t, s) = 8 := by unfold snE; rw [if_neg (by simp [h0]), if_pos hm]
    have hL : snL l (x, y, t, s) = [] := by unfold snL; rw [hE]; rfl
    rw [hE, hL]
    rw [decide_eq_false hm] at CM
    clear hE hL h0 hmay hlen hm
    go_enter Try.func7, Try.ntmps7
    go_upto_region 1 with fail
    rw [← HW.out]
    go_wp2_with fail
    refine CK.out.mono ?_
    rintro e w1 ⟨rfl, hb⟩
    have X1 := hid (X0.out.below hb.out X0.out.lt)
    have x0 := X1.out.c0
    have x1 := X1.out.c1
    have x2 := X1.out.c2
    have x3 := X1.out.c3
    go_wp2_with fail
    refine (CM.out _ hb.out).mono ?_
    rintro e w2 ⟨rfl, hb2⟩
    go_wp2
    go_ret2
    exact LstR.none' (gbelow_on (gbelow_on B0.out (Nat.le_refl _) hb.out) (Nat.le_refl _) hb2.out)
  rw [decide_eq_true hm] at CM
  by_cases h16 : 16 ≤ n
  case pos =>
    have hE : snE l (x, y, t, s) = 9 := by unfold snE; rw [if_neg (by simp [h0]), if_neg (fun h => h hm), if_pos (by rw [hl.out]; exact h16)]
    have hL : snL l (x, y, t, s) = [] := by unfold snL; rw [hE]; rfl
    have h16z : (n : Int) ≥ 16 := by omega
    rw [hE, hL]
    clear hE hL h0 hmay hlen hm
    go_enter Try.func7, Try.ntmps7
    go_upto_region 1 with fail
    rw [← HW.out]
    go_wp2_with fail
    refine CK.out.mono ?_
    rintro e w1 ⟨rfl, hb⟩
    have X1 := hid (X0.out.below hb.out X0.out.lt)
    have x0 := X1.out.c0
    have x1 := X1.out.c1
    have x2 := X1.out.c2
    have x3 := X1.out.c3
    go_wp2_with fail
    refine (CM.out _ hb.out).mono ?_
    rintro e w2 ⟨rfl, hb2⟩
    go_wp2
    go_ret2
    exact LstR.none' (gbelow_on (gbelow_on B0.out (Nat.le_refl _) hb.out) (Nat.le_refl _) hb2.out)
  have hE : snE l (x, y, t, s) = 0 := by unfold snE; rw [if_neg (by simp [h0]), if_neg (fun h => h hm), if_neg (by rw [hl.out]; exact h16)]
  have hL : snL l (x, y, t, s) = l ++ [(x, y, t, s)] := by unfold snL; rw [hE]; rfl
  have h16z : ¬ (n : Int) ≥ 16 := by omega
  rw [hE, hL]
  have HMY := hid (show ∀ p ∈ l ++ [(x, y, t, s)], MayC p from fun p hp => by
    rcases List.mem_append.1 hp with h1 | h1
    · exact hmay p h1
    · obtain rfl : p = (x, y, t, s) := by simpa using h1
      exact hm)
  clear hE hL h0 hmay hlen hm
  go_enter Try.func7, Try.ntmps7
  go_upto_region 1 with fail
  rw [← HW.out]
  go_wp2_with fail
  refine CK.out.mono ?_
  rintro e w1 ⟨rfl, hb⟩
  have X1 := hid (X0.out.below hb.out X0.out.lt)
  have x0 := X1.out.c0
  have x1 := X1.out.c1
  have x2 := X1.out.c2
  have x3 := X1.out.c3
  go_wp2_with fail
  refine (CM.out _ hb.out).mono ?_
  rintro e w2 ⟨rfl, hb2⟩
  have B2 := hid (gbelow_on (gbelow_on B0.out (Nat.le_refl _) hb.out) (Nat.le_refl _) hb2.out)
  have X2 := hid (X1.out.below hb2.out X1.out.lt)
  have H2 := hid ((H0.out.on (Nat.le_refl _) hb.out).on (Nat.le_refl _) hb2.out)
  have T2 := hid ((T0.out.on (Nat.le_refl _) hb.out).on (Nat.le_refl _) hb2.out)
  clear x0 x1 x2 x3 X1 X0 CM CK hb hb2 HW H0 T0 B0
  go_upto_region 8 with fail
  have x0 := X2.out.c0
  have x1 := X2.out.c1
  have x2 := X2.out.c2
  have x3 := X2.out.c3
  have HCl : Hid (∀ X, Below w2.heap.size w2 X → X.cell? ⟨w.heap.size, 0, none⟩ = some (.int .i64 x) ∧ X.cell? ⟨w.heap.size, 1, none⟩ = some (.int .i64 y) ∧ X.cell? ⟨w.heap.size, 2, none⟩ = some (.slice D m d) ∧ X.cell? ⟨w.heap.size, 3, none⟩ = some (.bool s)) := hid fun X hX => by
    have := X2.out.below hX X2.out.lt
    exact ⟨this.c0, this.c1, this.c2, this.c3⟩
  obtain ⟨rl, hg, hpr⟩ := H2.out
  have HRL := hid (And.intro hg hpr)
  have HRC := hid (show Crd w2 w2.heap.size (x, y, (D, m, d), s) (x, y, t, s) from Crd.in_ T2.out HF.out)
  clear hg hpr H2 T2 X2
  have HN1 : Hid ((w2.alloc (.cells #[] 25)).drew.heap[w2.heap.size]? = some (.cells #[] 25 (0, 0))) := hid (heap_alloc_new w2 _)
  have HN2 : Hid (((w2.alloc (.cells #[] 25)).alloc (.cells #[.int .i64 x, .int .i64 y, .slice D m d, .bool s] 25)).drew.heap[w2.heap.size]? = some (.cells #[] 25 (0, 0))) := hid (heap_two w2 _ _).1
  have HN3 : Hid (((w2.alloc (.cells #[.int .i64 x, .int .i64 y, .slice D m d, .bool s] 25)).alloc (.cells #[] 25)).drew.heap[w2.heap.size + 1]? = some (.cells #[] 25 (0, 0))) := hid (heap_two w2 _ _).2
  have HM2 : Hid (((w2.alloc (.cells #[] 25)).alloc (.cells #[.int .i64 x, .int .i64 y, .slice D m d, .bool s] 25)).drew.heap[w2.heap.size + 1]? = some (.cells (cellsC [(x, y, (D, m, d), s)]).toArray 25 (0, 0))) := hid (heap_two w2 _ _).2
  have HM3 : Hid (((w2.alloc (.cells #[.int .i64 x, .int .i64 y, .slice D m d, .bool s] 25)).alloc (.cells #[] 25)).drew.heap[w2.heap.size]? = some (.cells (cellsC [(x, y, (D, m, d), s)]).toArray 25 (0, 0))) := hid (heap_two w2 _ _).1
  have HB1 : Hid (Below w2.heap.size w2 (w2.alloc (.cells #[] 25)).drew) := hid (((Below.refl _ w2).alloc (Nat.le_refl _) _).drew)
  have HB2 : Hid (Below w2.heap.size w2 ((w2.alloc (.cells #[] 25)).alloc (.cells #[.int .i64 x, .int .i64 y, .slice D m d, .bool s] 25)).drew) := hid ((below_two w2 _ _).drew)
  have HB3 : Hid (Below w2.heap.size w2 ((w2.alloc (.cells #[.int .i64 x, .int .i64 y, .slice D m d, .bool s] 25)).alloc (.cells #[] 25)).drew) := hid ((below_two w2 _ _).drew)
  have HS1 : Hid (∀ X, Below w2.heap.size w2 X → Gs X w2.heap.size A n c 4 (cellsC rl)) := hid fun X hX => HRL.out.1.below hX
  have HE1 := hid (fun (X : World) (g : Nat) (hg : X.heap[g]? = some (.cells #[] 25 (0, 0))) (hB : w2.heap.size ≤ g) => (Gw.none' (c := 0) hg hB (by unfold maxLen; omega) rfl : Gw X w2.heap.size 25 4 (.slice (some ⟨g, 0, none⟩) 0 0) 0 []))
  have HG1 := hid (fun (X : World) (g : Nat) (hg : X.heap[g]? = some (.cells (cellsC [(x, y, (D, m, d), s)]).toArray 25 (0, 0))) => (Gs.new (B := X.heap.size) (n := 1) (c := 1) (k := 4) hg (lt_of_heap hg) rfl (Nat.le_refl _) (by omega) : Gs X X.heap.size (some ⟨g, 0, none⟩) 1 1 4 (cellsC [(x, y, (D, m, d), s)])))
  have HB0 : Hid (Below w2.heap.size w2 w2.drew) := hid (Below.refl _ w2).drew
  have HB4 : Hid (Below w2.heap.size w2 (w2.alloc (.cells #[.int .i64 x, .int .i64 y, .slice D m d, .bool s] 25)).drew) := hid (((Below.refl _ w2).alloc (Nat.le_refl _) _).drew)
  go_region_held3 (fun X => X.cell? ⟨w.heap.size, 0, none⟩ = some (.int .i64 x) ∧ X.cell? ⟨w.heap.size, 1, none⟩ = some (.int .i64 y) ∧ X.cell? ⟨w.heap.size, 2, none⟩ = some (.slice D m d) ∧ X.cell? ⟨w.heap.size, 3, none⟩ = some (.bool s))
    (first
    | with_reducible exact HCl.out _ HBy.out
    | with_reducible exact HCl.out _ HBx.out
    | with_reducible exact HCl.out _ (HBw.out.alloc HBw.out.size _)
    | with_reducible exact HCl.out _ HBw.out
    | with_reducible exact HCl.out _ HB0.out
    | with_reducible exact HCl.out _ HB1.out
    | with_reducible exact HCl.out _ HB4.out
    | with_reducible exact HCl.out _ HB2.out
    | with_reducible exact HCl.out _ HB3.out)
    (first
    | (refine step_appC rfl (.tmp 18) (.tmp 19) rfl rfl rfl (v := .slice (some ⟨w2.heap.size, 0, none⟩) 0 0) (B := w2.heap.size) (C := w2.heap.size) (cs := []) (rs := rl) (by first | with_reducible exact HE1.out _ _ HN1.out (Nat.le_refl _) | with_reducible exact HE1.out _ _ HN2.out (Nat.le_refl _)) (by first | with_reducible exact HS1.out _ HB1.out | with_reducible exact HS1.out _ HB2.out) (by omega) (by first | with_reducible exact HB1.out.size | with_reducible exact HB2.out.size) ?_
       intro v34 w34 HT1
       rw [Nat.zero_add, List.nil_append] at HT1
       have HO34 := hid HT1.out.own
       have HBw : Hid (Below w2.heap.size w2 w34) := hid (by first | with_reducible exact HB1.out.trans (HT1.out.below (HE1.out _ _ HN1.out (Nat.le_refl _)) HB1.out.size) | with_reducible exact HB2.out.trans (HT1.out.below (HE1.out _ _ HN2.out (Nat.le_refl _)) HB2.out.size))
       have x0 := (HCl.out _ HBw.out).1
       have x1 := (HCl.out _ HBw.out).2.1
       have x2 := (HCl.out _ HBw.out).2.2.1
       have x3 := (HCl.out _ HBw.out).2.2.2
       try (have HMx := hid ((HT1.out.grown.block (w2.heap.size + 1) (lt_of_heap HM2.out) (by simp [Value.ownBlock])).trans HM2.out)))
    | (refine step_appC rfl (.tmp 18) (.tmp 19) rfl rfl rfl (v := .slice (some ⟨w2.heap.size + 1, 0, none⟩) 0 0) (B := w2.heap.size) (C := w2.heap.size) (cs := []) (rs := rl) (by first | with_reducible exact HE1.out _ _ HN3.out (Nat.le_succ _)) (by first | with_reducible exact HS1.out _ HB3.out) (by omega) (by first | with_reducible exact HB3.out.size) ?_
       intro v34 w34 HT1
       rw [Nat.zero_add, List.nil_append] at HT1
       have HO34 := hid HT1.out.own
       have HBw : Hid (Below w2.heap.size w2 w34) := hid (by first | with_reducible exact HB3.out.trans (HT1.out.below (HE1.out _ _ HN3.out (Nat.le_succ _)) HB3.out.size))
       have x0 := (HCl.out _ HBw.out).1
       have x1 := (HCl.out _ HBw.out).2.1
       have x2 := (HCl.out _ HBw.out).2.2.1
       have x3 := (HCl.out _ HBw.out).2.2.2
       try (have HMx := hid ((HT1.out.grown.block w2.heap.size (lt_of_heap HM3.out) (by simp [Value.ownBlock])).trans HM3.out)))
    | (refine step_appC rfl (.tmp 20) (.tmp 22) rfl rfl rfl (v := v34) (B := w2.heap.size) (cs := cellsC rl) (rs := [(x, y, (D, m, d), s)]) (by first | with_reducible exact HO34.out | with_reducible exact HO34.out.below ((Below.refl _ _).alloc (Nat.le_refl _) _)) (by first | with_reducible exact HG1.out _ _ HMx.out | with_reducible exact HG1.out _ _ (heap_alloc_new w34 _)) (by omega) (by first | with_reducible exact HBw.out.size | with_reducible exact (HBw.out.alloc HBw.out.size _).size) ?_
       intro v40 w40 HT2
       have HBx : Hid (Below w2.heap.size w2 w40) := hid (by first | with_reducible exact HBw.out.trans (HT2.out.below HO34.out HBw.out.size) | with_reducible exact (HBw.out.alloc HBw.out.size _).trans (HT2.out.below (HO34.out.below ((Below.refl _ _).alloc (Nat.le_refl _) _)) (HBw.out.alloc HBw.out.size _).size))
       obtain ⟨A40, c40, rfl, g40, m40, a40, o40⟩ := HT2.out.own.form
       have HCL := hid (cls_join HRL.out.2 HRC.out HBx.out HT2.out.own)
       clear HT2 g40 m40 a40 o40)
    | (go_at_call 5
       with_reducible refine (twin_own HCL.out (Nat.le_refl _) (by omega) HMY.out).mono ?_
       rintro e w50 ⟨A50, c50, rs50, rfl, h50⟩
       have HBy := hid (HBx.out.trans (h50.out.2.mono HBx.out.size))))
  all_goals
    go_wp2
    go_ret2
    exact ⟨A50, _, c50, rs50, rfl, hid ⟨h50.out.1.mono (fun q hq => Nat.le_trans (Nat.le_trans B2.out.size HBx.out.size) hq), gbelow_on B2.out (Nat.le_refl _) HBy.out, by rw [List.length_append, hl.out]; rfl⟩⟩
end Go.Proofs.Ytbpijlghdpflgaa.Eth
