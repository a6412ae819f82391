/- Merge of caches. -/
import Derived.Test.YthklhhgkklpbkaaCchk
import Derived.Test.YthklhhgkklpbkaaCmerge
namespace Go.Proofs.Ythklhhgkklpbkaa
open Go.RowKit Go.Shelf Go.Lib

theorem tkn_bst {o : Int} {q : Nat} {l r : List De} (hl : chk l = 0) (hr : chk r = 0) (h : l.length + r.length ≤ 64) : (bst (oth o (l ++ r))).take q = tkn o q l r := by
  have h1 : chk (l ++ r) = 0 := chk_zero.2 ⟨by rw [List.length_append]; omega, by rw [List.any_append, (chk_zero.1 hl).2, (chk_zero.1 hr).2]; rfl⟩
  have hb : bst (oth o (l ++ r)) = top (oth o (l ++ r)) := if_pos (oth_chk h1)
  rw [hb]
  rfl

set_option maxHeartbeats 6400000 in
set_option maxRecDepth 100000 in
theorem cmerge_any {w : World} {B C n c m d : Nat} {A D : Option Addr} {l r : List De} (o p : Int) (h : Ds w B A n c l) (k : Ds w C D m d r) (hB : B ≤ w.heap.size) (hC : C ≤ w.heap.size) :
    Calls Try.prog 11 #[cav o p (.slice A n c), .slice D m d] w fun e w' => ∃ v, e = .returned (.tuple #[cav (mgO o p l r) (mgP o p l r) v, .int .i64 (mgE o p l r)]) ∧ Hid (Od w' w.heap.size v (mgL o p l r) ∧ Below w.heap.size w w') := by
  have H := hid (h.mono hB)
  have K := hid (k.mono hC)
  have HL := hid h.len
  have HR := hid k.len
  have hcap := h.cap
  have hcap2 := k.cap
  clear h hB k hC
  obtain ⟨W, hW⟩ : ∃ W, W = (w.alloc (.cells #[.int .i64 o, .int .i64 p, .slice A n c] 24)).alloc (.cells #[.int .i64 0, .int .i64 0, .slice none 0 0] 24) := ⟨_, rfl⟩
  have B0 := hid (show Below w.heap.size w W from hW ▸ ((Below.refl _ w).alloc (Nat.le_refl _) _).alloc (by simp) _)
  have hz : W.heap.size = w.heap.size + 1 + 1 := by rw [hW]; simp
  have X0 := hid (show Cbox W w.heap.size o p (.slice A n c) from hW ▸ heap2_0 w _ _)
  have X1 := hid (show Cbox W (w.heap.size + 1) 0 0 (.slice none 0 0) from hW ▸ heap2_1 w _ _)
  have HW := hid hW
  clear hW
  have CM := hid (ccheck_any o p (H.out.below B0.out) B0.out.size)
  have x0 := X0.out.c0
  have x1 := X0.out.c1
  have x2 := X0.out.c2
  by_cases hq : CMay o p l
  case neg =>
    rw [show cchk o p l = 8 from if_neg hq] at CM
    have hE : mgE o p l r = 8 := by unfold mgE; rw [if_neg hq]
    obtain ⟨e1, e2, e3⟩ := mg_bad hE (by decide)
    rw [hE, e1, e2, e3]
    clear hq hE e1 e2 e3
    unfold cav at CM ⊢
    go_enter Try.func11, Try.ntmps11
    go_upto_region 1 with fail
    rw [← HW.out]
    clear HW
    go_wp2_with fail
    refine CM.out.mono ?_
    rintro e w1 ⟨rfl, hb⟩
    have Y1 := hid (X1.out.below hb.out (by omega))
    have y0 := Y1.out.c0
    have y1 := Y1.out.c1
    have y2 := Y1.out.c2
    have z0 := Y1.out.frozen 0
    have z1 := Y1.out.frozen 1
    have z2 := Y1.out.frozen 2
    have B1 := hid (B0.out.trans (hb.out.mono B0.out.size))
    go_wp2
    refine ret_cache (g := w.heap.size + 1) (o := 0) (q := 0) (v := .slice none 0 0) rfl rfl rfl rfl Y1.out.store ?_
    exact ⟨_, rfl, hid ⟨Od.nil _ _, below_putC B1.out (by omega)⟩⟩
  rw [show cchk o p l = 0 from if_pos hq] at CM
  have hn6 : n ≤ 6 := by
    obtain ⟨_, _, _, a4, a5, _⟩ := hq
    have := HL.out
    omega
  obtain ⟨p', rfl⟩ : ∃ p' : Nat, p = (p' : Int) := ⟨p.toNat, by obtain ⟨_, _, a3, _⟩ := hq; omega⟩
  have CK := hid (fun X (hb : Below w.heap.size w X) => check_any (K.out.below hb) hb.size)
  have HX := hid (fun X (hb : Below W.heap.size W X) => X0.out.below hb X0.out.lt)
  have HY := hid (fun X (hb : Below W.heap.size W X) => X1.out.below hb X1.out.lt)
  obtain ⟨x, hx⟩ : ∃ x, x = chk r := ⟨_, rfl⟩
  rw [← hx] at CK
  by_cases hx0 : x = 0
  case neg =>
    have hE : mgE o p' l r = x := by unfold mgE; rw [if_pos hq, ← hx, if_neg hx0]
    obtain ⟨e1, e2, e3⟩ := mg_bad hE hx0
    rw [hE, e1, e2, e3]
    clear hq hE e1 e2 e3 hx
    unfold cav at CM ⊢
    go_enter Try.func11, Try.ntmps11
    go_upto_region 1 with fail
    rw [← HW.out]
    clear HW
    go_wp2_with fail
    refine CM.out.mono ?_
    rintro e w1 ⟨rfl, hb⟩
    have B1 := hid (B0.out.trans (hb.out.mono B0.out.size))
    go_wp2_with fail
    refine (CK.out _ B1.out).mono ?_
    rintro e w2 ⟨rfl, hb2⟩
    have B2 := hid (B1.out.trans (hb2.out.mono B1.out.size))
    have BW := hid (hb.out.trans (hb2.out.mono hb.out.size))
    have Y1 := hid (HY.out _ BW.out)
    have y0 := Y1.out.c0
    have y1 := Y1.out.c1
    have y2 := Y1.out.c2
    have z0 := Y1.out.frozen 0
    have z1 := Y1.out.frozen 1
    have z2 := Y1.out.frozen 2
    go_wp2
    refine ret_cache (g := w.heap.size + 1) (o := 0) (q := 0) (v := .slice none 0 0) rfl rfl rfl rfl Y1.out.store ?_
    exact ⟨_, rfl, hid ⟨Od.nil _ _, below_putC B2.out (by omega)⟩⟩
  subst hx0
  have hm64 : m ≤ 64 := by
    have h1 := (chk_zero.1 hx.symm).1
    rw [HR.out] at h1
    exact h1
  have hs1 : IntKind.i64.wrap ((n : Int) + (m : Int)) = ((n + m : Nat) : Int) := by rw [IntKind.wrap_i64]; omega
  by_cases hnm : 64 < n + m
  · have hE : mgE o p' l r = 4 := by unfold mgE; rw [if_pos hq, ← hx, if_pos rfl, HL.out, HR.out, if_pos hnm]
    obtain ⟨e1, e2, e3⟩ := mg_bad hE (by decide)
    rw [hE, e1, e2, e3]
    clear hq hE e1 e2 e3 hx
    have hnz : ((n + m : Nat) : Int) > 64 := by omega
    unfold cav at CM ⊢
    go_enter Try.func11, Try.ntmps11
    go_upto_region 1 with fail
    rw [← HW.out]
    clear HW
    go_wp2_with fail
    refine CM.out.mono ?_
    rintro e w1 ⟨rfl, hb⟩
    have B1 := hid (B0.out.trans (hb.out.mono B0.out.size))
    go_wp2_with fail
    refine (CK.out _ B1.out).mono ?_
    rintro e w2 ⟨rfl, hb2⟩
    have B2 := hid (B1.out.trans (hb2.out.mono B1.out.size))
    have BW := hid (hb.out.trans (hb2.out.mono hb.out.size))
    have Y1 := hid (HY.out _ BW.out)
    have X2 := hid (HX.out _ BW.out)
    clear x0 x1 x2
    have x2 := X2.out.c2
    have y0 := Y1.out.c0
    have y1 := Y1.out.c1
    have y2 := Y1.out.c2
    have z0 := Y1.out.frozen 0
    have z1 := Y1.out.frozen 1
    have z2 := Y1.out.frozen 2
    go_wp2
    refine ret_cache (g := w.heap.size + 1) (o := 0) (q := 0) (v := .slice none 0 0) rfl rfl rfl rfl Y1.out.store ?_
    exact ⟨_, rfl, hid ⟨Od.nil _ _, below_putC B2.out (by omega)⟩⟩
  have hE : mgE o p' l r = 0 := by unfold mgE; rw [if_pos hq, ← hx, if_pos rfl, HL.out, HR.out, if_neg hnm]
  have e1 : mgO o p' l r = o := by unfold mgO; rw [if_pos hE]
  have e2 : mgP o p' l r = (p' : Int) := by unfold mgP; rw [if_pos hE]
  have e3 : mgL o p' l r = tkn o p' l r := by unfold mgL; rw [if_pos hE]; rfl
  rw [hE, e1, e2, e3]
  have HTK := hid (tkn_bst (o := o) (q := p') hq.2.2.2.2.2.1 hx.symm (by rw [HL.out, HR.out]; omega))
  clear hq hE e1 e2 e3 hx
  have hnz : ¬ ((n + m : Nat) : Int) > 64 := by omega
  unfold cav at CM ⊢
  go_enter Try.func11, Try.ntmps11
  go_upto_region 1 with fail
  rw [← HW.out]
  clear HW
  go_wp2_with fail
  refine CM.out.mono ?_
  rintro e w1 ⟨rfl, hb⟩
  have B1 := hid (B0.out.trans (hb.out.mono B0.out.size))
  go_wp2_with fail
  refine (CK.out _ B1.out).mono ?_
  rintro e w2 ⟨rfl, hb2⟩
  have B2 := hid (B1.out.trans (hb2.out.mono B1.out.size))
  have BW := hid (hb.out.trans (hb2.out.mono hb.out.size))
  have Y2 := hid (HY.out _ BW.out)
  have X2 := hid (HX.out _ BW.out)
  clear x0 x1 x2
  have x0 := X2.out.c0
  have x1 := X2.out.c1
  have x2 := X2.out.c2
  go_upto_region 10 with fail
  obtain ⟨W3, hW3⟩ : ∃ W3, W3 = w2.alloc (.cells #[.int .i64 o, .int .i64 (p' : Int), .slice A n c] 56) := ⟨_, rfl⟩
  rw [← hW3]
  have b3 := hid (show Below w2.heap.size w2 W3 from hW3 ▸ (Below.refl _ w2).alloc (Nat.le_refl _) _)
  have G3 := hid (show Gbox W3 w2.heap.size o (p' : Int) (.slice A n c) from hW3 ▸ heap_alloc_new w2 _)
  have hz3 := hid (show W3.heap.size = w2.heap.size + 1 from by rw [hW3]; simp)
  have X3 := hid (X2.out.below b3.out X2.out.lt)
  have Y3 := hid (Y2.out.below b3.out Y2.out.lt)
  have B3 := hid (B2.out.trans (b3.out.mono B2.out.size))
  have x3 := X3.out.c2
  obtain ⟨W4, hW4⟩ : ∃ W4, W4 = W3.alloc (.cells #[.slice A n c, .slice D m d] 22) := ⟨_, rfl⟩
  have b4 := hid (show Below W3.heap.size W3 W4 from hW4 ▸ (Below.refl _ W3).alloc (Nat.le_refl _) _)
  have hz4 := hid (show W4.heap.size = W3.heap.size + 1 from by rw [hW4]; simp)
  have G4 := hid (G3.out.below b4.out G3.out.lt)
  have Y4 := hid (Y3.out.below b4.out Y3.out.lt)
  have B4 := hid (B3.out.trans (b4.out.mono B3.out.size))
  have D4 := hid ((H.out.below B4.out).mono B4.out.size)
  have E4 := hid ((K.out.below B4.out).mono B4.out.size)
  have hrow : W4.heap[W3.heap.size]? = some (.cells #[.slice A n c, .slice D m d] 22 (0, 0)) := hW4 ▸ heap_alloc_new W3 _
  have CG := hid (keep_any (w := W4) (b := W3.heap.size) (off := 0) (k := 2) (c := 2) o p' (fun j => if j = 0 then (A, n, c) else (D, m, d)) (fun j => if j = 0 then l else r) G4.out (fun j hj => by
    match j, hj with
    | 0, _ => exact ⟨(cell_of_row W4 _ 0 _ _ (0, 0) hrow).trans rfl, D4.out⟩
    | 1, _ => exact ⟨(cell_of_row W4 _ 1 _ _ (0, 0) hrow).trans rfl, E4.out⟩) (by have := hz4.out; omega) (by omega) (Nat.le_refl _) (by
      show (([] ++ l) ++ r).length ≤ 100000
      have := HL.out
      have := HR.out
      rw [List.nil_append, List.length_append]
      omega))
  change Hid (Calls _ _ _ W4 fun e w' => e = .returned (.tuple #[]) ∧ ∃ v, Hid (Gbox w' w2.heap.size o (p' : Int) v ∧ Od w' W4.heap.size v ((bst (oth o (l ++ r))).take p') ∧ W4.grownBy w' (some w2.heap.size))) at CG
  rw [HTK.out] at CG
  have HW4 := hid hW4
  have hlt2 := Y2.out.lt
  clear hW4 hrow hW3 X2 X3 Y2 Y3 B2 G3 x0 x1 x2 HTK
  go_wp2_with fail
  rw [← HW4.out]
  refine CG.out.mono ?_
  rintro e w5 ⟨rfl, v, HV⟩
  have Y5 := hid (show Cbox w5 (w.heap.size + 1) 0 0 (.slice none 0 0) from (HV.out.2.2.block _ Y4.out.lt (fun e => by have := Option.some.inj e; omega)).trans Y4.out)
  have B5 := hid (B4.out.trans (⟨HV.out.2.2.os, HV.out.2.2.tape, HV.out.2.2.output, HV.out.2.2.size, fun j hj => HV.out.2.2.block j (by have := B4.out.size; omega) (fun e => by have := Option.some.inj e; omega)⟩))
  have G5 := hid HV.out.1
  have HO := hid HV.out.2.1
  have hlt4 := Y4.out.lt
  clear HV CG Y4 B4 G4 D4 E4
  obtain ⟨A5, c5, hv5, _, _, _⟩ := HO.out.form
  obtain ⟨m5, hm5⟩ : ∃ m5, m5 = (tkn o p' l r).length := ⟨_, rfl⟩
  rw [← hm5] at hv5
  clear hm5
  subst hv5
  have x0 := G5.out.c0
  have x1 := G5.out.c1
  have x2 := G5.out.c2
  have y0 := Y5.out.c0
  have y1 := Y5.out.c1
  have y2 := Y5.out.c2
  have z0 := Y5.out.frozen 0
  have z1 := Y5.out.frozen 1
  have z2 := Y5.out.frozen 2
  go_wp2
  refine ret_cache (g := w.heap.size + 1) (o := o) (q := p') (v := .slice A5 m5 c5) rfl rfl rfl rfl Y5.out.store ?_
  exact ⟨_, rfl, hid ⟨(HO.out.putC (by omega)).mono (by have := b4.out.size; have := b3.out.size; omega), below_putC B5.out (by omega)⟩⟩
end Go.Proofs.Ythklhhgkklpbkaa
