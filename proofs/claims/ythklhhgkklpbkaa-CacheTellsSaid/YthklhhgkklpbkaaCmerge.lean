/- The document's Merge. -/
import Derived.Test.YthklhhgkklpbkaaCtake
namespace Go.Proofs.Ythklhhgkklpbkaa
open Go.RowKit Go.Shelf Go.Lib

/-- What Merge answers. -/
def mgE (o p : Int) (l r : List De) : Int := if CMay o p l then if chk r = 0 then if 64 < l.length + r.length then 4 else 0 else chk r else 8
def mgO (o p : Int) (l r : List De) : Int := if mgE o p l r = 0 then o else 0
def mgP (o p : Int) (l r : List De) : Int := if mgE o p l r = 0 then p else 0
def mgL (o p : Int) (l r : List De) : List De := if mgE o p l r = 0 then tkn o p.toNat l r else []
theorem mg_bad {o p x : Int} {l r : List De} (h : mgE o p l r = x) (hx : x ≠ 0) : mgO o p l r = 0 ∧ mgP o p l r = 0 ∧ mgL o p l r = [] := by
  unfold mgO mgP mgL
  rw [h, if_neg hx, if_neg hx, if_neg hx]
  exact ⟨rfl, rfl, rfl⟩

set_option maxHeartbeats 6400000 in
set_option maxRecDepth 100000 in
theorem rcmerge_any {w : World} {B C n c m d : Nat} {A D : Option Addr} {l r : List De} (o p : Int) (h : Ds w B A n c l) (k : Ds w C D m d r) (hB : B ≤ w.heap.size) (hC : C ≤ w.heap.size) :
    Calls Try.prog 15 #[cav o p (.slice A n c), .slice D m d] w fun e w' => ∃ v, e = .returned (.tuple #[cav (mgO o p l r) (mgP o p l r) v, .int .i64 (mgE o p l r)]) ∧ Hid (Od w' w.heap.size v (mgL o p l r) ∧ Below w.heap.size w w') := by
  have H := hid (h.mono hB)
  have K := hid (k.mono hC)
  have HL := hid h.len
  have HR := hid k.len
  have hcap := h.cap
  have hcap2 := k.cap
  clear h hB k hC
  obtain ⟨W, hW⟩ : ∃ W, W = (w.alloc (.cells #[.int .i64 o, .int .i64 p, .slice A n c] 24)).alloc (.cells #[.int .i64 0, .int .i64 0, .slice none 0 0] 24) := ⟨_, rfl⟩
  have B0 := hid (show Below w.heap.size w W from hW ▸ ((Below.refl _ w).alloc (Nat.le_refl _) _).alloc (by simp) _)
  have hz : W.heap.size = w.heap.size + 1 + 1 := by rw [hW]; simp
  have X0 := hid (show Cbox W w.heap.size o p (.slice A n c) from hW ▸ heap2_0 w _ _)
  have X1 := hid (show Cbox W (w.heap.size + 1) 0 0 (.slice none 0 0) from hW ▸ heap2_1 w _ _)
  have HW := hid hW
  clear hW
  have CM := hid (rmay_any o p (H.out.below B0.out) B0.out.size)
  have x0 := X0.out.c0
  have x1 := X0.out.c1
  have x2 := X0.out.c2
  by_cases hq : CMay o p l
  case neg =>
    rw [decide_eq_false hq] at CM
    have hE : mgE o p l r = 8 := by unfold mgE; rw [if_neg hq]
    obtain ⟨e1, e2, e3⟩ := mg_bad hE (by decide)
    rw [hE, e1, e2, e3]
    clear hq hE e1 e2 e3
    unfold cav at CM ⊢
    go_enter Try.func15, Try.ntmps15
    go_upto_region 1 with fail
    rw [← HW.out]
    clear HW
    go_wp2_with fail
    refine CM.out.mono ?_
    rintro e w1 ⟨rfl, hb⟩
    have Y1 := hid (X1.out.below hb.out (by omega))
    have y0 := Y1.out.c0
    have y1 := Y1.out.c1
    have y2 := Y1.out.c2
    have z0 := Y1.out.frozen 0
    have z1 := Y1.out.frozen 1
    have z2 := Y1.out.frozen 2
    have B1 := hid (B0.out.trans (hb.out.mono B0.out.size))
    go_wp2
    refine ret_cache (g := w.heap.size + 1) (o := 0) (q := 0) (v := .slice none 0 0) rfl rfl rfl rfl Y1.out.store ?_
    exact ⟨_, rfl, hid ⟨Od.nil _ _, below_putC B1.out (by omega)⟩⟩
  rw [decide_eq_true hq] at CM
  have hn6 : n ≤ 6 := by
    obtain ⟨_, _, _, a4, a5, _⟩ := hq
    have := HL.out
    omega
  obtain ⟨p', rfl⟩ : ∃ p' : Nat, p = (p' : Int) := ⟨p.toNat, by obtain ⟨_, _, a3, _⟩ := hq; omega⟩
  have CK := hid (fun X (hb : Below w.heap.size w X) => rcheck_any (K.out.below hb) hb.size)
  have HX := hid (fun X (hb : Below W.heap.size W X) => X0.out.below hb X0.out.lt)
  have HY := hid (fun X (hb : Below W.heap.size W X) => X1.out.below hb X1.out.lt)
  obtain ⟨x, hx⟩ : ∃ x, x = chk r := ⟨_, rfl⟩
  rw [← hx] at CK
  by_cases hx0 : x = 0
  case neg =>
    have hE : mgE o p' l r = x := by unfold mgE; rw [if_pos hq, ← hx, if_neg hx0]
    obtain ⟨e1, e2, e3⟩ := mg_bad hE hx0
    rw [hE, e1, e2, e3]
    clear hq hE e1 e2 e3 hx
    unfold cav at CM ⊢
    go_enter Try.func15, Try.ntmps15
    go_upto_region 1 with fail
    rw [← HW.out]
    clear HW
    go_wp2_with fail
    refine CM.out.mono ?_
    rintro e w1 ⟨rfl, hb⟩
    have B1 := hid (B0.out.trans (hb.out.mono B0.out.size))
    go_wp2_with fail
    refine (CK.out _ B1.out).mono ?_
    rintro e w2 ⟨rfl, hb2⟩
    have B2 := hid (B1.out.trans (hb2.out.mono B1.out.size))
    go_wp2_with fail
    refine (CK.out _ B2.out).mono ?_
    rintro e w3 ⟨rfl, hb3⟩
    have B3 := hid (B2.out.trans (hb3.out.mono B2.out.size))
    have BW := hid (hb.out.trans ((hb2.out.mono hb.out.size).trans (hb3.out.mono (Nat.le_trans hb.out.size hb2.out.size))))
    have Y1 := hid (HY.out _ BW.out)
    have y0 := Y1.out.c0
    have y1 := Y1.out.c1
    have y2 := Y1.out.c2
    have z0 := Y1.out.frozen 0
    have z1 := Y1.out.frozen 1
    have z2 := Y1.out.frozen 2
    go_wp2
    refine ret_cache (g := w.heap.size + 1) (o := 0) (q := 0) (v := .slice none 0 0) rfl rfl rfl rfl Y1.out.store ?_
    exact ⟨_, rfl, hid ⟨Od.nil _ _, below_putC B3.out (by omega)⟩⟩
  subst hx0
  have hm64 : m ≤ 64 := by
    have h1 := (chk_zero.1 hx.symm).1
    rw [HR.out] at h1
    exact h1
  have hs1 : IntKind.i64.wrap ((n : Int) + (m : Int)) = ((n + m : Nat) : Int) := by rw [IntKind.wrap_i64]; omega
  by_cases hnm : 64 < n + m
  · have hE : mgE o p' l r = 4 := by unfold mgE; rw [if_pos hq, ← hx, if_pos rfl, HL.out, HR.out, if_pos hnm]
    obtain ⟨e1, e2, e3⟩ := mg_bad hE (by decide)
    rw [hE, e1, e2, e3]
    clear hq hE e1 e2 e3 hx
    have hnz : ((n + m : Nat) : Int) > 64 := by omega
    unfold cav at CM ⊢
    go_enter Try.func15, Try.ntmps15
    go_upto_region 1 with fail
    rw [← HW.out]
    clear HW
    go_wp2_with fail
    refine CM.out.mono ?_
    rintro e w1 ⟨rfl, hb⟩
    have B1 := hid (B0.out.trans (hb.out.mono B0.out.size))
    go_wp2_with fail
    refine (CK.out _ B1.out).mono ?_
    rintro e w2 ⟨rfl, hb2⟩
    have B2 := hid (B1.out.trans (hb2.out.mono B1.out.size))
    have BW := hid (hb.out.trans (hb2.out.mono hb.out.size))
    have Y1 := hid (HY.out _ BW.out)
    have X2 := hid (HX.out _ BW.out)
    clear x0 x1 x2
    have x2 := X2.out.c2
    have y0 := Y1.out.c0
    have y1 := Y1.out.c1
    have y2 := Y1.out.c2
    have z0 := Y1.out.frozen 0
    have z1 := Y1.out.frozen 1
    have z2 := Y1.out.frozen 2
    go_wp2
    refine ret_cache (g := w.heap.size + 1) (o := 0) (q := 0) (v := .slice none 0 0) rfl rfl rfl rfl Y1.out.store ?_
    exact ⟨_, rfl, hid ⟨Od.nil _ _, below_putC B2.out (by omega)⟩⟩
  have hE : mgE o p' l r = 0 := by unfold mgE; rw [if_pos hq, ← hx, if_pos rfl, HL.out, HR.out, if_neg hnm]
  have e1 : mgO o p' l r = o := by unfold mgO; rw [if_pos hE]
  have e2 : mgP o p' l r = (p' : Int) := by unfold mgP; rw [if_pos hE]
  have e3 : mgL o p' l r = tkn o p' l r := by unfold mgL; rw [if_pos hE]; rfl
  rw [hE, e1, e2, e3]
  clear hq hE e1 e2 e3 hx
  have hnz : ¬ ((n + m : Nat) : Int) > 64 := by omega
  have CT := hid (fun X (hb : Below w.heap.size w X) => rctaken_any o p' (H.out.below hb) (K.out.below hb) hb.size hb.size (by omega))
  unfold cav at CM CT ⊢
  go_enter Try.func15, Try.ntmps15
  go_upto_region 1 with fail
  rw [← HW.out]
  clear HW
  go_wp2_with fail
  refine CM.out.mono ?_
  rintro e w1 ⟨rfl, hb⟩
  have B1 := hid (B0.out.trans (hb.out.mono B0.out.size))
  go_wp2_with fail
  refine (CK.out _ B1.out).mono ?_
  rintro e w2 ⟨rfl, hb2⟩
  have B2 := hid (B1.out.trans (hb2.out.mono B1.out.size))
  have BW := hid (hb.out.trans (hb2.out.mono hb.out.size))
  have Y2 := hid (HY.out _ BW.out)
  have X2 := hid (HX.out _ BW.out)
  clear x0 x1 x2
  have x0 := X2.out.c0
  have x1 := X2.out.c1
  have x2 := X2.out.c2
  go_wp2_with fail
  refine (CT.out _ B2.out).mono ?_
  rintro e w3 ⟨v, rfl, hv⟩
  have B3 := hid (B2.out.trans (hv.out.2.mono B2.out.size))
  have hv1 := hid (Nat.le_trans X2.out.lt hv.out.2.size)
  have Y1 := hid (Y2.out.below hv.out.2 Y2.out.lt)
  have HO := hid (hv.out.1.mono (show w.heap.size + 2 ≤ w2.heap.size from Y2.out.lt))
  clear hv hv1
  obtain ⟨A3, c3, rfl, _, _, _⟩ := HO.out.form
  have y0 := Y1.out.c0
  have y1 := Y1.out.c1
  have y2 := Y1.out.c2
  have z0 := Y1.out.frozen 0
  have z1 := Y1.out.frozen 1
  have z2 := Y1.out.frozen 2
  go_wp2
  refine ret_cache (g := w.heap.size + 1) (o := o) (q := p') (v := .slice A3 (tkn o p' l r).length c3) rfl rfl rfl rfl Y1.out.store ?_
  exact ⟨_, rfl, hid ⟨(HO.out.putC (by omega)).mono (by omega), below_putC B3.out (by omega)⟩⟩
end Go.Proofs.Ythklhhgkklpbkaa
