/- RatioNames, walked. -/
import Derived.Test.YtndehapggbmndaaDoorRal
namespace Go.Proofs.YtndehapggbmndaaDoor
open Go.RowKit

theorem DRes.bade {w w' : World} {E : Int → Prop} {R er0 : Int} {e : Ending} (h : DRes w E R e w') (h0 : ∀ er, E er → er = er0) : ∃ s A n c x, e = .returned (.tuple #[.agg #[.bool s, .slice A n c, .int .i64 x], .int .i64 er0]) ∧ Hid (Below w.heap.size w w') := by
  obtain ⟨d, er, rfl, HE, HD, HB⟩ := h
  obtain rfl := h0 _ HE.out
  obtain ⟨s, A, n, c, x, rfl⟩ := HD.out.parts
  exact ⟨s, A, n, c, x, rfl, HB⟩
theorem DArg.bad0 (w : World) : DArg w False 0 (.agg #[.bool true, .slice none 0 0, .int .i64 0]) :=
  ⟨true, none, 0, 0, fun _ => 0, 0, rfl, Rd.nil w _, ⟨fun h => h.elim, fun h => absurd (h.2.2.2.1 rfl) (by decide)⟩, fun h => h.elim⟩
/-- One limb, in a row of its own. -/
def lone (k x j : Nat) : Nat := if j = k then x else 0
theorem vl_lone (k x : Nat) : vl (lone k x) (k + 1) = x * pw k := by
  rw [vl_succ, show vl (lone k x) k = 0 from ?_]
  · simp [lone]
  · rw [vl_congr (f := lone k x) (g := fun _ => 0) (k := k) (fun j hj => if_neg (by omega))]
    have : ∀ n, vl (fun _ => 0) n = 0 := fun n => by
      induction n with
      | zero => rfl
      | succ n ih => rw [vl_succ, ih, Nat.zero_mul]
    exact this k
theorem Blk.lone {w : World} {e : TypeId} {g k : Nat} (h : Blk w e g (k + 1) (lone k 1)) (hk : k ≤ 39) : Rd w w.heap.size (some ⟨g, 0, none⟩) (k + 1) (k + 1) (Proofs.YtndehapggbmndaaDoor.lone k 1) :=
  h.rd h.lt (by omega) (fun j => by unfold Proofs.YtndehapggbmndaaDoor.lone; split <;> omega) (fun j hj => if_neg (by omega))
theorem darg_lone {w : World} {e : TypeId} {g k X : Nat} (h : Blk w e g (k + 1) (lone k 1)) (hk : k ≤ 39) (hX : X ≤ 1024) (h0 : 0 < X → k = 0) : DArg w True ((pw k * tp (4000 - X) : Nat) : Int) (.agg #[.bool false, .slice (some ⟨g, 0, none⟩) (k + 1) (k + 1), .int .i64 (X : Int)]) := by
  refine ⟨false, _, k + 1, k + 1, lone k 1, (X : Int), rfl, h.lone hk, ⟨fun _ => ⟨⟨by omega, fun _ => ?_⟩, by omega, by omega, fun h => by omega, fun hx => ?_⟩, fun _ => trivial⟩, fun _ => ⟨X, rfl, ?_⟩⟩
  · show (if k + 1 - 1 = k then 1 else 0) ≠ 0
    rw [if_pos (by omega)]
    omega
  · have := h0 (by omega)
    subst this
    rfl
  · rw [vl_lone, Nat.one_mul]
    rfl
theorem blk_one (w : World) (e : TypeId) : Blk (w.alloc (.cells #[.int .u32 1] e)) e w.heap.size 1 (lone 0 1) := by
  refine ⟨_, heap_alloc_new w _, rfl, fun j hj => ?_⟩
  obtain rfl : j = 0 := by omega
  rfl
/-- The greatest quotient is no dyad. -/
theorem tp_le_ {a b : Nat} (h : a ≤ b) : tp a ≤ tp b := by unfold tp; exact Nat.pow_le_pow_right (by omega) h
theorem tp_lt_ {a b : Nat} (h : a < b) : tp a < tp b := by unfold tp; exact Nat.pow_lt_pow_right (by omega) h
theorem huge_tiny : pw 39 * tp (4000 - 0) = tp 2272 * (pw 0 * tp (4000 - 1024)) := by
  rw [pw_tp, pw_tp, ← tp_add, ← tp_add, ← tp_add]
theorem over_gen {k : Nat} (hk : 1280 ≤ k) : ¬ Okay ((tp k : Int) * (tp (4000 - (0 : Int).toNat) : Int)) := by
  have h := not_okay (s := false) (V := tp k) (x := 0) ⟨fun h => absurd h (by have := tp_pos k; omega), fun h => absurd h (by omega)⟩ (by omega) (.inl ?_)
  · rw [show (0 : Int).toNat = 0 from rfl, ← Int.natCast_mul]
    exact h
  · rw [pw_tp]
    exact tp_le_ (by omega)
theorem over_not : ¬ Okay ((tp 2272 : Int) * (tp (4000 - (0 : Int).toNat) : Int)) := over_gen (by omega)
theorem tiny_huge : pw 0 * tp (4000 - 1024) * tp 64 < pw 39 * tp (4000 - 0) := by
  rw [pw_tp, pw_tp, ← tp_add, ← tp_add, ← tp_add]
  exact tp_lt_ (by omega)

theorem qover {w w' : World} {e : Ending} {N k R : Int} (h : DRes w (Qerrs True True N k R) R e w') (hN : 0 < N) (hk : 0 ≤ k ∧ k ≤ 64) (hR : ¬ Okay R) : ∃ s A n c x, e = .returned (.tuple #[.agg #[.bool s, .slice A n c, .int .i64 x], .int .i64 10]) ∧ Hid (Below w.heap.size w w') :=
  h.bade fun _ he => (he.2.2 ⟨trivial, trivial⟩ ⟨hN, hk.1, hk.2⟩).uniq (.inr ⟨hR, rfl⟩)
theorem qarg {w w' : World} {e : Ending} {N k R R' : Int} (h : DRes w (Qerrs True True N k R) R' e w') (hN : ¬ (0 < N ∧ 0 ≤ k ∧ k ≤ 64)) : ∃ s A n c x, e = .returned (.tuple #[.agg #[.bool s, .slice A n c, .int .i64 x], .int .i64 2]) ∧ Hid (Below w.heap.size w w') :=
  h.bade fun _ he => he.2.1 ⟨trivial, trivial⟩ hN
theorem qbad {w w' : World} {e : Ending} {N k R R' : Int} {q : Prop} (h : DRes w (Qerrs False q N k R) R' e w') : ∃ s A n c x, e = .returned (.tuple #[.agg #[.bool s, .slice A n c, .int .i64 x], .int .i64 8]) ∧ Hid (Below w.heap.size w w') :=
  h.bade fun _ he => he.1 (fun h => h.1)
theorem qgood {w w' : World} {e : Ending} {N k R R2 : Int} (h : DRes w (Qerrs True True N k R) R e w') (hN : 0 < N) (hk : 0 ≤ k ∧ k ≤ 64) (he : R = R2) (hR : Okay R2) : Good w R2 e w' := by
  subst he
  exact h.goodq fun er he => he.zero_ trivial trivial hN hk hR

theorem over_quot : ((pw 39 * tp (4000 - 0) : Nat) : Int) * 2 ^ (0 : Int).toNat / ((pw 0 * tp (4000 - 1024) : Nat) : Int) = (tp 2272 : Int) := by
  have hp : 0 < pw 0 * tp (4000 - 1024) := Nat.mul_pos (pw_pos _) (tp_pos _)
  rw [huge_tiny]
  generalize pw 0 * tp (4000 - 1024) = U at *
  generalize tp 2272 = T
  rw [show ((0 : Int)).toNat = 0 from rfl, Int.pow_zero, Int.mul_one, Int.natCast_mul, Int.mul_ediv_cancel _ (by omega)]
theorem tiny_quot : ((pw 0 * tp (4000 - 1024) : Nat) : Int) * 2 ^ (64 : Int).toNat / ((pw 39 * tp (4000 - 0) : Nat) : Int) = 0 := by
  have h := tiny_huge
  have e : ((2 : Int) ^ (64 : Int).toNat) = ((tp 64 : Nat) : Int) := by unfold tp; rw [show (64 : Int).toNat = 64 from rfl]; simp
  rw [e, ← Int.natCast_mul]
  generalize pw 0 * tp (4000 - 1024) * tp 64 = a at *
  generalize pw 39 * tp (4000 - 0) = b at *
  rw [← Int.natCast_ediv, Nat.div_eq_of_lt h]
  rfl
theorem tiny_up : -(-(((pw 0 * tp (4000 - 1024) : Nat) : Int) * 2 ^ (64 : Int).toNat) / ((pw 39 * tp (4000 - 0) : Nat) : Int)) = 1 := by
  have h := tiny_huge
  have hp : 0 < pw 0 * tp (4000 - 1024) * tp 64 := Nat.mul_pos (Nat.mul_pos (pw_pos _) (tp_pos _)) (tp_pos _)
  have e : ((2 : Int) ^ (64 : Int).toNat) = ((tp 64 : Nat) : Int) := by unfold tp; rw [show (64 : Int).toNat = 64 from rfl]; simp
  rw [e, ← Int.natCast_mul]
  generalize pw 0 * tp (4000 - 1024) * tp 64 = a at *
  generalize pw 39 * tp (4000 - 0) = b at *
  have : (-(a : Int)) / (b : Int) = -1 := ((Int.ediv_emod_unique (a := -(a : Int)) (b := (b : Int)) (r := (b : Int) - a) (q := -1) (by omega)).2 ⟨by omega, by omega, by omega⟩).1
  rw [this]
  rfl

set_option maxRecDepth 100000 in
set_option maxHeartbeats 12800000 in
theorem rnames_walk {w : World} (hT : Tab w) (hT64 : Tab64 w) :
    Calls Tryd.prog 3 #[] w fun e w' => e = .returned (.bool true) ∧ Below w.heap.size w w' := by
  have HT := hid hT
  have HU := hid hT64
  obtain ⟨c40, h40⟩ : ∃ c, c = madeCells #[.int .u32 0] 40 := ⟨_, rfl⟩
  have hmk : ∀ w' : World, (Instr.makeSlice 22 (.int .i64 40) (.int .i64 40)).run Tryd.prog w' = .ok (.slice (some ⟨w'.heap.size, 0, none⟩) 40 40) (w'.alloc (.cells c40 30)) := fun w' => by
    rw [h40]
    exact make_u32 40 (by omega) w'
  have HB40 : Hid (∀ w' : World, Blk (w'.alloc (.cells c40 30)) 30 w'.heap.size 40 (fun _ => 0)) := hid fun w' => by rw [h40]; exact Blk.zeros w' _ 40
  clear hT hT64 h40
  have K := hid (Below.refl w.heap.size w)
  go_enter Tryd.func3, Tryd.ntmps3
  go_wp2_with fail
  refine (of_arg 1 (by omega)).mono ?_
  rintro e wo1 ⟨so1, Ao1, no1, co1, xo1, rfl, D1, hb⟩
  replace K := hid (K.out.trans (hb.out.mono K.out.size))
  clear hb
  go_wp2_with fail
  refine (of_arg 0 (by omega)).mono ?_
  rintro e wo2 ⟨so2, Ao2, no2, co2, xo2, rfl, D2, hb⟩
  replace K := hid (K.out.trans (hb.out.mono K.out.size))
  replace D1 := hid (D1.out.below hb.out)
  clear hb
  go_wp2_with fail
  refine (rfloor_any (k := 0) D1.out D2.out (HT.out.below K.out HT.out.lt) (HU.out.below K.out HU.out.lt)).mono ?_
  intro e wa hh
  obtain ⟨sa, Aa, na, ca, xa, rfl, hb⟩ := qarg hh (by rw [Int.zero_mul]; omega)
  clear hh
  replace K := hid (K.out.trans (hb.out.mono K.out.size))
  replace D1 := hid (D1.out.below hb.out)
  replace D2 := hid (D2.out.below hb.out)
  clear hb
  go_upto_region 2 with fail
  obtain ⟨Ua, hU⟩ : ∃ U, U = wa.alloc (.cells #[.bool sa, .slice Aa na ca, .int .i64 xa] 24) := ⟨_, rfl⟩
  rw [← hU]
  have Pa : Hid (Dbox Ua wa.heap.size sa (.slice Aa na ca) xa) := hid (hU ▸ heap_alloc_new _ _)
  have ha : Hid (Below wa.heap.size wa Ua) := hid (hU ▸ (Below.refl _ wa).alloc (Nat.le_refl _) _)
  clear hU
  replace K := hid (K.out.trans (ha.out.mono K.out.size))
  replace D1 := hid (D1.out.below ha.out)
  replace D2 := hid (D2.out.below ha.out)
  clear ha
  clear Pa
  clear D1 D2
  go_wp2_with fail
  refine (of_arg 1 (by omega)).mono ?_
  rintro e wo3 ⟨so3, Ao3, no3, co3, xo3, rfl, D1, hb⟩
  replace K := hid (K.out.trans (hb.out.mono K.out.size))
  clear hb
  go_wp2_with fail
  refine (of_arg (-1) (by omega)).mono ?_
  rintro e wo4 ⟨so4, Ao4, no4, co4, xo4, rfl, D2, hb⟩
  replace K := hid (K.out.trans (hb.out.mono K.out.size))
  replace D1 := hid (D1.out.below hb.out)
  clear hb
  go_wp2_with fail
  refine (rceil_any (k := 0) D1.out D2.out (HT.out.below K.out HT.out.lt) (HU.out.below K.out HU.out.lt)).mono ?_
  intro e wb hh
  obtain ⟨sb, Ab, nb, cb, xb, rfl, hb⟩ := qarg hh (by have := tp_posi; generalize (tp 4000 : Int) = T at *; omega)
  clear hh
  replace K := hid (K.out.trans (hb.out.mono K.out.size))
  replace D1 := hid (D1.out.below hb.out)
  replace D2 := hid (D2.out.below hb.out)
  clear hb
  go_upto_region 3 with fail
  obtain ⟨Ub, hU⟩ : ∃ U, U = wb.alloc (.cells #[.bool sb, .slice Ab nb cb, .int .i64 xb] 24) := ⟨_, rfl⟩
  rw [← hU]
  have Pb : Hid (Dbox Ub wb.heap.size sb (.slice Ab nb cb) xb) := hid (hU ▸ heap_alloc_new _ _)
  have ha : Hid (Below wb.heap.size wb Ub) := hid (hU ▸ (Below.refl _ wb).alloc (Nat.le_refl _) _)
  clear hU
  replace K := hid (K.out.trans (ha.out.mono K.out.size))
  replace D1 := hid (D1.out.below ha.out)
  replace D2 := hid (D2.out.below ha.out)
  clear ha
  clear Pb
  clear D1 D2
  go_wp2_with fail
  refine (of_arg 1 (by omega)).mono ?_
  rintro e wo5 ⟨so5, Ao5, no5, co5, xo5, rfl, D1, hb⟩
  replace K := hid (K.out.trans (hb.out.mono K.out.size))
  clear hb
  go_wp2_with fail
  refine (of_arg 1 (by omega)).mono ?_
  rintro e wo6 ⟨so6, Ao6, no6, co6, xo6, rfl, D2, hb⟩
  replace K := hid (K.out.trans (hb.out.mono K.out.size))
  replace D1 := hid (D1.out.below hb.out)
  clear hb
  go_wp2_with fail
  refine (rfloor_any (k := 65) D1.out D2.out (HT.out.below K.out HT.out.lt) (HU.out.below K.out HU.out.lt)).mono ?_
  intro e wc hh
  obtain ⟨sc, Ac, nc, cc, xc, rfl, hb⟩ := qarg hh (by omega)
  clear hh
  replace K := hid (K.out.trans (hb.out.mono K.out.size))
  replace D1 := hid (D1.out.below hb.out)
  replace D2 := hid (D2.out.below hb.out)
  clear hb
  go_upto_region 4 with fail
  obtain ⟨Uc, hU⟩ : ∃ U, U = wc.alloc (.cells #[.bool sc, .slice Ac nc cc, .int .i64 xc] 24) := ⟨_, rfl⟩
  rw [← hU]
  have Pc : Hid (Dbox Uc wc.heap.size sc (.slice Ac nc cc) xc) := hid (hU ▸ heap_alloc_new _ _)
  have ha : Hid (Below wc.heap.size wc Uc) := hid (hU ▸ (Below.refl _ wc).alloc (Nat.le_refl _) _)
  clear hU
  replace K := hid (K.out.trans (ha.out.mono K.out.size))
  replace D1 := hid (D1.out.below ha.out)
  replace D2 := hid (D2.out.below ha.out)
  clear ha
  clear Pc
  clear D1 D2
  go_wp2_with fail
  refine (of_arg 1 (by omega)).mono ?_
  rintro e wo7 ⟨so7, Ao7, no7, co7, xo7, rfl, D1, hb⟩
  replace K := hid (K.out.trans (hb.out.mono K.out.size))
  clear hb
  go_wp2_with fail
  refine (rnear_any (DArg.bad0 _) D1.out (HT.out.below K.out HT.out.lt) (HU.out.below K.out HU.out.lt)).mono ?_
  intro e wd hh
  obtain ⟨sd, Ad, nd, cd, xd, rfl, hb⟩ := qbad hh
  clear hh
  replace K := hid (K.out.trans (hb.out.mono K.out.size))
  replace D1 := hid (D1.out.below hb.out)
  clear hb
  go_upto_region 5 with fail
  obtain ⟨Ud, hU⟩ : ∃ U, U = wd.alloc (.cells #[.bool sd, .slice Ad nd cd, .int .i64 xd] 24) := ⟨_, rfl⟩
  rw [← hU]
  have Pd : Hid (Dbox Ud wd.heap.size sd (.slice Ad nd cd) xd) := hid (hU ▸ heap_alloc_new _ _)
  have ha : Hid (Below wd.heap.size wd Ud) := hid (hU ▸ (Below.refl _ wd).alloc (Nat.le_refl _) _)
  clear hU
  replace K := hid (K.out.trans (ha.out.mono K.out.size))
  replace D1 := hid (D1.out.below ha.out)
  clear ha
  clear Pd
  clear D1
  go_upto_region 6 with fail
  obtain ⟨Ut, hU⟩ : ∃ U, U = (Ud.alloc (.cells #[.int .u32 1] 30)).alloc (.cells #[.bool false, .slice (some ⟨Ud.heap.size, 0, none⟩) 1 1, .int .i64 1024] 24) := ⟨_, rfl⟩
  rw [← hU]
  have BT : Hid (Blk Ut 30 Ud.heap.size 1 (lone 0 1)) := hid (hU ▸ (blk_one Ud _).alloc _)
  have PT : Hid (Dbox Ut (Ud.heap.size + 1) false (.slice (some ⟨Ud.heap.size, 0, none⟩) 1 1) 1024) := hid (hU ▸ heap_alloc2_new Ud _ _)
  have ha : Hid (Below Ud.heap.size Ud Ut) := hid (hU ▸ ((Below.refl _ Ud).alloc (Nat.le_refl _) _).alloc (by simp) _)
  clear hU
  replace K := hid (K.out.trans (ha.out.mono K.out.size))
  clear ha
  go_upto_region 7 with fail
  obtain ⟨Uh, hU⟩ : ∃ U, U = (Ut.alloc (.cells c40 30)).alloc (.cells #[.bool false, .slice (some ⟨Ut.heap.size, 0, none⟩) 40 40, .int .i64 0] 24) := ⟨_, rfl⟩
  rw [← hU]
  have BH : Hid (Blk Uh 30 Ut.heap.size 40 (fun _ => 0)) := hid (hU ▸ (HB40.out Ut).alloc _)
  have PH : Hid (Dbox Uh (Ut.heap.size + 1) false (.slice (some ⟨Ut.heap.size, 0, none⟩) 40 40) 0) := hid (hU ▸ heap_alloc2_new Ut _ _)
  have ha : Hid (Below Ut.heap.size Ut Uh) := hid (hU ▸ ((Below.refl _ Ut).alloc (Nat.le_refl _) _).alloc (by simp) _)
  have BTlt := BT.out.lt
  have KU := hid K.out
  have PTlt := PT.out.lt
  replace BT := hid (BT.out.below ha.out BT.out.lt)
  replace PT := hid (PT.out.below ha.out PT.out.lt)
  have hTH : Ud.heap.size < Ut.heap.size := BTlt
  clear hU
  replace K := hid (K.out.trans (ha.out.mono K.out.size))
  clear ha hmk HB40
  have fz := BH.out.frozen 39
  have z39 := BH.out.cell (j := 39) (by omega)
  have PHc0 := PH.out.c0
  have PHc1 := PH.out.c1
  have PHc2 := PH.out.c2
  go_upto_region 8 with fail
  obtain ⟨Us, hU⟩ : ∃ U, U = Uh.setCell ⟨Ut.heap.size, 39, none⟩ (.int .u32 1) := ⟨_, rfl⟩
  rw [← hU]
  have BS : Hid (Blk Us 30 Ut.heap.size 40 (lone 39 1)) := hid (hU ▸ (BH.out.set 39 1).congr (fun j hj => rfl))
  replace PH : Hid (Dbox Us (Ut.heap.size + 1) false (.slice (some ⟨Ut.heap.size, 0, none⟩) 40 40) 0) := hid (hU ▸ (Below.heap_setCell Uh ⟨Ut.heap.size, 39, none⟩ _ (Ut.heap.size + 1) (by show _ ≠ Ut.heap.size; omega)).trans PH.out)
  replace BT : Hid (Blk Us 30 Ud.heap.size 1 (lone 0 1)) := hid (hU ▸ BT.out.far (p := ⟨Ut.heap.size, 39, none⟩) (by show _ ≠ Ut.heap.size; omega) _)
  replace PT : Hid (Dbox Us (Ud.heap.size + 1) false (.slice (some ⟨Ud.heap.size, 0, none⟩) 1 1) 1024) := hid (hU ▸ (Below.heap_setCell Uh ⟨Ut.heap.size, 39, none⟩ _ (Ud.heap.size + 1) (by show _ ≠ Ut.heap.size; omega)).trans PT.out)
  have hsz := PH.out.lt
  replace K : Hid (Below w.heap.size w Us) := hid (hU ▸ K.out.setCell (p := ⟨Ut.heap.size, 39, none⟩) (by have := KU.out.size; show _ ≤ Ut.heap.size; omega) _)
  clear hU fz z39 PHc0 PHc1 PHc2 BH
  have GH := hid (darg_lone (X := 0) BS.out (by omega) (by omega) (fun h => by omega))
  have GT := hid (darg_lone (X := 1024) BT.out (by omega) (by omega) (fun h => rfl))
  clear BS BT
  have PHc0 := PH.out.c0
  have PHc1 := PH.out.c1
  have PHc2 := PH.out.c2
  have PTc0 := PT.out.c0
  have PTc1 := PT.out.c1
  have PTc2 := PT.out.c2
  go_wp2_with fail
  refine (rfloor_any (k := 0) GH.out GT.out (HT.out.below K.out HT.out.lt) (HU.out.below K.out HU.out.lt)).mono ?_
  intro e we hh
  obtain ⟨se, Ae, ne, ce, xe, rfl, hb⟩ := qover (by rw [over_quot] at hh; exact hh) (by have h1 := pw_pos 0; have h2 := tp_pos (4000 - 1024); have := Nat.mul_pos h1 h2; omega) (by omega) over_not
  clear hh
  replace K := hid (K.out.trans (hb.out.mono K.out.size))
  replace GH := hid (GH.out.below hb.out)
  replace GT := hid (GT.out.below hb.out)
  replace PH := hid (PH.out.below hb.out PH.out.lt)
  replace PT := hid (PT.out.below hb.out PT.out.lt)
  clear hb
  go_upto_region 9 with fail
  obtain ⟨Ue, hU⟩ : ∃ U, U = we.alloc (.cells #[.bool se, .slice Ae ne ce, .int .i64 xe] 24) := ⟨_, rfl⟩
  rw [← hU]
  have Pe : Hid (Dbox Ue we.heap.size se (.slice Ae ne ce) xe) := hid (hU ▸ heap_alloc_new _ _)
  have ha : Hid (Below we.heap.size we Ue) := hid (hU ▸ (Below.refl _ we).alloc (Nat.le_refl _) _)
  clear hU
  replace K := hid (K.out.trans (ha.out.mono K.out.size))
  replace GH := hid (GH.out.below ha.out)
  replace GT := hid (GT.out.below ha.out)
  replace PH := hid (PH.out.below ha.out PH.out.lt)
  replace PT := hid (PT.out.below ha.out PT.out.lt)
  clear ha
  clear Pe
  try clear PHc0; try clear PHc1; try clear PHc2
  have PHc0 := PH.out.c0
  have PHc1 := PH.out.c1
  have PHc2 := PH.out.c2
  try clear PTc0; try clear PTc1; try clear PTc2
  have PTc0 := PT.out.c0
  have PTc1 := PT.out.c1
  have PTc2 := PT.out.c2
  go_wp2_with fail
  refine (rfloor_any (k := 64) GT.out GH.out (HT.out.below K.out HT.out.lt) (HU.out.below K.out HU.out.lt)).mono ?_
  intro e wf hh
  obtain ⟨sf, Af, nf, cf, xf, rfl, Gf, hb⟩ := qgood hh (by have h1 := pw_pos 39; have h2 := tp_pos (4000 - 0); have := Nat.mul_pos h1 h2; omega) (by omega) (by rw [tiny_quot, Int.zero_mul, Int.zero_mul]) (okay_int (k := 0) (Q := 0) (by omega) (by omega))
  clear hh
  replace K := hid (K.out.trans (hb.out.mono K.out.size))
  replace GH := hid (GH.out.below hb.out)
  replace GT := hid (GT.out.below hb.out)
  replace PH := hid (PH.out.below hb.out PH.out.lt)
  replace PT := hid (PT.out.below hb.out PT.out.lt)
  clear hb
  go_upto_region 10 with fail
  obtain ⟨Uf, hU⟩ : ∃ U, U = wf.alloc (.cells #[.bool sf, .slice Af nf cf, .int .i64 xf] 24) := ⟨_, rfl⟩
  rw [← hU]
  have Pf : Hid (Dbox Uf wf.heap.size sf (.slice Af nf cf) xf) := hid (hU ▸ heap_alloc_new _ _)
  have ha : Hid (Below wf.heap.size wf Uf) := hid (hU ▸ (Below.refl _ wf).alloc (Nat.le_refl _) _)
  clear hU
  replace K := hid (K.out.trans (ha.out.mono K.out.size))
  replace GH := hid (GH.out.below ha.out)
  replace GT := hid (GT.out.below ha.out)
  replace PH := hid (PH.out.below ha.out PH.out.lt)
  replace PT := hid (PT.out.below ha.out PT.out.lt)
  replace Gf := hid (Gf.out.below ha.out)
  clear ha
  try clear PHc0; try clear PHc1; try clear PHc2
  have PHc0 := PH.out.c0
  have PHc1 := PH.out.c1
  have PHc2 := PH.out.c2
  try clear PTc0; try clear PTc1; try clear PTc2
  have PTc0 := PT.out.c0
  have PTc1 := PT.out.c1
  have PTc2 := PT.out.c2
  go_wp2_with fail
  refine (rceil_any (k := 64) GT.out GH.out (HT.out.below K.out HT.out.lt) (HU.out.below K.out HU.out.lt)).mono ?_
  intro e wg hh
  obtain ⟨sg, Ag, ng, cg, xg, rfl, Gg, hb⟩ := qgood hh (by have h1 := pw_pos 39; have h2 := tp_pos (4000 - 0); have := Nat.mul_pos h1 h2; omega) (by omega) (by rw [tiny_up, show (64 : Int).toNat = 64 from rfl]) (okay_int (k := 64) (Q := 1) (by omega) (by omega))
  clear hh
  replace K := hid (K.out.trans (hb.out.mono K.out.size))
  replace GH := hid (GH.out.below hb.out)
  replace GT := hid (GT.out.below hb.out)
  replace PH := hid (PH.out.below hb.out PH.out.lt)
  replace PT := hid (PT.out.below hb.out PT.out.lt)
  replace Gf := hid (Gf.out.below hb.out)
  replace Pf := hid (Pf.out.below hb.out Pf.out.lt)
  clear hb
  go_upto_region 11 with fail
  obtain ⟨Ug, hU⟩ : ∃ U, U = wg.alloc (.cells #[.bool sg, .slice Ag ng cg, .int .i64 xg] 24) := ⟨_, rfl⟩
  rw [← hU]
  have Pg : Hid (Dbox Ug wg.heap.size sg (.slice Ag ng cg) xg) := hid (hU ▸ heap_alloc_new _ _)
  have ha : Hid (Below wg.heap.size wg Ug) := hid (hU ▸ (Below.refl _ wg).alloc (Nat.le_refl _) _)
  clear hU
  replace K := hid (K.out.trans (ha.out.mono K.out.size))
  replace GH := hid (GH.out.below ha.out)
  replace GT := hid (GT.out.below ha.out)
  replace PH := hid (PH.out.below ha.out PH.out.lt)
  replace PT := hid (PT.out.below ha.out PT.out.lt)
  replace Gf := hid (Gf.out.below ha.out)
  replace Pf := hid (Pf.out.below ha.out Pf.out.lt)
  replace Gg := hid (Gg.out.below ha.out)
  clear ha
  clear GH GT PH PT
  clear PHc0 PHc1 PHc2 PTc0 PTc1 PTc2
  go_wp2_with fail
  refine (of_arg (-5) (by omega)).mono ?_
  rintro e wo8 ⟨so8, Ao8, no8, co8, xo8, rfl, D1, hb⟩
  replace K := hid (K.out.trans (hb.out.mono K.out.size))
  replace Gf := hid (Gf.out.below hb.out)
  replace Pf := hid (Pf.out.below hb.out Pf.out.lt)
  replace Gg := hid (Gg.out.below hb.out)
  replace Pg := hid (Pg.out.below hb.out Pg.out.lt)
  clear hb
  go_wp2_with fail
  refine (of_arg 2 (by omega)).mono ?_
  rintro e wo9 ⟨so9, Ao9, no9, co9, xo9, rfl, D2, hb⟩
  replace K := hid (K.out.trans (hb.out.mono K.out.size))
  replace Gf := hid (Gf.out.below hb.out)
  replace Pf := hid (Pf.out.below hb.out Pf.out.lt)
  replace Gg := hid (Gg.out.below hb.out)
  replace Pg := hid (Pg.out.below hb.out Pg.out.lt)
  replace D1 := hid (D1.out.below hb.out)
  clear hb
  go_wp2_with fail
  refine (rnear_any D1.out D2.out (HT.out.below K.out HT.out.lt) (HU.out.below K.out HU.out.lt)).mono ?_
  intro e wh hh
  obtain ⟨sh, Ah, nh, ch, xh, rfl, Gh, hb⟩ := qgood hh (by have := tp_posi; generalize (tp 4000 : Int) = T at *; omega) (by omega) ((congrArg (· * (tp 4000 : Int)) (scale_near (-5) 2 _ tp_posi)).trans rfl) (by have := okay_int (k := 0) (Q := -2) (by omega) (by omega); rwa [Nat.sub_zero] at this)
  clear hh
  replace K := hid (K.out.trans (hb.out.mono K.out.size))
  replace Gf := hid (Gf.out.below hb.out)
  replace Pf := hid (Pf.out.below hb.out Pf.out.lt)
  replace Gg := hid (Gg.out.below hb.out)
  replace Pg := hid (Pg.out.below hb.out Pg.out.lt)
  replace D1 := hid (D1.out.below hb.out)
  replace D2 := hid (D2.out.below hb.out)
  clear hb
  go_upto_region 12 with fail
  obtain ⟨Uh, hU⟩ : ∃ U, U = wh.alloc (.cells #[.bool sh, .slice Ah nh ch, .int .i64 xh] 24) := ⟨_, rfl⟩
  rw [← hU]
  have Ph : Hid (Dbox Uh wh.heap.size sh (.slice Ah nh ch) xh) := hid (hU ▸ heap_alloc_new _ _)
  have ha : Hid (Below wh.heap.size wh Uh) := hid (hU ▸ (Below.refl _ wh).alloc (Nat.le_refl _) _)
  clear hU
  replace K := hid (K.out.trans (ha.out.mono K.out.size))
  replace Gf := hid (Gf.out.below ha.out)
  replace Pf := hid (Pf.out.below ha.out Pf.out.lt)
  replace Gg := hid (Gg.out.below ha.out)
  replace Pg := hid (Pg.out.below ha.out Pg.out.lt)
  replace D1 := hid (D1.out.below ha.out)
  replace D2 := hid (D2.out.below ha.out)
  replace Gh := hid (Gh.out.below ha.out)
  clear ha
  clear D1 D2
  go_wp2_with fail
  refine (of_arg (-7) (by omega)).mono ?_
  rintro e wo10 ⟨so10, Ao10, no10, co10, xo10, rfl, D1, hb⟩
  replace K := hid (K.out.trans (hb.out.mono K.out.size))
  replace Gf := hid (Gf.out.below hb.out)
  replace Pf := hid (Pf.out.below hb.out Pf.out.lt)
  replace Gg := hid (Gg.out.below hb.out)
  replace Pg := hid (Pg.out.below hb.out Pg.out.lt)
  replace Gh := hid (Gh.out.below hb.out)
  replace Ph := hid (Ph.out.below hb.out Ph.out.lt)
  clear hb
  go_wp2_with fail
  refine (of_arg 4 (by omega)).mono ?_
  rintro e wo11 ⟨so11, Ao11, no11, co11, xo11, rfl, D2, hb⟩
  replace K := hid (K.out.trans (hb.out.mono K.out.size))
  replace Gf := hid (Gf.out.below hb.out)
  replace Pf := hid (Pf.out.below hb.out Pf.out.lt)
  replace Gg := hid (Gg.out.below hb.out)
  replace Pg := hid (Pg.out.below hb.out Pg.out.lt)
  replace Gh := hid (Gh.out.below hb.out)
  replace Ph := hid (Ph.out.below hb.out Ph.out.lt)
  replace D1 := hid (D1.out.below hb.out)
  clear hb
  go_wp2_with fail
  refine (rnear_any D1.out D2.out (HT.out.below K.out HT.out.lt) (HU.out.below K.out HU.out.lt)).mono ?_
  intro e wi hh
  obtain ⟨si, Ai, ni, ci, xi, rfl, Gi, hb⟩ := qgood hh (by have := tp_posi; generalize (tp 4000 : Int) = T at *; omega) (by omega) ((congrArg (· * (tp 4000 : Int)) (scale_near (-7) 4 _ tp_posi)).trans rfl) (by have := okay_int (k := 0) (Q := -2) (by omega) (by omega); rwa [Nat.sub_zero] at this)
  clear hh
  replace K := hid (K.out.trans (hb.out.mono K.out.size))
  replace Gf := hid (Gf.out.below hb.out)
  replace Pf := hid (Pf.out.below hb.out Pf.out.lt)
  replace Gg := hid (Gg.out.below hb.out)
  replace Pg := hid (Pg.out.below hb.out Pg.out.lt)
  replace Gh := hid (Gh.out.below hb.out)
  replace Ph := hid (Ph.out.below hb.out Ph.out.lt)
  replace D1 := hid (D1.out.below hb.out)
  replace D2 := hid (D2.out.below hb.out)
  clear hb
  go_upto_region 13 with fail
  obtain ⟨Ui, hU⟩ : ∃ U, U = wi.alloc (.cells #[.bool si, .slice Ai ni ci, .int .i64 xi] 24) := ⟨_, rfl⟩
  rw [← hU]
  have Pi : Hid (Dbox Ui wi.heap.size si (.slice Ai ni ci) xi) := hid (hU ▸ heap_alloc_new _ _)
  have ha : Hid (Below wi.heap.size wi Ui) := hid (hU ▸ (Below.refl _ wi).alloc (Nat.le_refl _) _)
  clear hU
  replace K := hid (K.out.trans (ha.out.mono K.out.size))
  replace Gf := hid (Gf.out.below ha.out)
  replace Pf := hid (Pf.out.below ha.out Pf.out.lt)
  replace Gg := hid (Gg.out.below ha.out)
  replace Pg := hid (Pg.out.below ha.out Pg.out.lt)
  replace Gh := hid (Gh.out.below ha.out)
  replace Ph := hid (Ph.out.below ha.out Ph.out.lt)
  replace D1 := hid (D1.out.below ha.out)
  replace D2 := hid (D2.out.below ha.out)
  replace Gi := hid (Gi.out.below ha.out)
  clear ha
  clear D1 D2
  go_wp2_with fail
  refine (ralive_any _ (HT.out.below K.out HT.out.lt) (HU.out.below K.out HU.out.lt)).mono ?_
  rintro e wal ⟨rfl, hb⟩
  replace K := hid (K.out.trans (hb.out.mono K.out.size))
  replace Gf := hid (Gf.out.below hb.out)
  replace Pf := hid (Pf.out.below hb.out Pf.out.lt)
  replace Gg := hid (Gg.out.below hb.out)
  replace Pg := hid (Pg.out.below hb.out Pg.out.lt)
  replace Gh := hid (Gh.out.below hb.out)
  replace Ph := hid (Ph.out.below hb.out Ph.out.lt)
  replace Gi := hid (Gi.out.below hb.out)
  replace Pi := hid (Pi.out.below hb.out Pi.out.lt)
  have Pfc0 := Pf.out.c0
  have Pfc1 := Pf.out.c1
  have Pfc2 := Pf.out.c2
  have Pgc0 := Pg.out.c0
  have Pgc1 := Pg.out.c1
  have Pgc2 := Pg.out.c2
  have Phc0 := Ph.out.c0
  have Phc1 := Ph.out.c1
  have Phc2 := Ph.out.c2
  have Pic0 := Pi.out.c0
  have Pic1 := Pi.out.c1
  have Pic2 := Pi.out.c2
  clear hb
  go_wp2_with fail
  refine (is_true (x := 0) Gf.out (by omega) (by omega) (.inl rfl) rfl).mono ?_
  rintro e wif ⟨rfl, hb⟩
  clear Pfc0 Pfc1 Pfc2 Pgc0 Pgc1 Pgc2 Phc0 Phc1 Phc2 Pic0 Pic1 Pic2
  replace K := hid (K.out.trans (hb.out.mono K.out.size))
  replace Gf := hid (Gf.out.below hb.out)
  replace Pf := hid (Pf.out.below hb.out Pf.out.lt)
  replace Gg := hid (Gg.out.below hb.out)
  replace Pg := hid (Pg.out.below hb.out Pg.out.lt)
  replace Gh := hid (Gh.out.below hb.out)
  replace Ph := hid (Ph.out.below hb.out Ph.out.lt)
  replace Gi := hid (Gi.out.below hb.out)
  replace Pi := hid (Pi.out.below hb.out Pi.out.lt)
  have Pfc0 := Pf.out.c0
  have Pfc1 := Pf.out.c1
  have Pfc2 := Pf.out.c2
  have Pgc0 := Pg.out.c0
  have Pgc1 := Pg.out.c1
  have Pgc2 := Pg.out.c2
  have Phc0 := Ph.out.c0
  have Phc1 := Ph.out.c1
  have Phc2 := Ph.out.c2
  have Pic0 := Pi.out.c0
  have Pic1 := Pi.out.c1
  have Pic2 := Pi.out.c2
  clear hb
  go_wp2_with fail
  refine (is_true (x := 64) Gg.out (by omega) (by omega) (.inr rfl) rfl).mono ?_
  rintro e wig ⟨rfl, hb⟩
  clear Pfc0 Pfc1 Pfc2 Pgc0 Pgc1 Pgc2 Phc0 Phc1 Phc2 Pic0 Pic1 Pic2
  replace K := hid (K.out.trans (hb.out.mono K.out.size))
  replace Gf := hid (Gf.out.below hb.out)
  replace Pf := hid (Pf.out.below hb.out Pf.out.lt)
  replace Gg := hid (Gg.out.below hb.out)
  replace Pg := hid (Pg.out.below hb.out Pg.out.lt)
  replace Gh := hid (Gh.out.below hb.out)
  replace Ph := hid (Ph.out.below hb.out Ph.out.lt)
  replace Gi := hid (Gi.out.below hb.out)
  replace Pi := hid (Pi.out.below hb.out Pi.out.lt)
  have Pfc0 := Pf.out.c0
  have Pfc1 := Pf.out.c1
  have Pfc2 := Pf.out.c2
  have Pgc0 := Pg.out.c0
  have Pgc1 := Pg.out.c1
  have Pgc2 := Pg.out.c2
  have Phc0 := Ph.out.c0
  have Phc1 := Ph.out.c1
  have Phc2 := Ph.out.c2
  have Pic0 := Pi.out.c0
  have Pic1 := Pi.out.c1
  have Pic2 := Pi.out.c2
  clear hb
  go_wp2_with fail
  refine (is_true0 Gh.out (by omega)).mono ?_
  rintro e wih ⟨rfl, hb⟩
  clear Pfc0 Pfc1 Pfc2 Pgc0 Pgc1 Pgc2 Phc0 Phc1 Phc2 Pic0 Pic1 Pic2
  replace K := hid (K.out.trans (hb.out.mono K.out.size))
  replace Gf := hid (Gf.out.below hb.out)
  replace Pf := hid (Pf.out.below hb.out Pf.out.lt)
  replace Gg := hid (Gg.out.below hb.out)
  replace Pg := hid (Pg.out.below hb.out Pg.out.lt)
  replace Gh := hid (Gh.out.below hb.out)
  replace Ph := hid (Ph.out.below hb.out Ph.out.lt)
  replace Gi := hid (Gi.out.below hb.out)
  replace Pi := hid (Pi.out.below hb.out Pi.out.lt)
  have Pfc0 := Pf.out.c0
  have Pfc1 := Pf.out.c1
  have Pfc2 := Pf.out.c2
  have Pgc0 := Pg.out.c0
  have Pgc1 := Pg.out.c1
  have Pgc2 := Pg.out.c2
  have Phc0 := Ph.out.c0
  have Phc1 := Ph.out.c1
  have Phc2 := Ph.out.c2
  have Pic0 := Pi.out.c0
  have Pic1 := Pi.out.c1
  have Pic2 := Pi.out.c2
  clear hb
  go_wp2_with fail
  refine (is_true0 Gi.out (by omega)).mono ?_
  rintro e wii ⟨rfl, hb⟩
  clear Pfc0 Pfc1 Pfc2 Pgc0 Pgc1 Pgc2 Phc0 Phc1 Phc2 Pic0 Pic1 Pic2
  replace K := hid (K.out.trans (hb.out.mono K.out.size))
  replace Gf := hid (Gf.out.below hb.out)
  replace Pf := hid (Pf.out.below hb.out Pf.out.lt)
  replace Gg := hid (Gg.out.below hb.out)
  replace Pg := hid (Pg.out.below hb.out Pg.out.lt)
  replace Gh := hid (Gh.out.below hb.out)
  replace Ph := hid (Ph.out.below hb.out Ph.out.lt)
  replace Gi := hid (Gi.out.below hb.out)
  replace Pi := hid (Pi.out.below hb.out Pi.out.lt)
  have Pfc0 := Pf.out.c0
  have Pfc1 := Pf.out.c1
  have Pfc2 := Pf.out.c2
  have Pgc0 := Pg.out.c0
  have Pgc1 := Pg.out.c1
  have Pgc2 := Pg.out.c2
  have Phc0 := Ph.out.c0
  have Phc1 := Ph.out.c1
  have Phc2 := Ph.out.c2
  have Pic0 := Pi.out.c0
  have Pic1 := Pi.out.c1
  have Pic2 := Pi.out.c2
  clear hb
  go_wp2
  go_ret
  exact ⟨rfl, K.out⟩

end Go.Proofs.YtndehapggbmndaaDoor
