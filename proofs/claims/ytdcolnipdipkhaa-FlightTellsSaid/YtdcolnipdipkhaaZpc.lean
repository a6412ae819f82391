/- Flight, the program: Check, numbers. -/
import Derived.Test.YtdcolnipdipkhaaZpb
namespace Go.Proofs.Ytdcolnipdipkhaa.Fli
set_option maxRecDepth 100000
open Go.RowKit Go.Shelf Go.Lib

section
open Classical
/-- What Check answers. -/
noncomputable def lE (l : List (Ld Pm)) : Int := if 16 < l.length then 4 else if (∀ p ∈ l, MayL MayM p) ∧ Rise l then 0 else 8
/-- The error of loads and a Number. -/
noncomputable def askE (l : List (Ld Pm)) (n : Int) : Int := if lE l = 0 then (if 0 ≤ n ∧ n ≤ 1048575 then 0 else 2) else lE l
theorem lE_zero {l : List (Ld Pm)} : lE l = 0 ↔ lchk MayM l := by
  unfold lE lchk
  by_cases h1 : 16 < l.length
  · rw [if_pos h1]
    exact ⟨fun h => absurd h (by decide), fun h => by omega⟩
  · rw [if_neg h1]
    by_cases h2 : (∀ p ∈ l, MayL MayM p) ∧ Rise l
    · rw [if_pos h2]
      exact ⟨fun _ => ⟨by omega, h2.1, h2.2⟩, fun _ => rfl⟩
    · rw [if_neg h2]
      exact ⟨fun h => absurd h (by decide), fun h => absurd ⟨h.2.1, h.2.2⟩ h2⟩
theorem lE_many {l : List (Ld Pm)} (h : 16 < l.length) : lE l = 4 := by unfold lE; rw [if_pos h]
theorem lE_bad {l : List (Ld Pm)} (h : ¬ 16 < l.length) (k : ¬ ((∀ p ∈ l, MayL MayM p) ∧ Rise l)) : lE l = 8 := by unfold lE; rw [if_neg h, if_neg k]
theorem lE_ok {l : List (Ld Pm)} (h : ¬ 16 < l.length) (k : (∀ p ∈ l, MayL MayM p) ∧ Rise l) : lE l = 0 := by unfold lE; rw [if_neg h, if_pos k]
end

/-- The number ahead of a place. -/
def lastN (l : List (Ld Pm)) (k : Nat) : Int := match k with
  | 0 => -1
  | j + 1 => match l[j]? with
    | none => -1
    | some p => p.1
theorem lastN_zero (l : List (Ld Pm)) : lastN l 0 = -1 := rfl
theorem lastN_succ {l : List (Ld Pm)} {j : Nat} {p : Ld Pm} (h : l[j]? = some p) : lastN l (j + 1) = p.1 := by
  show (match l[j]? with | none => -1 | some p => p.1) = p.1
  rw [h]
/-- What Check's find keeps. -/
def ChkI (l : List (Ld Pm)) (B g q : Nat) (k : Nat) (W : World) : Prop := Boxed W q 68 (.func (.func 50) #[] #[.pointer (some ⟨g, 0, none⟩)]) ∧ Boxed W g 3 (.int .i64 (lastN l k)) ∧ upto_ MayM l k ∧ B ≤ g ∧ g ≠ q
theorem ChkI.on {l : List (Ld Pm)} {B g q k : Nat} {W W' : World} (h : ChkI l B g q k W) (hb : Below W.heap.size W W') : ChkI l B g q k W' :=
  ⟨Boxed.below' h.1 hb h.1.lt, Boxed.below' h.2.1 hb h.2.1.lt, h.2.2.1, h.2.2.2⟩
set_option maxHeartbeats 3200000 in
theorem check1_any {l : List (Ld Pm)} {B g q k : Nat} {w : World} {p : Ld Pm} {r : Lr} (hp : l[k]? = some p) (hr : Lrd w B r p) (hB : B ≤ w.heap.size) (h : ChkI l B g q k w) :
    Calls Try.prog 37 #[.agg (lcells r.1 r.2.1 r.2.2.1 r.2.2.2), .pointer (some ⟨q, 0, none⟩)] w fun e w' => ∃ b : Bool, e = .returned (.bool b) ∧ Hid ((b = false ∧ ¬ upto_ MayM l (k + 1) ∨ b = !false ∧ ChkI l B g q (k + 1) w') ∧ Below B w w') := by
  obtain ⟨x, y, z, R⟩ := r
  obtain ⟨W, hW⟩ : ∃ W, W = w.alloc (.cells (lcells x y z R) 40) := ⟨_, rfl⟩
  have B0 := hid (show Below w.heap.size w W from hW ▸ (Below.refl _ w).alloc (Nat.le_refl _) _)
  have X0 := hid (show Lbx W w.heap.size x y z R from hW ▸ Lbx.new w x y z R)
  have I0 := hid (h.on B0.out)
  have HM := hid (mayBe_any (w := W) (x := x) (y := y) (z := z) (M := R) (fun k hk => ((hr.rd k hk).mono hB).below B0.out |>.mono B0.out.size))
  have HY := hid (show ((x, y, z, pmd R) : Ld Pm) = p by
    obtain ⟨p1, p2, p3, p4⟩ := p
    have h1 := hr.nu; have h2 := hr.ep; have h3 := hr.cp; have h4 := hr.pl
    simp only at h1 h2 h3 h4
    rw [h1, h2, h3, h4])
  have HW := hid hW
  have HP := hid hp
  have Hq := hid h.1.lt
  have Hg := hid h.2.1.lt
  have HG := hid h.2.2.2.1
  have xl : W.rangeAt w.heap.size 0 (lcells x y z R).toList := fun t v hv => by
    rw [cell_of_row W _ _ _ _ (0, 0) X0.out, Nat.zero_add]
    simpa using hv
  clear hW hr hp h
  go_enter Try.func37, Try.ntmps37
  go_upto_region 1 with fail
  rw [← HW.out]
  go_wp2_with (first | (refine wp_lload rfl (.tmp 2) rfl w.heap.size 0 x y z R rfl xl ?_) | fail)
  refine HM.out.mono ?_
  rintro e w2 ⟨b, rfl, HB, H2⟩
  have BB := hid (gbelow_on B0.out (Nat.le_refl _) H2.out)
  have I2 := hid (I0.out.on H2.out)
  have X2 := hid (X0.out.below H2.out X0.out.lt)
  have d0 := X2.out.c0
  have dq := I2.out.1.cell
  cases b
  · have HN := hid (show ¬ upto_ MayM l (k + 1) from fun h => by
      have h1 := (h k p (Nat.lt_succ_self k) HP.out).1
      rw [← HY.out] at h1
      have := HB.out.2 h1
      cases this)
    go_wp2
    go_ret
    exact ⟨false, rfl, hid ⟨.inl ⟨rfl, HN.out⟩, BB.out.mono hB⟩⟩
  · have HY2 := hid (show MayL MayM p from HY.out ▸ HB.out.1 rfl)
    have HR := hid (rising1_any (n := x) I2.out.2.1)
    go_wp2_with fail
    refine HR.out.mono ?_
    rintro e w3 ⟨rfl, H3⟩
    have B3 := hid (H3.out.2.bel (BB.out.mono hB) HG.out)
    by_cases hx : lastN l k < x
    · rw [decide_eq_true hx]
      have I3 := hid (show ChkI l B g q (k + 1) w3 from ⟨H3.out.2.at I2.out.1 (Ne.symm I2.out.2.2.2.2), (show lastN l (k + 1) = x from (lastN_succ HP.out).trans (congrArg (·.1) HY.out).symm) ▸ H3.out.1, upto_next I2.out.2.2.1 HP.out HY2.out (fun a h0 ha => by
        obtain ⟨j, rfl⟩ : ∃ j, k = j + 1 := ⟨k - 1, by omega⟩
        rw [Nat.add_sub_cancel] at ha
        rw [lastN_succ ha] at hx
        have := congrArg (·.1) HY.out
        simp only at this hx
        omega), I2.out.2.2.2⟩)
      clear hx
      go_wp2
      go_ret
      exact ⟨true, rfl, hid ⟨.inr ⟨rfl, I3.out⟩, B3.out⟩⟩
    · rw [decide_eq_false hx]
      have HN := hid (show ¬ upto_ MayM l (k + 1) from fun h => by
        have h1 := (h k p (Nat.lt_succ_self k) HP.out)
        have h2 := congrArg (·.1) HY.out
        simp only at h2
        rcases k with _ | j
        · have := h1.1.1.1
          rw [lastN_zero] at hx
          omega
        · obtain ⟨a, ha⟩ : ∃ a, l[j]? = some a := ⟨_, List.getElem?_eq_getElem (by have := (List.getElem?_eq_some_iff.1 HP.out).1; omega)⟩
          have := h1.2 a (by omega) (by rw [Nat.add_sub_cancel]; exact ha)
          rw [lastN_succ ha] at hx
          omega)
      clear hx
      go_wp2
      go_ret
      exact ⟨false, rfl, hid ⟨.inl ⟨rfl, HN.out⟩, B3.out⟩⟩
set_option maxHeartbeats 1600000 in
theorem rising_any (w : World) : Calls Try.prog 36 #[] w fun e w' => e = .returned (.func (.func 50) #[] #[.pointer (some ⟨w.heap.size, 0, none⟩)]) ∧ Hid (Boxed w' w.heap.size 3 (.int .i64 (-1)) ∧ Below w.heap.size w w') := by
  have X0 := hid (show Boxed (w.alloc (.cells #[.int .i64 0] 3)) w.heap.size 3 (.int .i64 0) from heap_alloc_new w _)
  have B0 := hid ((Below.refl _ w).alloc (Nat.le_refl w.heap.size) (.cells #[.int .i64 0] 3))
  go_enter Try.func36, Try.ntmps36
  go_wp2_with (first
    | (refine gput_cell (P := Try.prog) rfl _ (.tmp 1) (.const (.int .i64 (-1))) rfl w.heap.size 0 (.int .i64 (-1)) 3 _ #[.int .i64 (-1)] rfl rfl rfl (by kernel_rfl) X0.out (show (0 : Nat) < 1 by decide) rfl ?_
       intro w3 x3 q3
       have X3 := hid (And.intro (boxed_at x3) (q3.bel B0.out (Nat.le_refl _)))
       clear x3 q3)
    | fail)
  go_ret
  exact ⟨rfl, X3⟩
set_option maxHeartbeats 3200000 in
theorem pcheck_any {w : World} {B n c : Nat} {A : Option Addr} {l : List (Ld Pm)} (h : Lls w B A n c l) (hB : B ≤ w.heap.size) :
    Calls Try.prog 18 #[.slice A n c] w fun e w' => e = .returned (.int .i64 (lE l)) ∧ Hid (Below w.heap.size w w') := by
  have H := hid (h.mono hB)
  have hm := h.max
  have hcap := h.cap
  have HL := hid h.len
  clear h
  by_cases hn : (n : Int) > 16
  · have hE := lE_many (l := l) (by rw [HL.out]; omega)
    rw [hE]
    go_enter Try.func18, Try.ntmps18
    go_wp2
    go_ret
    exact ⟨rfl, hid (Below.refl _ _)⟩
  have HN := hid (show ¬ 16 < l.length by rw [HL.out]; omega)
  have HR := hid (rising_any w)
  go_enter Try.func18, Try.ntmps18
  go_wp2_with fail
  refine HR.out.mono ?_
  rintro e w1 ⟨rfl, H1⟩
  have X1 := hid (show Boxed (w1.alloc (.cells #[.nilFunc] 68)) w1.heap.size 68 .nilFunc from heap_alloc_new w1 _)
  have B1 := hid ((Below.refl _ w1).alloc (Nat.le_refl w1.heap.size) (.cells #[.nilFunc] 68))
  have G1 := hid (show Boxed (w1.alloc (.cells #[.nilFunc] 68)) w.heap.size 3 (.int .i64 (-1)) from Boxed.below' H1.out.1 B1.out H1.out.1.lt)
  have L1 := hid H1.out.1.lt
  go_wp2_with (first
    | (refine gput_cell (P := Try.prog) rfl _ (.tmp 3) (.tmp 9) rfl w1.heap.size 0 (.func (.func 50) #[] #[.pointer (some ⟨w.heap.size, 0, none⟩)]) 68 _ #[.func (.func 50) #[] #[.pointer (some ⟨w.heap.size, 0, none⟩)]] rfl rfl rfl (by kernel_rfl) X1.out (show (0 : Nat) < 1 by decide) rfl ?_
       intro w3 x3 q3
       have X3 := hid (show ChkI l w.heap.size w.heap.size w1.heap.size 0 w3 from ⟨x3, q3.at G1.out (by have := L1.out; omega), fun j p hj => absurd hj (Nat.not_lt_zero _), Nat.le_refl _, by have := L1.out; omega⟩)
       have B3 := hid (q3.bel (gbelow_on H1.out.2 (Nat.le_refl _) B1.out) H1.out.2.size)
       have FC := hid (findb_any (ChkI l w.heap.size w.heap.size w1.heap.size) (fun k _ => ¬ upto_ MayM l (k + 1)) 37 #[.pointer (some ⟨w1.heap.size, 0, none⟩)] (fun _ _ => rfl) (H.out.below B3.out) B3.out.size false (fun k W W' hI hb => hI.on hb) X3.out (fun k p r W hp hb hr hI => check1_any hp hr (Nat.le_trans B3.out.size (by have := hb.size; exact this)) hI))
       clear x3 q3)
    | fail)
  refine FC.out.mono ?_
  rintro e w4 ⟨i, t, rfl, H4⟩
  have B4 := hid (B3.out.trans H4.out.2)
  rcases H4.out.1 with ⟨rfl, hi, hJ⟩ | ⟨rfl, rfl, hI⟩
  · have HE := hid (lE_bad HN.out (fun h => hJ (fun j p hj hp => upto_all.2 h j p (List.getElem?_eq_some_iff.1 hp).1 hp)))
    clear hJ
    go_wp2
    go_ret
    rw [HE.out]
    exact ⟨rfl, B4⟩
  · have HE := hid (lE_ok HN.out (upto_all.1 (by rw [HL.out]; exact hI.2.2.1)))
    clear hI
    go_wp2
    go_ret
    rw [HE.out]
    exact ⟨rfl, B4⟩
end Go.Proofs.Ytdcolnipdipkhaa.Fli
