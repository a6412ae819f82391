/- Flight, the program: Launch. -/
import Derived.Test.YtdcolnipdipkhaaVao
namespace Go.Proofs.Ytdcolnipdipkhaa.Fli
set_option maxRecDepth 100000
open Go.RowKit Go.Shelf Go.Lib

section
open Classical
/-- What Launch answers: the error, the loads. -/
noncomputable def lnE (l : List (Ld Pm)) (n ep : Int) (g : Pm) : Int := if askE l n = 0 then (if 0 ≤ ep ∧ ep ≤ 65535 then (if MayM g then (if fnd n l = none then (if l.length = 16 then 9 else 0) else 12) else 8) else 2) else askE l n
noncomputable def lnL (l : List (Ld Pm)) (n ep : Int) (g : Pm) : List (Ld Pm) := if lnE l n ep g = 0 then ins (n, ep, 1, g) l else []
theorem lnE_ask {l : List (Ld Pm)} {n ep : Int} {g : Pm} (h : askE l n ≠ 0) : lnE l n ep g = askE l n := by unfold lnE; rw [if_neg h]
theorem lnE_ep {l : List (Ld Pm)} {n ep : Int} {g : Pm} (h : askE l n = 0) (k : ¬ (0 ≤ ep ∧ ep ≤ 65535)) : lnE l n ep g = 2 := by unfold lnE; rw [if_pos h, if_neg k]
theorem lnE_bad {l : List (Ld Pm)} {n ep : Int} {g : Pm} (h : askE l n = 0) (k : 0 ≤ ep ∧ ep ≤ 65535) (m : ¬ MayM g) : lnE l n ep g = 8 := by unfold lnE; rw [if_pos h, if_pos k, if_neg m]
theorem lnE_again {l : List (Ld Pm)} {n ep : Int} {g : Pm} (h : askE l n = 0) (k : 0 ≤ ep ∧ ep ≤ 65535) (m : MayM g) (f : fnd n l ≠ none) : lnE l n ep g = 12 := by unfold lnE; rw [if_pos h, if_pos k, if_pos m, if_neg f]
theorem lnE_full {l : List (Ld Pm)} {n ep : Int} {g : Pm} (h : askE l n = 0) (k : 0 ≤ ep ∧ ep ≤ 65535) (m : MayM g) (f : fnd n l = none) (e : l.length = 16) : lnE l n ep g = 9 := by unfold lnE; rw [if_pos h, if_pos k, if_pos m, if_pos f, if_pos e]
theorem lnE_ok {l : List (Ld Pm)} {n ep : Int} {g : Pm} (h : askE l n = 0) (k : 0 ≤ ep ∧ ep ≤ 65535) (m : MayM g) (f : fnd n l = none) (e : ¬ l.length = 16) : lnE l n ep g = 0 := by unfold lnE; rw [if_pos h, if_pos k, if_pos m, if_pos f, if_neg e]
end
theorem lst_err {w w' : World} {l : List (Ld Pm)} {n ep q : Int} {g : Pm} (hE : lnE l n ep g = q) (hq : q ≠ 0) (hb : Below w.heap.size w w') : LstE w (lnL l n ep g) (lnE l n ep g) (.returned (.tuple #[.slice none 0 0, .int .i64 q])) w' := by
  have hL : lnL l n ep g = [] := by unfold lnL; rw [hE, if_neg hq]
  rw [hL, hE]
  exact ⟨_, [], rfl, hid ⟨Lof.nil _ _, hb⟩⟩
theorem SzL.ins {l : List (Ld Pm)} {x : Ld Pm} (h : SzL l) (k : SzM x.2.2.2) (hl : l.length ≤ 999) : SzL (ins x l) := ⟨by rw [ins_len]; omega, fun p hp => (ins_mem.1 hp).elim (fun e => e ▸ k) (fun m => h.2 p m)⟩
theorem launch1_any {w : World} {x y z n : Int} {R : Nat → Dy} {g : Nat} (h : Boxed w g 3 (.int .i64 n)) :
    Calls Try.prog 28 #[.agg (lcells x y z R), .pointer (some ⟨g, 0, none⟩)] w fun e w' => e = .returned (.bool (decide (n < x))) ∧ Hid (Below w.heap.size w w') := by
  obtain ⟨W, hW⟩ : ∃ W, W = w.alloc (.cells (lcells x y z R) 40) := ⟨_, rfl⟩
  have B0 := hid (show Below w.heap.size w W from hW ▸ (Below.refl _ w).alloc (Nat.le_refl _) _)
  have X0 := hid (show Lbx W w.heap.size x y z R from hW ▸ Lbx.new w x y z R)
  have x0 := X0.out.c0
  have hc := (Boxed.below' h B0.out h.lt).cell
  have HW := hid hW
  clear hW h
  by_cases hx : x > n
  · rw [decide_eq_true (show n < x from hx)]
    go_enter Try.func28, Try.ntmps28
    go_upto_region 1 with fail
    rw [← HW.out]
    go_wp2
    go_ret
    exact ⟨rfl, B0⟩
  · rw [decide_eq_false (show ¬ n < x from hx)]
    go_enter Try.func28, Try.ntmps28
    go_upto_region 1 with fail
    rw [← HW.out]
    go_wp2
    go_ret
    exact ⟨rfl, B0⟩
/-- What Launch's find keeps. -/
def LnI (l : List (Ld Pm)) (n : Int) (g : Nat) (k : Nat) (W : World) : Prop := Boxed W g 3 (.int .i64 n) ∧ ∀ (j : Nat) (p : Ld Pm), j < k → l[j]? = some p → ¬ n < p.1
theorem findl_any {w : World} {B a c g : Nat} {A : Option Addr} {l : List (Ld Pm)} {n : Int} (h : Lls w B A a c l) (hB : B ≤ w.heap.size) (hg : Boxed w g 3 (.int .i64 n)) :
    Calls Try.prog 27 #[.slice A a c, .func (.func 28) #[] #[.pointer (some ⟨g, 0, none⟩)], .bool true] w fun e w' => ∃ (i : Nat) (t : Bool), e = .returned (.tuple #[.int .i64 (i : Int), .bool t]) ∧ Hid (i ≤ a ∧ (∀ x : Ld Pm, x.1 = n → l.take i ++ ([x] ++ l.drop i) = ins x l) ∧ Below w.heap.size w w') := by
  have hl := h.len
  refine (findb_any (LnI l n g) (fun k W => LnI l n g k W ∧ ∃ p, l[k]? = some p ∧ n < p.1) 28 #[.pointer (some ⟨g, 0, none⟩)] (fun _ _ => rfl) (h.mono hB) (Nat.le_refl _) true (fun k W W' hI hb => ⟨Boxed.below' hI.1 hb hI.1.lt, hI.2⟩) ⟨hg, fun j p hj => absurd hj (Nat.not_lt_zero _)⟩ (fun k p r W hp hb hr hI => ?_)).mono ?_
  · refine (launch1_any hI.1).mono ?_
    rintro e w' ⟨rfl, h2⟩
    have hnu := hr.nu
    refine ⟨_, rfl, hid ⟨?_, h2.out.mono hb.size⟩⟩
    by_cases hx : n < r.1
    · exact .inl ⟨decide_eq_true hx, ⟨Boxed.below' hI.1 h2.out hI.1.lt, hI.2⟩, p, hp, hnu ▸ hx⟩
    · refine .inr ⟨decide_eq_false hx, Boxed.below' hI.1 h2.out hI.1.lt, fun j q hj hq => ?_⟩
      rcases Nat.lt_or_ge j k with h1 | h1
      · exact hI.2 j q h1 hq
      · obtain rfl : j = k := by omega
        rw [hp] at hq
        injection hq with hq
        exact hq ▸ hnu ▸ hx
  · rintro e w' ⟨i, t, rfl, h2⟩
    rcases h2.out.1 with ⟨rfl, hi, hJ, p, hp, hpx⟩ | ⟨rfl, rfl, hI⟩
    · refine ⟨i, true, rfl, hid ⟨by omega, fun x hx => ins_at (by rw [hl]; omega) (fun j q hj hq => by rw [hx]; exact hJ.2 j q hj hq) (fun q hq => by rw [hp] at hq; injection hq with hq; rw [hx, ← hq]; exact hpx), h2.out.2⟩⟩
    · exact ⟨i, false, rfl, hid ⟨Nat.le_refl _, fun x hx => ins_at (by rw [hl]; exact Nat.le_refl _) (fun j q hj hq => by rw [hx]; exact hI.2 j q hj hq) (fun q hq => by have := (List.getElem?_eq_some_iff.1 hq).1; omega), h2.out.2⟩⟩
set_option maxHeartbeats 3200000 in
theorem launch_ask {w : World} {B a c : Nat} {A : Option Addr} {l : List (Ld Pm)} {n ep : Int} {M : Nat → Dy} (h : Lls w B A a c l) (hB : B ≤ w.heap.size) (h0 : askE l n ≠ 0) :
    Calls Try.prog 8 #[.slice A a c, .int .i64 n, .int .i64 ep, .agg (mcells M)] w (LstE w (lnL l n ep (pmd M)) (lnE l n ep (pmd M))) := by
  obtain ⟨W, hW⟩ : ∃ W, W = (w.alloc (.cells #[.int .i64 n] 3)).alloc (.cells (mcells M) 27) := ⟨_, rfl⟩
  have B0 := hid (show Below w.heap.size w W from hW ▸ below_two w _ _)
  have N0 := hid (show Boxed W w.heap.size 3 (.int .i64 n) from hW ▸ (heap_two w _ _).1)
  have M0 := hid (show Mbox W (w.heap.size + 1) M from hW ▸ (heap_two w _ _).2)
  have HW := hid hW
  have HN := hid (fun (X : World) (hX : Below w.heap.size w X) => numbers_any (w := X) ((h.mono hB).below hX) hX.size)
  have HQ := hid (fun (X : World) (hX : Below w.heap.size w X) (g3 g1 : Nat) h3 h1 => numbers1_any (w := X) (g3 := g3) (g1 := g1) ((h.mono hB).below hX) hX.size h3 h1 n)
  have HE := hid (lnE_ask (ep := ep) (g := pmd M) h0)
  unfold NumR at HQ
  obtain ⟨q, hq⟩ : ∃ q, q = askE l n := ⟨_, rfl⟩
  rw [← hq] at HQ HE h0
  have hne : ¬ q = 0 := h0
  clear hW h hq
  go_enter Try.func8, Try.ntmps8
  go_upto_region 1 with fail
  rw [← HW.out]
  go_upto_region 1 with fail
  have mixed : Try.prog.follows .mixedOrders = true := by kernel_rfl
  refine wp_region_held_drew (S := fun X => X.cell? ⟨w.heap.size, 0, none⟩ = some (.int .i64 n)) (by kernel_rfl) (N0.out.cell) (fun hHeld => ?_)
  have BX := hid (show Below W.heap.size W W.drew from (Below.refl W.heap.size W).drew)
  generalize W.drew = V at *
  refine wpAnyH_take (i := 0) (v := ?va1) rfl (by kernel_rfl) (by kernel_rfl) (by kernel_rfl) (fun _ _ _ h => h) (Or.inl ⟨by rfl, ?ya1⟩) (by assumption) ?ra1
  case ya1 => (intro w0 hSw; (try dsimp only at hSw); (try simp only [List.getElem_toArray, List.getElem_cons_zero]); go_simp; try with_reducible rfl)
  (try simp only [Act.put, List.setIfInBounds_toArray, List.set_cons_zero, List.set_cons_succ, List.getElem_toArray, List.getElem_cons_zero])
  refine wpAnyH_take (i := 2) (v := ?va2) rfl (by kernel_rfl) (by kernel_rfl) (by kernel_rfl) (fun _ _ _ h => h) (Or.inl ⟨by rfl, ?ya2⟩) (by assumption) ?ra2
  case ya2 => (intro w0 hSw; (try dsimp only at hSw); (try simp only [List.getElem_toArray, List.getElem_cons_succ, List.getElem_cons_zero]); go_simp; try with_reducible rfl)
  (try simp only [Act.put, List.setIfInBounds_toArray, List.set_cons_zero, List.set_cons_succ, List.getElem_toArray, List.getElem_cons_succ, List.getElem_cons_zero])
  refine wpAnyH_ready (rs := [1]) (by kernel_rfl) (by simp) ?_
  refine AllReadyH.cons rfl (fun K' hK => ?_) AllReadyH.nil
  (try simp only [Act.put, List.setIfInBounds_toArray, List.set_cons_zero, List.set_cons_succ, List.getElem_toArray, List.getElem_cons_succ, List.getElem_cons_zero])
  go_simp
  refine (HN.out V (gbelow_on B0.out (Nat.le_refl _) BX.out)).mono ?_
  rintro e w1 ⟨g3, g1, rfl, H1⟩
  have B1 := hid (gbelow_on BX.out (Nat.le_refl _) H1.out.2.2)
  have HC := hid (HQ.out w1 (gbelow_on B0.out (Nat.le_refl _) B1.out) g3 g1 H1.out.1 H1.out.2.1)
  try dsimp only
  refine hK.out _ _ ((Boxed.below' N0.out B1.out N0.out.lt).cell) (fun hHeld => ?_)
  clear hK K'
  (try simp only [Act.put, List.setIfInBounds_toArray, List.set_cons_zero, List.set_cons_succ, List.getElem_toArray, List.getElem_cons_succ, List.getElem_cons_zero])
  refine wpAnyH_ready (rs := [3]) (by kernel_rfl) (by simp) ?_
  refine AllReadyH.cons rfl (fun K' hK => ?_) AllReadyH.nil
  (try simp only [Act.put, List.setIfInBounds_toArray, List.set_cons_zero, List.set_cons_succ, List.getElem_toArray, List.getElem_cons_succ, List.getElem_cons_zero])
  go_simp
  refine HC.out.mono ?_
  rintro e w2 ⟨i, t, rfl, H2⟩
  have B2 := hid (gbelow_on B1.out (Nat.le_refl _) H2.out.2)
  have N2 := hid (Boxed.below' N0.out B2.out N0.out.lt)
  have M2 := hid (show Mbox w2 (w.heap.size + 1) M from M0.out.below B2.out M0.out.lt)
  have BB := hid (gbelow_on B0.out (Nat.le_refl _) B2.out)
  try dsimp only
  refine hK.out _ _ (N2.out.cell) (fun hHeld => ?_)
  clear hK K'
  (try simp only [Act.put, List.setIfInBounds_toArray, List.set_cons_zero, List.set_cons_succ, List.getElem_toArray, List.getElem_cons_succ, List.getElem_cons_zero])
  refine wpAnyH_take (i := 4) (v := ?va3) rfl (by kernel_rfl) (by kernel_rfl) (by kernel_rfl) (fun _ _ _ h => h) (Or.inl ⟨by rfl, ?ya3⟩) (by assumption) ?ra3
  case ya3 => (intro w0 hSw; (try dsimp only at hSw); (try simp only [List.getElem_toArray, List.getElem_cons_succ, List.getElem_cons_zero]); go_simp; try with_reducible rfl)
  (try simp only [Act.put, List.setIfInBounds_toArray, List.set_cons_zero, List.set_cons_succ, List.getElem_toArray, List.getElem_cons_succ, List.getElem_cons_zero])
  refine wpAnyH_take (i := 5) (v := ?va4) rfl (by kernel_rfl) (by kernel_rfl) (by kernel_rfl) (fun _ _ _ h => h) (Or.inl ⟨by rfl, ?ya4⟩) (by assumption) ?ra4
  case ya4 => (intro w0 hSw; (try dsimp only at hSw); (try simp only [List.getElem_toArray, List.getElem_cons_succ, List.getElem_cons_zero]); go_simp; try with_reducible rfl)
  (try simp only [Act.put, List.setIfInBounds_toArray, List.set_cons_zero, List.set_cons_succ, List.getElem_toArray, List.getElem_cons_succ, List.getElem_cons_zero])
  refine wpAnyH_take (i := 6) (v := ?va5) rfl (by kernel_rfl) (by kernel_rfl) (by kernel_rfl) (fun _ _ _ h => h) (Or.inl ⟨by rfl, ?ya5⟩) (by assumption) ?ra5
  case ya5 => (intro w0 hSw; (try dsimp only at hSw); (try simp only [List.getElem_toArray, List.getElem_cons_succ, List.getElem_cons_zero]); go_simp; try with_reducible rfl)
  (try simp only [Act.put, List.setIfInBounds_toArray, List.set_cons_zero, List.set_cons_succ, List.getElem_toArray, List.getElem_cons_succ, List.getElem_cons_zero])
  refine wpAnyH_take (i := 7) (v := ?va6) rfl (by kernel_rfl) (by kernel_rfl) (by kernel_rfl) (fun _ _ _ h => h) (Or.inl ⟨by rfl, ?ya6⟩) (by assumption) ?ra6
  case ya6 => (intro w0 hSw; (try dsimp only at hSw); (try simp only [List.getElem_toArray, List.getElem_cons_succ, List.getElem_cons_zero]); go_simp; try with_reducible rfl)
  (try simp only [Act.put, List.setIfInBounds_toArray, List.set_cons_zero, List.set_cons_succ, List.getElem_toArray, List.getElem_cons_succ, List.getElem_cons_zero])
  refine wpAnyH_take (i := 8) (v := ?va7) rfl (by kernel_rfl) (by kernel_rfl) (by kernel_rfl) (fun _ _ _ h => h) (Or.inl ⟨by rfl, ?ya7⟩) (by assumption) ?ra7
  case ya7 => (intro w0 hSw; (try dsimp only at hSw); (try simp only [List.getElem_toArray, List.getElem_cons_succ, List.getElem_cons_zero]); go_simp; try with_reducible rfl)
  (try simp only [Act.put, List.setIfInBounds_toArray, List.set_cons_zero, List.set_cons_succ, List.getElem_toArray, List.getElem_cons_succ, List.getElem_cons_zero])
  refine wpAnyH_take (i := 9) (v := ?va8) rfl (by kernel_rfl) (by kernel_rfl) (by kernel_rfl) (fun _ _ _ h => h) (Or.inl ⟨by rfl, ?ya8⟩) (by assumption) ?ra8
  case ya8 => (intro w0 hSw; (try dsimp only at hSw); (try simp only [List.getElem_toArray, List.getElem_cons_succ, List.getElem_cons_zero]); go_simp; try with_reducible rfl)
  (try simp only [Act.put, List.setIfInBounds_toArray, List.set_cons_zero, List.set_cons_succ, List.getElem_toArray, List.getElem_cons_succ, List.getElem_cons_zero])
  refine wpAnyH_take (i := 10) (v := ?va9) rfl (by kernel_rfl) (by kernel_rfl) (by kernel_rfl) (fun _ _ _ h => h) (Or.inl ⟨by rfl, ?ya9⟩) (by assumption) ?ra9
  case ya9 => (intro w0 hSw; (try dsimp only at hSw); (try simp only [List.getElem_toArray, List.getElem_cons_succ, List.getElem_cons_zero]); go_simp; try with_reducible rfl)
  (try simp only [Act.put, List.setIfInBounds_toArray, List.set_cons_zero, List.set_cons_succ, List.getElem_toArray, List.getElem_cons_succ, List.getElem_cons_zero])
  refine wpAnyH_done (by kernel_rfl) ?_ _
  go_wp2
  go_ret2
  exact lst_err HE.out h0 BB.out
theorem mbox_row {w : World} {g : Nat} {M : Nat → Dy} (h : Mbox w g M) : w.rangeAt g 0 (mcells M).toList := fun t v hv => by
  rw [cell_of_row w _ _ _ _ (0, 0) h, Nat.zero_add]
  simpa using hv
set_option maxHeartbeats 6400000 in
theorem launch_on {w : World} {B a c : Nat} {A : Option Addr} {l : List (Ld Pm)} {n ep : Int} {M : Nat → Dy} (h : Lls w B A a c l) (hM : Mrd w B M) (hnil : ∀ k, k < 4 → (M k).A = none → (M k).n = 0 ∧ (M k).c = 0) (hB : B ≤ w.heap.size) (hz : SzL l) (hzm : SzM (pmd M)) (h0 : askE l n = 0) :
    Calls Try.prog 8 #[.slice A a c, .int .i64 n, .int .i64 ep, .agg (mcells M)] w (LstE w (lnL l n ep (pmd M)) (lnE l n ep (pmd M))) := by
  obtain ⟨W, hW⟩ : ∃ W, W = (w.alloc (.cells #[.int .i64 n] 3)).alloc (.cells (mcells M) 27) := ⟨_, rfl⟩
  have B0 := hid (show Below w.heap.size w W from hW ▸ below_two w _ _)
  have N0 := hid (show Boxed W w.heap.size 3 (.int .i64 n) from hW ▸ (heap_two w _ _).1)
  have M0 := hid (show Mbox W (w.heap.size + 1) M from hW ▸ (heap_two w _ _).2)
  have HW := hid hW
  have HN := hid (fun (X : World) (hX : Below w.heap.size w X) => numbers_any (w := X) ((h.mono hB).below hX) hX.size)
  have HQ := hid (fun (X : World) (hX : Below w.heap.size w X) (g3 g1 : Nat) h3 h1 => numbers1_any (w := X) (g3 := g3) (g1 := g1) ((h.mono hB).below hX) hX.size h3 h1 n)
  unfold NumR at HQ
  rw [h0] at HQ
  have H0 := hid h0
  have HL := hid h.len
  have HK := hid h
  have HM := hid hM
  have HZ := hid hz
  have HZM := hid hzm
  have HNIL := hid hnil
  have hmax := h.max
  have hcap := h.cap
  clear hW h hM hz hzm h0 hnil
  go_enter Try.func8, Try.ntmps8
  go_upto_region 1 with fail
  rw [← HW.out]
  go_upto_region 1 with fail
  have mixed : Try.prog.follows .mixedOrders = true := by kernel_rfl
  refine wp_region_held_drew (S := fun X => X.cell? ⟨w.heap.size, 0, none⟩ = some (.int .i64 n)) (by kernel_rfl) (N0.out.cell) (fun hHeld => ?_)
  have BX := hid (show Below W.heap.size W W.drew from (Below.refl W.heap.size W).drew)
  generalize W.drew = V at *
  refine wpAnyH_take (i := 0) (v := ?vb1) rfl (by kernel_rfl) (by kernel_rfl) (by kernel_rfl) (fun _ _ _ h => h) (Or.inl ⟨by rfl, ?yb1⟩) (by assumption) ?rb1
  case yb1 => (intro w0 hSw; (try dsimp only at hSw); (try simp only [List.getElem_toArray, List.getElem_cons_zero]); go_simp; try with_reducible rfl)
  (try simp only [Act.put, List.setIfInBounds_toArray, List.set_cons_zero, List.set_cons_succ, List.getElem_toArray, List.getElem_cons_zero])
  refine wpAnyH_take (i := 2) (v := ?vb2) rfl (by kernel_rfl) (by kernel_rfl) (by kernel_rfl) (fun _ _ _ h => h) (Or.inl ⟨by rfl, ?yb2⟩) (by assumption) ?rb2
  case yb2 => (intro w0 hSw; (try dsimp only at hSw); (try simp only [List.getElem_toArray, List.getElem_cons_succ, List.getElem_cons_zero]); go_simp; try with_reducible rfl)
  (try simp only [Act.put, List.setIfInBounds_toArray, List.set_cons_zero, List.set_cons_succ, List.getElem_toArray, List.getElem_cons_succ, List.getElem_cons_zero])
  refine wpAnyH_ready (rs := [1]) (by kernel_rfl) (by simp) ?_
  refine AllReadyH.cons rfl (fun K' hK => ?_) AllReadyH.nil
  (try simp only [Act.put, List.setIfInBounds_toArray, List.set_cons_zero, List.set_cons_succ, List.getElem_toArray, List.getElem_cons_succ, List.getElem_cons_zero])
  go_simp
  refine (HN.out V (gbelow_on B0.out (Nat.le_refl _) BX.out)).mono ?_
  rintro e w1 ⟨g3, g1, rfl, H1⟩
  have B1 := hid (gbelow_on BX.out (Nat.le_refl _) H1.out.2.2)
  have HC := hid (HQ.out w1 (gbelow_on B0.out (Nat.le_refl _) B1.out) g3 g1 H1.out.1 H1.out.2.1)
  try dsimp only
  refine hK.out _ _ ((Boxed.below' N0.out B1.out N0.out.lt).cell) (fun hHeld => ?_)
  clear hK K'
  (try simp only [Act.put, List.setIfInBounds_toArray, List.set_cons_zero, List.set_cons_succ, List.getElem_toArray, List.getElem_cons_succ, List.getElem_cons_zero])
  refine wpAnyH_ready (rs := [3]) (by kernel_rfl) (by simp) ?_
  refine AllReadyH.cons rfl (fun K' hK => ?_) AllReadyH.nil
  (try simp only [Act.put, List.setIfInBounds_toArray, List.set_cons_zero, List.set_cons_succ, List.getElem_toArray, List.getElem_cons_succ, List.getElem_cons_zero])
  go_simp
  refine HC.out.mono ?_
  rintro e w2 ⟨i, t, rfl, H2⟩
  have B2 := hid (gbelow_on B1.out (Nat.le_refl _) H2.out.2)
  have N2 := hid (Boxed.below' N0.out B2.out N0.out.lt)
  have M2 := hid (show Mbox w2 (w.heap.size + 1) M from M0.out.below B2.out M0.out.lt)
  have BB := hid (gbelow_on B0.out (Nat.le_refl _) B2.out)
  try dsimp only
  refine hK.out _ _ (N2.out.cell) (fun hHeld => ?_)
  clear hK K'
  (try simp only [Act.put, List.setIfInBounds_toArray, List.set_cons_zero, List.set_cons_succ, List.getElem_toArray, List.getElem_cons_succ, List.getElem_cons_zero])
  refine wpAnyH_take (i := 4) (v := ?vb3) rfl (by kernel_rfl) (by kernel_rfl) (by kernel_rfl) (fun _ _ _ h => h) (Or.inl ⟨by rfl, ?yb3⟩) (by assumption) ?rb3
  case yb3 => (intro w0 hSw; (try dsimp only at hSw); (try simp only [List.getElem_toArray, List.getElem_cons_succ, List.getElem_cons_zero]); go_simp; try with_reducible rfl)
  (try simp only [Act.put, List.setIfInBounds_toArray, List.set_cons_zero, List.set_cons_succ, List.getElem_toArray, List.getElem_cons_succ, List.getElem_cons_zero])
  refine wpAnyH_take (i := 5) (v := ?vb4) rfl (by kernel_rfl) (by kernel_rfl) (by kernel_rfl) (fun _ _ _ h => h) (Or.inl ⟨by rfl, ?yb4⟩) (by assumption) ?rb4
  case yb4 => (intro w0 hSw; (try dsimp only at hSw); (try simp only [List.getElem_toArray, List.getElem_cons_succ, List.getElem_cons_zero]); go_simp; try with_reducible rfl)
  (try simp only [Act.put, List.setIfInBounds_toArray, List.set_cons_zero, List.set_cons_succ, List.getElem_toArray, List.getElem_cons_succ, List.getElem_cons_zero])
  refine wpAnyH_take (i := 6) (v := ?vb5) rfl (by kernel_rfl) (by kernel_rfl) (by kernel_rfl) (fun _ _ _ h => h) (Or.inl ⟨by rfl, ?yb5⟩) (by assumption) ?rb5
  case yb5 => (intro w0 hSw; (try dsimp only at hSw); (try simp only [List.getElem_toArray, List.getElem_cons_succ, List.getElem_cons_zero]); go_simp; try with_reducible rfl)
  (try simp only [Act.put, List.setIfInBounds_toArray, List.set_cons_zero, List.set_cons_succ, List.getElem_toArray, List.getElem_cons_succ, List.getElem_cons_zero])
  refine wpAnyH_take (i := 7) (v := ?vb6) rfl (by kernel_rfl) (by kernel_rfl) (by kernel_rfl) (fun _ _ _ h => h) (Or.inl ⟨by rfl, ?yb6⟩) (by assumption) ?rb6
  case yb6 => (intro w0 hSw; (try dsimp only at hSw); (try simp only [List.getElem_toArray, List.getElem_cons_succ, List.getElem_cons_zero]); go_simp; try with_reducible rfl)
  (try simp only [Act.put, List.setIfInBounds_toArray, List.set_cons_zero, List.set_cons_succ, List.getElem_toArray, List.getElem_cons_succ, List.getElem_cons_zero])
  refine wpAnyH_take (i := 8) (v := ?vb7) rfl (by kernel_rfl) (by kernel_rfl) (by kernel_rfl) (fun _ _ _ h => h) (Or.inl ⟨by rfl, ?yb7⟩) (by assumption) ?rb7
  case yb7 => (intro w0 hSw; (try dsimp only at hSw); (try simp only [List.getElem_toArray, List.getElem_cons_succ, List.getElem_cons_zero]); go_simp; try with_reducible rfl)
  (try simp only [Act.put, List.setIfInBounds_toArray, List.set_cons_zero, List.set_cons_succ, List.getElem_toArray, List.getElem_cons_succ, List.getElem_cons_zero])
  refine wpAnyH_take (i := 9) (v := ?vb8) rfl (by kernel_rfl) (by kernel_rfl) (by kernel_rfl) (fun _ _ _ h => h) (Or.inl ⟨by rfl, ?yb8⟩) (by assumption) ?rb8
  case yb8 => (intro w0 hSw; (try dsimp only at hSw); (try simp only [List.getElem_toArray, List.getElem_cons_succ, List.getElem_cons_zero]); go_simp; try with_reducible rfl)
  (try simp only [Act.put, List.setIfInBounds_toArray, List.set_cons_zero, List.set_cons_succ, List.getElem_toArray, List.getElem_cons_succ, List.getElem_cons_zero])
  refine wpAnyH_take (i := 10) (v := ?vb9) rfl (by kernel_rfl) (by kernel_rfl) (by kernel_rfl) (fun _ _ _ h => h) (Or.inl ⟨by rfl, ?yb9⟩) (by assumption) ?rb9
  case yb9 => (intro w0 hSw; (try dsimp only at hSw); (try simp only [List.getElem_toArray, List.getElem_cons_succ, List.getElem_cons_zero]); go_simp; try with_reducible rfl)
  (try simp only [Act.put, List.setIfInBounds_toArray, List.set_cons_zero, List.set_cons_succ, List.getElem_toArray, List.getElem_cons_succ, List.getElem_cons_zero])
  refine wpAnyH_done (by kernel_rfl) ?_ _
  clear HN HQ
  have HF := hid (H2.out.1 (by trivial))
  by_cases hep : 0 ≤ ep ∧ ep ≤ 65535
  case neg =>
    have CW := hid (within_no hep)
    have HE := hid (lnE_ep (g := pmd M) H0.out hep)
    clear hep
    go_wp2_with fail
    refine (CW.out _).mono ?_
    rintro e w3 ⟨rfl, rfl⟩
    go_wp2
    go_ret2
    exact lst_err HE.out (by decide) BB.out
  have CW := hid (within_yes hep)
  have HEP := hid hep
  clear hep
  have CM := hid (mcheck_any (w := w2) (M := M) (fun k hk => ((HM.out k hk).below (BB.out.mono hB)).mono (Nat.le_trans hB BB.out.size)))
  have m2 := mbox_row M2.out
  go_wp2_with fail
  refine (CW.out _).mono ?_
  rintro e w3 ⟨rfl, rfl⟩
  go_wp2_with (first | (refine wp_lm rfl (.tmp 7) rfl (w.heap.size + 1) 0 M rfl m2 ?_) | fail)
  refine CM.out.mono ?_
  rintro e w3 ⟨er, rfl, H3, H4, H5⟩
  have B3 := hid (gbelow_on BB.out (Nat.le_refl _) H5.out)
  have N3 := hid (Boxed.below' N2.out H5.out N2.out.lt)
  have M3 := hid (show Mbox w3 (w.heap.size + 1) M from M2.out.below H5.out M2.out.lt)
  clear m2
  rcases H4.out with rfl | rfl
  case inr =>
    have HE := hid (lnE_bad (g := pmd M) H0.out HEP.out (fun hm => absurd (H3.out.2 ((may_pmd M).1 hm)) (by decide)))
    go_wp2
    go_ret2
    exact lst_err HE.out (by decide) B3.out
  have HMM := hid (show MayM (pmd M) from (may_pmd M).2 (H3.out.1 rfl))
  cases t
  case true =>
    have HE := hid (lnE_again (g := pmd M) H0.out HEP.out HMM.out (by
      rcases HF.out with ⟨_, _, p, _, hp⟩ | ⟨h, _⟩
      · rw [hp]; simp
      · cases h))
    go_wp2
    go_ret2
    exact lst_err HE.out (by decide) B3.out
  have HFN := hid (show fnd n l = none by
    rcases HF.out with ⟨h, _⟩ | ⟨_, h⟩
    · cases h
    · exact h)
  by_cases h16 : (a : Int) = 16
  · have HE := hid (lnE_full (g := pmd M) H0.out HEP.out HMM.out HFN.out (by rw [HL.out]; omega))
    go_wp2
    go_ret2
    exact lst_err HE.out (by decide) B3.out
  have HE := hid (lnE_ok (g := pmd M) H0.out HEP.out HMM.out HFN.out (by rw [HL.out]; omega))
  have h16l := hid (show l.length ≤ 16 from (askE_zero.1 H0.out).1.1)
  have HFL := hid (findl_any (n := n) (HK.out.below (B3.out.mono hB)) (Nat.le_trans hB B3.out.size) N3.out)
  clear CW CM HF H2 HC H1
  go_wp2_with fail
  refine HFL.out.mono ?_
  rintro e w4 ⟨i2, t2, rfl, H6⟩
  have B4 := hid (gbelow_on B3.out (Nat.le_refl _) H6.out.2.2)
  have N4 := hid (Boxed.below' N3.out H6.out.2.2 N3.out.lt)
  have M4 := hid (show Mbox w4 (w.heap.size + 1) M from M3.out.below H6.out.2.2 M3.out.lt)
  have n4 := N4.out.cell
  have m4 := mbox_row M4.out
  have HIN := hid (H6.out.2.1 (n, ep, 1, pmd M) rfl)
  have HI2 := hid H6.out.1
  clear H6 HFL
  have BA := hid ((Below.refl _ w4).alloc (Nat.le_refl w4.heap.size) (.cells (lcells n ep 1 M) 40))
  have hB4 := Nat.le_trans hB B4.out.size
  have CA := hid (show Lls (w4.alloc (.cells (lcells n ep 1 M) 40)) (w4.alloc (.cells (lcells n ep 1 M) 40)).heap.size (some ⟨w4.heap.size, 0, none⟩) 1 1 [(n, ep, 1, pmd M)] from
    ⟨[(n, ep, 1, M)], Gs.new (cs := cellsL [(n, ep, 1, M)]) (heap_alloc_new w4 _) (by simp) rfl (Nat.le_refl _) (by omega), PairL.one ⟨rfl, rfl, rfl, rfl, fun k hk => ((HM.out k hk).below ((gbelow_on B4.out (Nat.le_refl _) BA.out).mono hB)).mono (Nat.le_trans hB4 BA.out.size), HNIL.out⟩⟩)
  have CWI := hid (with_any (low := i2) (high := i2) (((HK.out.below ((gbelow_on B4.out (Nat.le_refl _) BA.out).mono hB))).mono (Nat.le_trans hB4 BA.out.size)) CA.out (Nat.le_refl _) (Nat.le_refl _) HI2.out (by rw [HIN.out]; exact HZ.out.ins HZM.out (by have := h16l.out; omega)))
  rw [HIN.out] at CWI
  clear CA HI2 HK HM HNIL HMM HFN N4 M4
  go_wp2_with (first
    | (refine wp_lm rfl (.tmp 7) rfl (w.heap.size + 1) 0 M rfl m4 ?_)
    | fail)
  refine CWI.out.mono ?_
  rintro e w5 ⟨v, rs, rfl, H7⟩
  have H8 := hid (And.intro H7.out.1 (gbelow_on (gbelow_on B4.out (Nat.le_refl _) BA.out) (Nat.le_refl _) H7.out.2))
  clear H7
  go_wp2
  go_ret2
  rw [HE.out, show lnL l n ep (pmd M) = ins (n, ep, 1, pmd M) l by unfold lnL; rw [HE.out]; rfl]
  exact ⟨v, rs, rfl, hid ⟨H8.out.1.mono (Nat.le_trans B4.out.size BA.out.size), H8.out.2⟩⟩
theorem launch_any {w : World} {B a c : Nat} {A : Option Addr} {l : List (Ld Pm)} {n ep : Int} {M : Nat → Dy} (h : Lls w B A a c l) (hM : Mrd w B M) (hnil : ∀ k, k < 4 → (M k).A = none → (M k).n = 0 ∧ (M k).c = 0) (hB : B ≤ w.heap.size) (hz : SzL l) (hzm : SzM (pmd M)) :
    Calls Try.prog 8 #[.slice A a c, .int .i64 n, .int .i64 ep, .agg (mcells M)] w (LstE w (lnL l n ep (pmd M)) (lnE l n ep (pmd M))) := by
  by_cases h0 : askE l n = 0
  · exact launch_on h hM hnil hB hz hzm h0
  · exact launch_ask h hB h0
end Go.Proofs.Ytdcolnipdipkhaa.Fli
