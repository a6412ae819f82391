/- Flight, the program: Same. -/
import Derived.Test.YtejngjhdmneaiaaZpl
namespace Go.Proofs.Ytejngjhdmneaiaa.Fli
set_option maxRecDepth 100000
open Go.RowKit Go.Shelf Go.Lib

set_option maxHeartbeats 3200000 in
theorem same1_any {w : World} {x y z x' y' z' : Int} {D E : Nat → Dy} (h : Mrd w w.heap.size D) (k : Mrd w w.heap.size E) :
    Calls Try.prog 51 #[.agg (lcells x y z D), .agg (lcells x' y' z' E)] w (Says w (x = x' ∧ y = y' ∧ z = z' ∧ ∀ j, j < 4 → Dsm (D j) (E j))) := by
  obtain ⟨W, hW⟩ : ∃ W, W = (w.alloc (.cells (lcells x y z D) 40)).alloc (.cells (lcells x' y' z' E) 40) := ⟨_, rfl⟩
  have B0 := hid (show Below w.heap.size w W from hW ▸ below_two w _ _)
  have X0 := hid (show Lbx W w.heap.size x y z D from hW ▸ (heap_two w _ _).1)
  have Y0 := hid (show Lbx W (w.heap.size + 1) x' y' z' E from hW ▸ (heap_two w _ _).2)
  have a0 := X0.out.c0
  have a1 := X0.out.c1
  have a2 := X0.out.c2
  have am := X0.out.mass
  have b0 := Y0.out.c0
  have b1 := Y0.out.c1
  have b2 := Y0.out.c2
  have bm := Y0.out.mass
  have HS := hid (msame_raw (w := W) (D := D) (E := E) (P := ∀ j, j < 4 → Dsm (D j) (E j)) (fun j hj => ((h j hj).below B0.out).mono B0.out.size) (fun j hj => ((k j hj).below B0.out).mono B0.out.size) (hid Iff.rfl))
  have HW := hid hW
  obtain ⟨P, hP⟩ : ∃ P : Prop, P = (x = x' ∧ y = y' ∧ z = z' ∧ ∀ j, j < 4 → Dsm (D j) (E j)) := ⟨_, rfl⟩
  have HP := hid (Iff.of_eq hP)
  rw [← hP]
  clear hW h k hP
  by_cases e1 : x = x'
  case neg =>
    have HN := hid (show ¬ P from fun hp => e1 (HP.out.1 hp).1)
    go_enter Try.func51, Try.ntmps51
    go_upto_region 1 with fail
    rw [← HW.out]
    go_wp2
    go_ret
    exact ⟨false, rfl, hid ⟨fun h => (by cases h), fun h => absurd h HN.out⟩, B0⟩
  subst e1
  by_cases e1 : y = y'
  case neg =>
    have HN := hid (show ¬ P from fun hp => e1 (HP.out.1 hp).2.1)
    go_enter Try.func51, Try.ntmps51
    go_upto_region 1 with fail
    rw [← HW.out]
    go_wp2
    go_ret
    exact ⟨false, rfl, hid ⟨fun h => (by cases h), fun h => absurd h HN.out⟩, B0⟩
  subst e1
  by_cases e1 : z = z'
  case neg =>
    have HN := hid (show ¬ P from fun hp => e1 (HP.out.1 hp).2.2.1)
    go_enter Try.func51, Try.ntmps51
    go_upto_region 1 with fail
    rw [← HW.out]
    go_wp2
    go_ret
    exact ⟨false, rfl, hid ⟨fun h => (by cases h), fun h => absurd h HN.out⟩, B0⟩
  subst e1
  have HQ := hid (show P ↔ ∀ j, j < 4 → Dsm (D j) (E j) from HP.out.trans ⟨fun h => h.2.2.2, fun h => ⟨rfl, rfl, rfl, h⟩⟩)
  clear HP
  go_enter Try.func51, Try.ntmps51
  go_upto_region 1 with fail
  rw [← HW.out]
  go_wp2_with (first
    | (refine wp_lmg rfl (.tmp 25) rfl w.heap.size 3 D rfl am ?_)
    | (refine wp_lmg rfl (.tmp 27) rfl (w.heap.size + 1) 3 E rfl bm ?_)
    | fail)
  refine HS.out.mono ?_
  rintro e w1 ⟨r, rfl, H1, H2⟩
  have BB := hid (gbelow_on B0.out (Nat.le_refl _) H2.out)
  cases r
  · have HF := hid (show ¬ P from fun hp => absurd (H1.out.2 (HQ.out.1 hp)) (by decide))
    go_wp2
    go_ret
    exact ⟨false, rfl, hid ⟨fun h => (by cases h), fun h => absurd h HF.out⟩, BB⟩
  · have HT := hid (show P from HQ.out.2 (H1.out.1 rfl))
    go_wp2
    go_ret
    exact ⟨true, rfl, hid ⟨fun _ => HT.out, fun _ => rfl⟩, BB⟩
set_option maxHeartbeats 6400000 in
theorem equal_any {w : World} {B C n c m d : Nat} {A D : Option Addr} {l r : List (Ld Pm)} (h : Lls w B A n c l) (k : Lls w C D m d r) (hB : B ≤ w.heap.size) (hC : C ≤ w.heap.size) :
    Calls Try.prog 50 #[.slice A n c, .slice D m d, .func (.func 51) #[] #[]] w (Says w (l = r)) := by
  have H := hid (h.mono hB)
  have K := hid (k.mono hC)
  have HL := hid h.len
  have HR := hid k.len
  have hm := h.max
  have hcap := h.cap
  have hcap2 := k.cap
  clear h k
  by_cases hnm : n = m
  case neg =>
    have hne : ((n : Int) != (m : Int)) = true := by rw [bne_iff_ne]; omega
    have hne2 : ¬ (n : Int) = (m : Int) := by omega
    have HN := hid (show ¬ l = r from fun e => by
      have := HL.out
      rw [e, HR.out] at this
      omega)
    go_enter Try.func50, Try.ntmps50
    go_wp2
    go_ret
    exact ⟨false, rfl, hid ⟨fun h => (by cases h), fun h => absurd h HN.out⟩, hid (Below.refl _ _)⟩
  subst hnm
  go_enter Try.func50, Try.ntmps50
  go_wp2
  go_loopg [7, 8, 9, 17] n (fun gg _ _ _ s5 wr => ∃ kk : Nat, kk ≤ n ∧ n - kk ≤ gg ∧ s5 = .int .i64 kk ∧ Hid (Below w.heap.size w wr) ∧ Hid (∀ j, j < kk → l[j]? = r[j]?))
  case atStart => exact ⟨0, Nat.zero_le _, by omega, rfl, hid (Below.refl _ w), hid (fun j hj => absurd hj (Nat.not_lt_zero _))⟩
  case round =>
    obtain ⟨kk, hkk, hg, rfl, BW, HA⟩ := hrel
    by_cases hlt : kk < n
    · have hltz : (kk : Int) < (n : Int) := by omega
      obtain ⟨b, off, r1, p, rfl, hb, hp, hr, hc⟩ := (H.out.below BW.out).get hlt
      obtain ⟨b2, off2, r2, q, rfl, hb2, hq, hr2, hc2⟩ := (K.out.below BW.out).get hlt
      have HS := hid (hr.same hr2)
      have HRD := hid hr.rd
      have HRD2 := hid hr2.rd
      have HP := hid hp
      have HP2 := hid hq
      obtain ⟨x, y, z, R⟩ := r1
      obtain ⟨x', y', z', R'⟩ := r2
      have HX := hid (show wr.rangeAt b (off + kk * 15) (lcells x y z R).toList from fun t v hv => by rw [Nat.add_assoc]; exact hc t v hv)
      have HX2 := hid (show wr.rangeAt b2 (off2 + kk * 15) (lcells x' y' z' R').toList from fun t v hv => by rw [Nat.add_assoc]; exact hc2 t v hv)
      have HB1 := hid (fun (o : Obj) => (Below.refl wr.heap.size wr).alloc (Nat.le_refl _) o)
      have HX3 := hid (fun (o : Obj) => show (wr.alloc o).rangeAt b2 (off2 + kk * 15) (lcells x' y' z' R').toList from fun t v hv => ((HB1.out o).cell (p := ⟨b2, off2 + kk * 15 + t, none⟩) (Nat.lt_of_lt_of_le hb2 BW.out.size)).trans (HX2.out t v hv))
      have HB2 := hid (fun o1 o2 => below_two wr o1 o2)
      have CS := hid (fun (X : World) (hX : Below wr.heap.size wr X) => same1_any (w := X) (x := x) (y := y) (z := z) (x' := x') (y' := y') (z' := z') (D := R) (E := R') (fun j hj => ((HRD.out j hj).below (hX.mono BW.out.size)).mono (Nat.le_trans BW.out.size hX.size)) (fun j hj => ((HRD2.out j hj).below (hX.mono BW.out.size)).mono (Nat.le_trans BW.out.size hX.size)))
      clear hp hq hr hr2 hc hc2
      go_wp2_with (first
        | (refine wp_lload rfl (.tmp 20) rfl b (off + kk * 15) x y z R rfl HX.out ?_)
        | (refine wp_lload rfl (.tmp 24) rfl b2 (off2 + kk * 15) x' y' z' R' rfl (HX3.out _) ?_)
        | fail)
      refine (CS.out _ (HB2.out _ _)).mono ?_
      rintro e w2 ⟨t, rfl, h1, h2⟩
      have BZ := hid (gbelow_on (gbelow_on BW.out (Nat.le_refl _) (HB2.out _ _)) (Nat.le_refl _) h2.out)
      clear CS h2
      cases t
      · have HX := hid (show ¬ p = q from fun e => absurd (h1.out.2 (HS.out.2 e)) (by decide))
        go_wp2
        go_ret
        exact ⟨false, rfl, hid ⟨fun h => (by cases h), fun h => absurd h (get_ne HP.out HP2.out HX.out)⟩, BZ⟩
      · have HXE := hid (show p = q from HS.out.1 (h1.out.1 rfl))
        go_wp2
        go_roundg (n - (kk + 1))
        case measure => omega
        case rel =>
          refine ⟨kk + 1, by omega, by omega, by go_num, BZ, hid (fun j hj => ?_)⟩
          by_cases hjk : j = kk
          · subst hjk
            rw [HP.out, HP2.out]
            exact congrArg some HXE.out
          · exact HA.out j (by omega)
    · have hltz : ¬ (kk : Int) < (n : Int) := by omega
      obtain rfl : kk = n := by omega
      go_wp2
      go_ret
      have : l = r := List.ext_getElem? fun j => by
        rcases Nat.lt_or_ge j kk with hj | hj
        · exact HA.out j hj
        · rw [List.getElem?_eq_none (by rw [HL.out]; exact hj), List.getElem?_eq_none (by rw [HR.out]; exact hj)]
      exact ⟨true, rfl, hid ⟨fun _ => this, fun _ => rfl⟩, BW⟩
set_option maxHeartbeats 1600000 in
theorem psame_any {w : World} {B C n c m d : Nat} {A D : Option Addr} {l r : List (Ld Pm)} (h : Lls w B A n c l) (k : Lls w C D m d r) (hB : B ≤ w.heap.size) (hC : C ≤ w.heap.size) :
    Calls Try.prog 27 #[.slice A n c, .slice D m d] w (Says w (l = r)) := by
  have HC := hid (equal_any h k hB hC)
  clear h k
  go_enter Try.func27, Try.ntmps27
  go_wp2_with fail
  refine HC.out.mono ?_
  rintro e w2 ⟨t, rfl, h2⟩
  have H2 := hid h2
  go_wp2
  go_ret
  exact ⟨t, rfl, H2.out⟩
end Go.Proofs.Ytejngjhdmneaiaa.Fli
