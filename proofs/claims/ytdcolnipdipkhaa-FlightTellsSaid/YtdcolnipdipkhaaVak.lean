/- Flight: the document's Same. -/
/- Stores into rows, as steps of a walk that leaves a new world each. -/
import Derived.Test.YtdcolnipdipkhaaVaj
import Derived.Test.YtdcolnipdipkhaaGs
import Derived.Deep.MidRow

namespace Go.Proofs.Ytdcolnipdipkhaa.Fli
set_option maxRecDepth 100000
open Go.RowKit Go.Shelf Go.Lib

set_option maxHeartbeats 3200000 in
set_option maxRecDepth 100000 in
theorem same_any {w : World} {B C n c m d : Nat} {A D : Option Addr} {l r : List (Ld Pm)} (h : Lls w B A n c l) (k : Lls w C D m d r) (hB : B ≤ w.heap.size) (hC : C ≤ w.heap.size) :
    Calls Try.prog 16 #[.slice A n c, .slice D m d] w (Says w (l = r)) := by
  have H := hid (h.mono hB)
  have K := hid (k.mono hC)
  have HL := hid h.len
  have HR := hid k.len
  have hm := h.max
  have hcap := h.cap
  have hcap2 := k.cap
  clear h k
  obtain ⟨P, hP⟩ : ∃ P : Prop, P = (l = r) := ⟨_, rfl⟩
  have HP := hid hP
  rw [← hP]
  clear hP
  by_cases hnm : n = m
  case neg =>
    have hne : ¬ (n : Int) = (m : Int) := by omega
    have HN := hid (show ¬ P from fun hp => by
      rw [HP.out] at hp
      have h1 := HL.out
      rw [hp, HR.out] at h1
      exact hnm h1.symm)
    go_enter Try.func16, Try.ntmps16
    go_wp2
    go_ret
    exact ⟨false, rfl, hid ⟨(fun h => by cases h), fun hp => absurd hp HN.out⟩, hid (Below.refl _ _)⟩
  subst hnm
  go_enter Try.func16, Try.ntmps16
  go_wp2
  go_loopg [5] n (fun gg s5 wr => ∃ kk : Nat, kk ≤ n ∧ n - kk ≤ gg ∧ s5 = .int .i64 kk ∧ Hid (Below w.heap.size w wr) ∧ Hid (∀ j, j < kk → l[j]? = r[j]?))
  case atStart => exact ⟨0, Nat.zero_le _, by omega, rfl, hid (Below.refl _ w), hid (fun j hj => absurd hj (Nat.not_lt_zero _))⟩
  case round =>
    obtain ⟨kk, hkk, hg, rfl, BW, HA⟩ := hrel
    by_cases hlt : kk < n
    case neg =>
      have hltz : ¬ (kk : Int) < (n : Int) := by omega
      obtain rfl : kk = n := by omega
      have HE := hid (show P by
        rw [HP.out]
        exact List.ext_getElem? fun j => by
          rcases Nat.lt_or_ge j kk with hj | hj
          · exact HA.out j hj
          · rw [List.getElem?_eq_none (by rw [HL.out]; exact hj), List.getElem?_eq_none (by rw [HR.out]; exact hj)])
      go_wp2
      go_ret
      exact ⟨true, rfl, hid ⟨fun _ => HE.out, fun _ => rfl⟩, BW⟩
    have hltz : (kk : Int) < (n : Int) := by omega
    obtain ⟨b, off, r1, p, rfl, hb, hp, hr, hc⟩ := (H.out.below BW.out).get hlt
    obtain ⟨b2, off2, r2, q, rfl, hb2, hq, hr2, hc2⟩ := (K.out.below BW.out).get hlt
    have hlb : b < wr.heap.size := Nat.lt_of_lt_of_le hb BW.out.size
    have hlb2 : b2 < wr.heap.size := Nat.lt_of_lt_of_le hb2 BW.out.size
    have HS := hid (hr.same hr2)
    have HRD := hid (show Mrd wr w.heap.size r1.2.2.2 from fun k hk => hr.rd k hk)
    have HRD2 := hid (show Mrd wr w.heap.size r2.2.2.2 from fun k hk => hr2.rd k hk)
    have HPQ := hid (And.intro hp hq)
    obtain ⟨x, y, z, R⟩ := r1
    obtain ⟨x', y', z', R'⟩ := r2
    have HX := hid (And.intro hlb (And.intro hlb2 (And.intro (show wr.rangeAt b (off + kk * 15) (lcells x y z R).toList from fun t v hv => by rw [Nat.add_assoc]; exact hc t v hv) (show wr.rangeAt b2 (off2 + kk * 15) (lcells x' y' z' R').toList from fun t v hv => by rw [Nat.add_assoc]; exact hc2 t v hv))))
    clear hr hr2 hc hc2 hp hq hb hb2 hlb hlb2
    have CF : Hid (∀ X, Below wr.heap.size wr X → (X.rangeAt b (off + kk * 15) (lcells x y z R).toList ∧ X.rangeAt b2 (off2 + kk * 15) (lcells x' y' z' R').toList)) := hid fun X hb => ⟨fun t v hv => (hb.cell (p := ⟨b, off + kk * 15 + t, none⟩) HX.out.1).trans (HX.out.2.2.1 t v hv), fun t v hv => (hb.cell (p := ⟨b2, off2 + kk * 15 + t, none⟩) HX.out.2.1).trans (HX.out.2.2.2 t v hv)⟩
    have BX : Hid (Below wr.heap.size wr wr.drew) := hid (Below.refl wr.heap.size wr).drew
    have CS0 : Hid (∀ (X : World), Below wr.heap.size wr X → ∀ bb : Bool, (bb = true ↔ p = q) → Calls Try.prog 17 #[.agg (lcells x y z R), .agg (lcells x' y' z' R')] X fun e w' => e = .returned (.bool bb) ∧ Hid (Below X.heap.size X w')) := hid fun X hX bb hbb =>
      says_bool (sameOne_any ((HRD.out.below (hX.mono BW.out.size)).mono (Nat.le_trans BW.out.size hX.size)) ((HRD2.out.below (hX.mono BW.out.size)).mono (Nat.le_trans BW.out.size hX.size))) bb (hbb.trans HS.out.symm)
    by_cases hpq : p = q
    · have CS := hid (fun (X : World) (hX : Below wr.heap.size wr X) => CS0.out X hX true ⟨fun _ => hpq, fun _ => rfl⟩)
      have HE := hid hpq
      clear CS0 hpq HS HRD HRD2
      go_upto_region 6 with fail
      have mixed : Try.prog.follows .mixedOrders = true := by kernel_rfl
      refine wp_region_held_drew (S := fun X => X.rangeAt b (off + kk * 15) (lcells x y z R).toList ∧ X.rangeAt b2 (off2 + kk * 15) (lcells x' y' z' R').toList) (by kernel_rfl) (CF.out _ BX.out) (fun hHeld => ?_)
      generalize wr.drew = V at *
      refine wpAnyH_take (i := 0) (v := ?va1) rfl (by kernel_rfl) (by kernel_rfl) (by kernel_rfl) (fun _ _ _ h => h) (Or.inl ⟨by rfl, ?ya1⟩) (by assumption) ?ra1
      case ya1 => (intro w0 hSw; (try dsimp only at hSw); (try simp only [List.getElem_toArray, List.getElem_cons_zero]); go_simp; try with_reducible rfl)
      (try simp only [Act.put, List.setIfInBounds_toArray, List.set_cons_zero, List.set_cons_succ, List.getElem_toArray, List.getElem_cons_zero])
      refine wpAnyH_take (i := 1) (v := ?va2) rfl (by kernel_rfl) (by kernel_rfl) (by kernel_rfl) (fun _ _ _ h => h) (Or.inl ⟨by rfl, ?ya2⟩) (by assumption) ?ra2
      case ya2 => (intro w0 hSw; (try dsimp only at hSw); (try simp only [List.getElem_toArray, List.getElem_cons_succ, List.getElem_cons_zero]); go_simp; try with_reducible rfl)
      (try simp only [Act.put, List.setIfInBounds_toArray, List.set_cons_zero, List.set_cons_succ, List.getElem_toArray, List.getElem_cons_succ, List.getElem_cons_zero])
      refine wpAnyH_take (i := 2) (v := ?va3) rfl (by kernel_rfl) (by kernel_rfl) (by kernel_rfl) (fun _ _ _ h => h) (Or.inl ⟨by rfl, ?ya3⟩) (by assumption) ?ra3
      case ya3 => (intro w0 hSw; (try dsimp only at hSw); (try simp only [List.getElem_toArray, List.getElem_cons_succ, List.getElem_cons_zero]); go_simp; try with_reducible rfl)
      (try simp only [Act.put, List.setIfInBounds_toArray, List.set_cons_zero, List.set_cons_succ, List.getElem_toArray, List.getElem_cons_succ, List.getElem_cons_zero])
      refine wpAnyH_take (i := 3) rfl (by kernel_rfl) (by kernel_rfl) (by kernel_rfl) (fun _ _ _ h => h) (yields_lload (by rfl) (.tmp 19) rfl b (off + kk * 15) x y z R rfl (fun X hX => hX.1)) hHeld ?_
      (try simp only [Act.put, List.setIfInBounds_toArray, List.set_cons_zero, List.set_cons_succ, List.getElem_toArray, List.getElem_cons_succ, List.getElem_cons_zero])
      refine wpAnyH_take (i := 4) (v := ?va4) rfl (by kernel_rfl) (by kernel_rfl) (by kernel_rfl) (fun _ _ _ h => h) (Or.inl ⟨by rfl, ?ya4⟩) (by assumption) ?ra4
      case ya4 => (intro w0 hSw; (try dsimp only at hSw); (try simp only [List.getElem_toArray, List.getElem_cons_succ, List.getElem_cons_zero]); go_simp; try with_reducible rfl)
      (try simp only [Act.put, List.setIfInBounds_toArray, List.set_cons_zero, List.set_cons_succ, List.getElem_toArray, List.getElem_cons_succ, List.getElem_cons_zero])
      refine wpAnyH_take (i := 5) (v := ?va5) rfl (by kernel_rfl) (by kernel_rfl) (by kernel_rfl) (fun _ _ _ h => h) (Or.inl ⟨by rfl, ?ya5⟩) (by assumption) ?ra5
      case ya5 => (intro w0 hSw; (try dsimp only at hSw); (try simp only [List.getElem_toArray, List.getElem_cons_succ, List.getElem_cons_zero]); go_simp; try with_reducible rfl)
      (try simp only [Act.put, List.setIfInBounds_toArray, List.set_cons_zero, List.set_cons_succ, List.getElem_toArray, List.getElem_cons_succ, List.getElem_cons_zero])
      refine wpAnyH_take (i := 6) (v := ?va6) rfl (by kernel_rfl) (by kernel_rfl) (by kernel_rfl) (fun _ _ _ h => h) (Or.inl ⟨by rfl, ?ya6⟩) (by assumption) ?ra6
      case ya6 => (intro w0 hSw; (try dsimp only at hSw); (try simp only [List.getElem_toArray, List.getElem_cons_succ, List.getElem_cons_zero]); go_simp; try with_reducible rfl)
      (try simp only [Act.put, List.setIfInBounds_toArray, List.set_cons_zero, List.set_cons_succ, List.getElem_toArray, List.getElem_cons_succ, List.getElem_cons_zero])
      refine wpAnyH_take (i := 7) rfl (by kernel_rfl) (by kernel_rfl) (by kernel_rfl) (fun _ _ _ h => h) (yields_lload (by rfl) (.tmp 23) rfl b2 (off2 + kk * 15) x' y' z' R' rfl (fun X hX => hX.2)) hHeld ?_
      (try simp only [Act.put, List.setIfInBounds_toArray, List.set_cons_zero, List.set_cons_succ, List.getElem_toArray, List.getElem_cons_succ, List.getElem_cons_zero])
      refine wpAnyH_ready (rs := [8]) (by kernel_rfl) (by simp) ?_
      refine AllReadyH.cons rfl (fun K' hK => ?_) AllReadyH.nil
      (try simp only [Act.put, List.setIfInBounds_toArray, List.set_cons_zero, List.set_cons_succ, List.getElem_toArray, List.getElem_cons_succ, List.getElem_cons_zero])
      go_simp
      refine (CS.out _ BX.out).mono ?_
      rintro e v1 ⟨rfl, hb⟩
      replace BX := hid (BX.out.trans (hb.out.mono BX.out.size))
      try dsimp only
      refine hK.out _ _ (CF.out _ BX.out) (fun hHeld => ?_)
      clear hK K' hb
      (try simp only [Act.put, List.setIfInBounds_toArray, List.set_cons_zero, List.set_cons_succ, List.getElem_toArray, List.getElem_cons_succ, List.getElem_cons_zero])
      refine wpAnyH_take (i := 9) (v := ?va7) rfl (by kernel_rfl) (by kernel_rfl) (by kernel_rfl) (fun _ _ _ h => h) (Or.inl ⟨by rfl, ?ya7⟩) (by assumption) ?ra7
      case ya7 => (intro w0 hSw; (try dsimp only at hSw); (try simp only [List.getElem_toArray, List.getElem_cons_succ, List.getElem_cons_zero]); go_simp; try with_reducible rfl)
      (try simp only [Act.put, List.setIfInBounds_toArray, List.set_cons_zero, List.set_cons_succ, List.getElem_toArray, List.getElem_cons_succ, List.getElem_cons_zero])
      refine wpAnyH_done (by kernel_rfl) ?_ _
      clear CS CF
      go_wp2
      go_roundg (n - (kk + 1))
      case measure => omega
      case rel =>
        refine ⟨kk + 1, by omega, by omega, by go_num, hid (BW.out.trans (BX.out.mono BW.out.size)), hid (fun j hj => ?_)⟩
        by_cases hjk : j = kk
        · subst hjk
          rw [HPQ.out.1, HPQ.out.2, HE.out]
        · exact HA.out j (by omega)
    · have CS := hid (fun (X : World) (hX : Below wr.heap.size wr X) => CS0.out X hX false ⟨(fun h => by cases h), fun h => absurd h hpq⟩)
      have HE := hid (show ¬ P from fun hp => by rw [HP.out] at hp; exact get_ne HPQ.out.1 HPQ.out.2 hpq hp)
      clear CS0 hpq HS HRD HRD2
      go_upto_region 6 with fail
      have mixed : Try.prog.follows .mixedOrders = true := by kernel_rfl
      refine wp_region_held_drew (S := fun X => X.rangeAt b (off + kk * 15) (lcells x y z R).toList ∧ X.rangeAt b2 (off2 + kk * 15) (lcells x' y' z' R').toList) (by kernel_rfl) (CF.out _ BX.out) (fun hHeld => ?_)
      generalize wr.drew = V at *
      refine wpAnyH_take (i := 0) (v := ?vb1) rfl (by kernel_rfl) (by kernel_rfl) (by kernel_rfl) (fun _ _ _ h => h) (Or.inl ⟨by rfl, ?yb1⟩) (by assumption) ?rb1
      case yb1 => (intro w0 hSw; (try dsimp only at hSw); (try simp only [List.getElem_toArray, List.getElem_cons_zero]); go_simp; try with_reducible rfl)
      (try simp only [Act.put, List.setIfInBounds_toArray, List.set_cons_zero, List.set_cons_succ, List.getElem_toArray, List.getElem_cons_zero])
      refine wpAnyH_take (i := 1) (v := ?vb2) rfl (by kernel_rfl) (by kernel_rfl) (by kernel_rfl) (fun _ _ _ h => h) (Or.inl ⟨by rfl, ?yb2⟩) (by assumption) ?rb2
      case yb2 => (intro w0 hSw; (try dsimp only at hSw); (try simp only [List.getElem_toArray, List.getElem_cons_succ, List.getElem_cons_zero]); go_simp; try with_reducible rfl)
      (try simp only [Act.put, List.setIfInBounds_toArray, List.set_cons_zero, List.set_cons_succ, List.getElem_toArray, List.getElem_cons_succ, List.getElem_cons_zero])
      refine wpAnyH_take (i := 2) (v := ?vb3) rfl (by kernel_rfl) (by kernel_rfl) (by kernel_rfl) (fun _ _ _ h => h) (Or.inl ⟨by rfl, ?yb3⟩) (by assumption) ?rb3
      case yb3 => (intro w0 hSw; (try dsimp only at hSw); (try simp only [List.getElem_toArray, List.getElem_cons_succ, List.getElem_cons_zero]); go_simp; try with_reducible rfl)
      (try simp only [Act.put, List.setIfInBounds_toArray, List.set_cons_zero, List.set_cons_succ, List.getElem_toArray, List.getElem_cons_succ, List.getElem_cons_zero])
      refine wpAnyH_take (i := 3) rfl (by kernel_rfl) (by kernel_rfl) (by kernel_rfl) (fun _ _ _ h => h) (yields_lload (by rfl) (.tmp 19) rfl b (off + kk * 15) x y z R rfl (fun X hX => hX.1)) hHeld ?_
      (try simp only [Act.put, List.setIfInBounds_toArray, List.set_cons_zero, List.set_cons_succ, List.getElem_toArray, List.getElem_cons_succ, List.getElem_cons_zero])
      refine wpAnyH_take (i := 4) (v := ?vb4) rfl (by kernel_rfl) (by kernel_rfl) (by kernel_rfl) (fun _ _ _ h => h) (Or.inl ⟨by rfl, ?yb4⟩) (by assumption) ?rb4
      case yb4 => (intro w0 hSw; (try dsimp only at hSw); (try simp only [List.getElem_toArray, List.getElem_cons_succ, List.getElem_cons_zero]); go_simp; try with_reducible rfl)
      (try simp only [Act.put, List.setIfInBounds_toArray, List.set_cons_zero, List.set_cons_succ, List.getElem_toArray, List.getElem_cons_succ, List.getElem_cons_zero])
      refine wpAnyH_take (i := 5) (v := ?vb5) rfl (by kernel_rfl) (by kernel_rfl) (by kernel_rfl) (fun _ _ _ h => h) (Or.inl ⟨by rfl, ?yb5⟩) (by assumption) ?rb5
      case yb5 => (intro w0 hSw; (try dsimp only at hSw); (try simp only [List.getElem_toArray, List.getElem_cons_succ, List.getElem_cons_zero]); go_simp; try with_reducible rfl)
      (try simp only [Act.put, List.setIfInBounds_toArray, List.set_cons_zero, List.set_cons_succ, List.getElem_toArray, List.getElem_cons_succ, List.getElem_cons_zero])
      refine wpAnyH_take (i := 6) (v := ?vb6) rfl (by kernel_rfl) (by kernel_rfl) (by kernel_rfl) (fun _ _ _ h => h) (Or.inl ⟨by rfl, ?yb6⟩) (by assumption) ?rb6
      case yb6 => (intro w0 hSw; (try dsimp only at hSw); (try simp only [List.getElem_toArray, List.getElem_cons_succ, List.getElem_cons_zero]); go_simp; try with_reducible rfl)
      (try simp only [Act.put, List.setIfInBounds_toArray, List.set_cons_zero, List.set_cons_succ, List.getElem_toArray, List.getElem_cons_succ, List.getElem_cons_zero])
      refine wpAnyH_take (i := 7) rfl (by kernel_rfl) (by kernel_rfl) (by kernel_rfl) (fun _ _ _ h => h) (yields_lload (by rfl) (.tmp 23) rfl b2 (off2 + kk * 15) x' y' z' R' rfl (fun X hX => hX.2)) hHeld ?_
      (try simp only [Act.put, List.setIfInBounds_toArray, List.set_cons_zero, List.set_cons_succ, List.getElem_toArray, List.getElem_cons_succ, List.getElem_cons_zero])
      refine wpAnyH_ready (rs := [8]) (by kernel_rfl) (by simp) ?_
      refine AllReadyH.cons rfl (fun K' hK => ?_) AllReadyH.nil
      (try simp only [Act.put, List.setIfInBounds_toArray, List.set_cons_zero, List.set_cons_succ, List.getElem_toArray, List.getElem_cons_succ, List.getElem_cons_zero])
      go_simp
      refine (CS.out _ BX.out).mono ?_
      rintro e v1 ⟨rfl, hb⟩
      replace BX := hid (BX.out.trans (hb.out.mono BX.out.size))
      try dsimp only
      refine hK.out _ _ (CF.out _ BX.out) (fun hHeld => ?_)
      clear hK K' hb
      (try simp only [Act.put, List.setIfInBounds_toArray, List.set_cons_zero, List.set_cons_succ, List.getElem_toArray, List.getElem_cons_succ, List.getElem_cons_zero])
      refine wpAnyH_take (i := 9) (v := ?vb7) rfl (by kernel_rfl) (by kernel_rfl) (by kernel_rfl) (fun _ _ _ h => h) (Or.inl ⟨by rfl, ?yb7⟩) (by assumption) ?rb7
      case yb7 => (intro w0 hSw; (try dsimp only at hSw); (try simp only [List.getElem_toArray, List.getElem_cons_succ, List.getElem_cons_zero]); go_simp; try with_reducible rfl)
      (try simp only [Act.put, List.setIfInBounds_toArray, List.set_cons_zero, List.set_cons_succ, List.getElem_toArray, List.getElem_cons_succ, List.getElem_cons_zero])
      refine wpAnyH_done (by kernel_rfl) ?_ _
      clear CS CF
      go_wp2
      go_ret
      exact ⟨false, rfl, hid ⟨(fun h => by cases h), fun hp => absurd hp HE.out⟩, hid (BW.out.trans (BX.out.mono BW.out.size))⟩
end Go.Proofs.Ytdcolnipdipkhaa.Fli


namespace Go.Proofs.Ytdcolnipdipkhaa
open Go.RowKit Go.Shelf Go.Lib
set_option maxRecDepth 100000

theorem gheap_setCells (g : Nat) (t : TypeId) : ∀ (vs : List Value) (o : Nat) (w : World) (cs : Array Value), w.heap[g]? = some (.cells cs t (0, 0)) →
    ∃ cs' : Array Value, (w.setCells g o vs).heap[g]? = some (.cells cs' t (0, 0)) ∧ cs'.size = cs.size ∧ ∀ j, j < cs.size → cs'[j]? = if o ≤ j ∧ j < o + vs.length then vs[j - o]? else cs[j]?
  | [], o, w, cs, h => ⟨cs, h, rfl, fun j _ => by rw [if_neg (by simp <;> omega)]⟩
  | v :: vs, o, w, cs, h => by
    rw [World.setCells]
    obtain ⟨cs', h1, h2, h3⟩ := gheap_setCells g t vs (o + 1) (w.setCell ⟨g, o, none⟩ v) _ (heap_setCell_same w g o cs t v h)
    refine ⟨cs', h1, by rw [h2, Array.size_setIfInBounds], fun j hj => ?_⟩
    rw [h3 j (by rw [Array.size_setIfInBounds]; exact hj), List.length_cons]
    by_cases h4 : o + 1 ≤ j ∧ j < o + 1 + vs.length
    · rw [if_pos h4, if_pos (by omega), show j - o = (j - (o + 1)) + 1 by omega, List.getElem?_cons_succ]
    · rw [if_neg h4, Array.getElem?_setIfInBounds]
      by_cases h5 : o = j
      · subst h5
        rw [if_pos rfl, if_pos hj, if_pos (by omega), Nat.sub_self, List.getElem?_cons_zero]
      · rw [if_neg h5, if_neg (by omega)]
theorem gq_setC (g : Nat) : ∀ (vs : List Value) (o : Nat) (w : World), (w.setCells g o vs).os = w.os ∧ (w.setCells g o vs).tape = w.tape ∧ (w.setCells g o vs).output = w.output ∧ w.heap.size = (w.setCells g o vs).heap.size ∧ ∀ b, b ≠ g → (w.setCells g o vs).heap[b]? = w.heap[b]?
  | [], _, _ => ⟨rfl, rfl, rfl, rfl, fun _ _ => rfl⟩
  | v :: vs, o, w => by
    obtain ⟨h1, h2, h3, h4, h5⟩ := gq_setC g vs (o + 1) (w.setCell ⟨g, o, none⟩ v)
    exact ⟨h1, h2, h3, (show w.heap.size = (w.setCell ⟨g, o, none⟩ v).heap.size by simp [World.setCell]).trans h4, fun b hb => (h5 b hb).trans (Below.heap_setCell _ _ _ b hb)⟩
/-- Block g alone may have changed. -/
structure Gq (g : Nat) (X X' : World) : Prop where
  os : X'.os = X.os
  tape : X'.tape = X.tape
  output : X'.output = X.output
  size : X.heap.size = X'.heap.size
  block : ∀ b, b ≠ g → X'.heap[b]? = X.heap[b]?
theorem Gq.set (g : Nat) (vs : List Value) (o : Nat) (w : World) : Gq g w (w.setCells g o vs) := by
  obtain ⟨h1, h2, h3, h4, h5⟩ := gq_setC g vs o w
  exact ⟨h1, h2, h3, h4, h5⟩
theorem Gq.bel {g B : Nat} {w X Y : World} (h : Gq g X Y) (hx : Below B w X) (hg : B ≤ g) : Below B w Y :=
  ⟨h.os.trans hx.os, h.tape.trans hx.tape, h.output.trans hx.output, Nat.le_trans hx.size (Nat.le_of_eq h.size), fun b hb => (h.block b (by omega)).trans (hx.block b hb)⟩
/-- A row of one-cell values is stored into a block of as many cells. -/
theorem gput_row {P : Program} {ops : Array Oper} {rest : List Oper} {o : Oper} {a : Act} {w : World} {Q : Exit → Act → World → Prop} (hgd : o.guard = none) (ty : TypeId) (x y : Operand) (ho : o.op = .store ty x y)
    (g : Nat) (t : TypeId) (old cs : Array Value) (hx : a.eval x = .pointer (some ⟨g, 0, none⟩)) (hy : a.eval y = .agg cs) (hg : w.heap[g]? = some (.cells old t (0, 0))) (hs : old.size = cs.size) (hi : (P.info? ty).map (·.size) = some cs.size) (h1 : cs.all (·.oneCell') = true)
    (h : ∀ w', w'.heap[g]? = some (.cells cs t (0, 0)) → Gq g w w' → wpList P ops Q rest (a.put o.dst undef) w') : wpList P ops Q (o :: rest) a w := by
  refine wpList_store_mid hgd ty x y ho g 0 cs hx hy (fun j hj => ?_) hi h1 (h _ ?_ (Gq.set g cs.toList 0 w))
  · rw [Nat.zero_add]
    refine ⟨?_, frozen_of_row w g j _ _ hg⟩
    rw [cell_of_row w g j _ _ (0, 0) hg]
    have : j < old.size := by omega
    simp [this]
  · obtain ⟨cs', e1, e2, e3⟩ := gheap_setCells g _ cs.toList 0 w _ hg
    have e : cs' = cs := by
      apply Array.ext_getElem?
      intro j
      by_cases hj : j < cs.size
      · rw [e3 j (by omega), if_pos ⟨Nat.zero_le _, by simpa using hj⟩, Nat.sub_zero, Array.getElem?_toList]
      · rw [Array.getElem?_eq_none (by omega), Array.getElem?_eq_none (by omega)]
    rw [e] at e1
    exact e1
theorem Gq.at {g b : Nat} {X Y : World} {o : Option Obj} (h : Gq g X Y) (hp : X.heap[b]? = o) (hn : b ≠ g) : Y.heap[b]? = o := (h.block b hn).trans hp
/-- One cell of a block. -/
theorem gput_cell {P : Program} {ops : Array Oper} {rest : List Oper} {o : Oper} {a : Act} {w : World} {Q : Exit → Act → World → Prop} (hgd : o.guard = none) (ty : TypeId) (x y : Operand) (ho : o.op = .store ty x y)
    (g j : Nat) (v : Value) (t : TypeId) (old cs : Array Value) (hx : a.eval x = .pointer (some ⟨g, j, none⟩)) (hy : a.eval y = v) (h1 : v.oneCell' = true) (hi : (P.info? ty).map (·.size) = some 1) (hg : w.heap[g]? = some (.cells old t (0, 0))) (hj : j < old.size)
    (e : old.setIfInBounds j v = cs) (h : ∀ w', w'.heap[g]? = some (.cells cs t (0, 0)) → Gq g w w' → wpList P ops Q rest (a.put o.dst undef) w') : wpList P ops Q (o :: rest) a w :=
  wpList_plain hgd fun _ hK => by
    have hc : v.cells = #[v] := by cases v <;> first | rfl | cases h1
    have hs := run_storeCells_cells (P := P) g j [v] 0 w (fun k hk => by
      obtain rfl : k = 0 := by simpa using hk
      rw [cell_of_row w g _ _ _ (0, 0) hg]
      simp only [Nat.add_zero]
      rw [Array.getElem?_eq_getElem hj]
      rfl) (fun k hk => frozen_of_row w g _ _ _ hg) (fun u hu => by obtain rfl : u = v := by simpa using hu
                                                                    exact h1)
    simp only [Nat.add_zero] at hs
    have hv : (storeVar ty ⟨g, j, none⟩ v).run P w = .ok () (w.setCells g j [v]) := by
      cases hq : P.info? ty with
      | none => simp [hq] at hi
      | some i =>
        have hz : i.size = 1 := by simpa [hq] using hi
        simp [storeVar, sizeOf, typeInfo, hq, hc, hz, hs]
    unfold Oper.wp execOp
    simp only [ho, hx, hy, Instr.storeAt, Instr.sureAddr, Sem.run_bind, Sem.run_pure, Result.andThen_ok, hv]
    refine hK _ _ (h _ ?_ (Gq.set g [v] j w))
    have hh := heap_setCell_same w g j _ _ v hg
    rw [e] at hh
    exact hh
/-- A row of cells within a block. -/
theorem gput_mid {P : Program} {ops : Array Oper} {rest : List Oper} {o : Oper} {a : Act} {w : World} {Q : Exit → Act → World → Prop} (hgd : o.guard = none) (ty : TypeId) (x y : Operand) (ho : o.op = .store ty x y)
    (g j : Nat) (t : TypeId) (old vs cs : Array Value) (hx : a.eval x = .pointer (some ⟨g, j, none⟩)) (hy : a.eval y = .agg vs) (hg : w.heap[g]? = some (.cells old t (0, 0))) (hj : j + vs.size ≤ old.size) (hi : (P.info? ty).map (·.size) = some vs.size) (h1 : vs.all (·.oneCell') = true)
    (hcs : cs.size = old.size) (e : ∀ k, k < old.size → cs[k]? = if j ≤ k ∧ k < j + vs.size then vs[k - j]? else old[k]?)
    (h : ∀ w', w'.heap[g]? = some (.cells cs t (0, 0)) → Gq g w w' → wpList P ops Q rest (a.put o.dst undef) w') : wpList P ops Q (o :: rest) a w := by
  refine wpList_store_mid hgd ty x y ho g j vs hx hy (fun k hk => ?_) hi h1 (h _ ?_ (Gq.set g vs.toList j w))
  · refine ⟨?_, frozen_of_row w g (j + k) _ _ hg⟩
    rw [cell_of_row w g (j + k) _ _ (0, 0) hg]
    have : j + k < old.size := by omega
    simp [this]
  · obtain ⟨cs', e1, e2, e3⟩ := gheap_setCells g _ vs.toList j w _ hg
    have e4 : cs' = cs := by
      apply Array.ext_getElem?
      intro k
      by_cases hk : k < old.size
      · rw [e3 k (by omega), e k hk, Array.length_toList]
        split
        · rw [Array.getElem?_toList]
        · rfl
      · rw [Array.getElem?_eq_none (by omega), Array.getElem?_eq_none (by omega)]
    rw [e4] at e1
    exact e1
end Go.Proofs.Ytdcolnipdipkhaa

