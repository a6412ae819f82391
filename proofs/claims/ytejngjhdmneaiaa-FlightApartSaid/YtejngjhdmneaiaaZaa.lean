/- Flight, the laws: what is too great; six, none, done. -/
import Derived.Test.YtejngjhdmneaiaaZpm
import Derived.Test.YtejngjhdmneaiaaVap
namespace Go.Proofs.Ytejngjhdmneaiaa.Fli
set_option maxRecDepth 100000
open Go.RowKit Go.Shelf Go.Lib

theorem pmd_eq {D E : Nat → Dy} : pmd D = pmd E ↔ ∀ j, j < 4 → Dsm (D j) (E j) := by
  have hd : ∀ d e : Dy, Dsm d e ↔ pdy d = pdy e := fun d e => by
    unfold Dsm pdy
    simp only [Prod.mk.injEq]
    constructor
    · rintro ⟨a1, a2, a3, a4⟩
      exact ⟨a1, a3, funext a4, a2⟩
    · rintro ⟨a1, a2, a3, a4⟩
      exact ⟨a1, a4, a2, fun j => congrFun a3 j⟩
  constructor
  · intro h j hj
    unfold pmd at h
    simp only [Prod.mk.injEq] at h
    obtain ⟨a0, a1, a2, a3⟩ := h
    have hc : j = 0 ∨ j = 1 ∨ j = 2 ∨ j = 3 := by omega
    rcases hc with rfl | rfl | rfl | rfl
    · exact (hd _ _).2 a0
    · exact (hd _ _).2 a1
    · exact (hd _ _).2 a2
    · exact (hd _ _).2 a3
  · intro h
    unfold pmd
    rw [(hd _ _).1 (h 0 (by omega)), (hd _ _).1 (h 1 (by omega)), (hd _ _).1 (h 2 (by omega)), (hd _ _).1 (h 3 (by omega))]
/-- A number of one limb. -/
def f1 (V : Nat) : Nat → Nat := fun j => if j = 0 then V else 0
theorem vl_f1 (V : Nat) : vl (f1 V) 1 = V := by
  rw [vl_succ]
  show 0 + V * pw 0 = V
  simp [pw]
theorem one_limb {w : World} {t : TypeId} {B k c V : Nat} {A : Option Addr} {h : Nat → Nat} (hm : Mk w t B A k c h) (hf : Fit k h) (hv : vl h k = V) (h0 : 0 < V) (h1 : V < 4294967296) : k = 1 ∧ h = f1 V := by
  have hk : k = 1 := len_of_vl (g := f1 V) (m := 1) (fun j _ => hm.lt j) (fun j hj => by unfold f1; split <;> omega) hf.2 (fun _ => by unfold f1; rw [if_pos rfl]; omega) (by rw [hv, vl_f1])
  subst hk
  refine ⟨rfl, funext fun j => ?_⟩
  rcases Nat.eq_zero_or_pos j with rfl | hj
  · exact vl_inj (k := 1) (fun j _ => hm.lt j) (fun j hj => by unfold f1; split <;> omega) (by rw [hv, vl_f1]) 0 (by omega)
  · rw [hm.out j (by omega)]
    unfold f1
    rw [if_neg (by omega)]
/-- What the examples carry. -/
def p6 : Pm := ((false, 1, f1 6, 0), (false, 1, f1 1, 0), (false, 0, fun _ => 0, 0), (false, 0, fun _ => 0, 0))
theorem of_one {n V : Nat} {s : Bool} (h : num s V = (n : Int)) (hn : 0 < n) : s = false ∧ V = n := by
  cases s
  · unfold num at h
    simp at h
    exact ⟨rfl, by omega⟩
  · unfold num at h
    simp at h
    omega
def sixD (A B : Option Addr) (c d : Nat) : Nat → Dy := fun k => match k with
  | 0 => ⟨false, A, 1, c, 0, f1 6⟩
  | 1 => ⟨false, B, 1, d, 0, f1 1⟩
  | _ => ⟨false, none, 0, 0, 0, fun _ => 0⟩
theorem sixD_pmd (A B : Option Addr) (c d : Nat) : pmd (sixD A B c d) = p6 := rfl
theorem ret_massv {fn : Func} {R : Ending → World → Prop} {a : Act} {w : World} {p : Tmp} {g : Nat} {M : Nat → Dy} (h : fn.results = #[.cell p 27]) (hp : a.tmps.getD p undef = .pointer (some ⟨g, 0, none⟩))
    (hd : a.defers = []) (hg : Mbox w g M) (hR : R (.returned (.agg (mcells M))) w) : bodyPost Try.prog fn R .ret a w := by
  refine bodyPost_ret ?_ hd hR
  have hp2 : a.tmps[p]?.getD undef = .pointer (some ⟨g, 0, none⟩) := by simpa using hp
  simp only [results, h]
  simp [hp2, asAddr, run_loadVar_row w g _ 27 _ _ _ hg Try.underlying27 rfl (massSize M)]
/-- What six leaves: a mass of its own. -/
def SixR (w : World) (e : Ending) (w' : World) : Prop := ∃ M : Nat → Dy, e = .returned (.agg (mcells M)) ∧ pmd M = p6 ∧ Hid ((∀ k, k < 4 → Mk w' 75 w.heap.size (M k).A (M k).n (M k).c (M k).f) ∧ Below w.heap.size w w')
set_option maxHeartbeats 1600000 in
theorem six_any (w : World) : Calls Try.prog 47 #[] w (SixR w) := by
  obtain ⟨W, hW⟩ : ∃ W, W = w.alloc (.cells (mcells D0) 27) := ⟨_, rfl⟩
  have B0 := hid (show Below w.heap.size w W from hW ▸ (Below.refl _ w).alloc (Nat.le_refl _) _)
  have M0 := hid (show Mbox W w.heap.size D0 from hW ▸ heap_alloc_new w _)
  have HW := hid hW
  clear hW
  go_enter Try.func47, Try.ntmps47
  go_upto_region 1 with fail
  have hW2 : (w.alloc (.cells #[.bool false, .slice none 0 0, .int .i64 0, .bool false, .slice none 0 0, .int .i64 0, .bool false, .slice none 0 0, .int .i64 0, .bool false, .slice none 0 0, .int .i64 0] 27)) = W := HW.out.symm
  rw [hW2]
  clear hW2
  go_wp2_with fail
  refine (dof_any 6 (by omega) W).mono ?_
  rintro e w1 ⟨s1, v1, V1, rfl, ⟨hN1, _, hn1⟩, H1⟩
  obtain ⟨rfl, rfl⟩ := of_one (n := 6) hn1 (by omega)
  obtain ⟨A1, k1, c1, g1, rfl, hm1, hf1, hv1⟩ := hN1
  obtain ⟨rfl, rfl⟩ := one_limb hm1 hf1 hv1 (by omega) (by omega)
  have K1 := hid hm1
  clear hm1 hf1 hv1 hn1
  go_wp2_with fail
  refine (dof_any 1 (by omega) w1).mono ?_
  rintro e w2 ⟨s2, v2, V2, rfl, ⟨hN2, _, hn2⟩, H2⟩
  obtain ⟨rfl, rfl⟩ := of_one (n := 1) hn2 (by omega)
  obtain ⟨A2, k2, c2, g2, rfl, hm2, hf2, hv2⟩ := hN2
  obtain ⟨rfl, rfl⟩ := one_limb hm2 hf2 hv2 (by omega) (by omega)
  have K2 := hid hm2
  have M2 := hid (show Mbox w2 w.heap.size D0 from (M0.out.below H1.out M0.out.lt).below H2.out (Nat.lt_of_lt_of_le M0.out.lt H1.out.size))
  have B2 := hid (gbelow_on (gbelow_on B0.out (Nat.le_refl _) H1.out) (Nat.le_refl _) H2.out)
  clear hm2 hf2 hv2 hn2
  go_wp2_with (first
    | (refine gput_row (P := Try.prog) rfl _ (.tmp 0) (.tmp 3) rfl w.heap.size 27 _ (mcells (sixD A1 A2 c1 c2)) rfl rfl M2.out rfl (massSize _) (mcells_one _) ?_
       intro w4 x4 q4
       have hlt := M0.out.lt
       have hsz := H1.out.size
       have k1 := Mk.keep32 (w' := w4) (K1.out.below H2.out (Nat.le_refl _)) (fun g cs hg _ => q4.block g (by omega))
       have k2 := Mk.keep32 (w' := w4) K2.out (fun g cs hg _ => q4.block g (by omega))
       have K4 := hid (show ∀ k, k < 4 → Mk w4 75 w.heap.size (sixD A1 A2 c1 c2 k).A (sixD A1 A2 c1 c2 k).n (sixD A1 A2 c1 c2 k).c (sixD A1 A2 c1 c2 k).f from fun k hk => by
         have hc : k = 0 ∨ k = 1 ∨ k = 2 ∨ k = 3 := by omega
         rcases hc with rfl | rfl | rfl | rfl
         · exact k1.mono (by omega)
         · exact k2.mono (by omega)
         · exact Mk.nil _ _ _
         · exact Mk.nil _ _ _)
       have B4 := hid (q4.bel B2.out (Nat.le_refl _))
       clear k1 k2)
    | fail)
  refine ret_massv (g := w.heap.size) (M := sixD A1 A2 c1 c2) rfl rfl rfl x4 ?_
  exact ⟨_, rfl, sixD_pmd _ _ _ _, hid ⟨K4.out, B4.out⟩⟩
set_option maxHeartbeats 3200000 in
theorem none_any {w : World} {x y z : Int} {M : Nat → Dy} (h : Mrd w w.heap.size M) :
    Calls Try.prog 25 #[.agg (lcells x y z M)] w (Says w (((x, y, z, pmd M) : Ld Pm) = p0)) := by
  obtain ⟨W, hW⟩ : ∃ W, W = w.alloc (.cells (lcells x y z M) 40) := ⟨_, rfl⟩
  have B0 := hid (show Below w.heap.size w W from hW ▸ (Below.refl _ w).alloc (Nat.le_refl _) _)
  have X0 := hid (show Lbx W w.heap.size x y z M from hW ▸ Lbx.new w x y z M)
  have a0 := X0.out.c0
  have a1 := X0.out.c1
  have a2 := X0.out.c2
  have am := X0.out.mass
  have HS := hid (msame_raw (w := W) (D := M) (E := D0) (P := ∀ j, j < 4 → Dsm (M j) (D0 j)) (fun j hj => ((h j hj).below B0.out).mono B0.out.size) (fun j hj => Rd.nil _ _) (hid Iff.rfl))
  have HW := hid hW
  obtain ⟨P, hP⟩ : ∃ P : Prop, P = (((x, y, z, pmd M) : Ld Pm) = p0) := ⟨_, rfl⟩
  have HP := hid (show P ↔ (x = 0 ∧ y = 0 ∧ z = 0 ∧ ∀ j, j < 4 → Dsm (M j) (D0 j)) by
    rw [hP, ← pmd_eq]
    unfold p0
    simp only [Prod.mk.injEq])
  rw [← hP]
  clear hW h hP
  by_cases e1 : x = 0
  case neg =>
    have HN := hid (show ¬ P from fun hp => e1 (HP.out.1 hp).1)
    go_enter Try.func25, Try.ntmps25
    go_upto_region 1 with fail
    rw [← HW.out]
    go_wp2
    go_ret
    exact ⟨false, rfl, hid ⟨fun h => (by cases h), fun h => absurd h HN.out⟩, B0⟩
  subst e1
  by_cases e1 : y = 0
  case neg =>
    have HN := hid (show ¬ P from fun hp => e1 (HP.out.1 hp).2.1)
    go_enter Try.func25, Try.ntmps25
    go_upto_region 1 with fail
    rw [← HW.out]
    go_wp2
    go_ret
    exact ⟨false, rfl, hid ⟨fun h => (by cases h), fun h => absurd h HN.out⟩, B0⟩
  subst e1
  by_cases e1 : z = 0
  case neg =>
    have HN := hid (show ¬ P from fun hp => e1 (HP.out.1 hp).2.2.1)
    go_enter Try.func25, Try.ntmps25
    go_upto_region 1 with fail
    rw [← HW.out]
    go_wp2
    go_ret
    exact ⟨false, rfl, hid ⟨fun h => (by cases h), fun h => absurd h HN.out⟩, B0⟩
  subst e1
  have HQ := hid (show P ↔ ∀ j, j < 4 → Dsm (M j) (D0 j) from HP.out.trans ⟨fun h => h.2.2.2, fun h => ⟨rfl, rfl, rfl, h⟩⟩)
  clear HP
  go_enter Try.func25, Try.ntmps25
  go_upto_region 1 with fail
  rw [← HW.out]
  go_wp2_with (first
    | (refine wp_lmg rfl (.tmp 17) rfl w.heap.size 3 M rfl am ?_)
    | fail)
  refine HS.out.mono ?_
  rintro e w1 ⟨r, rfl, H1, H2⟩
  have BB := hid (gbelow_on B0.out (Nat.le_refl _) H2.out)
  cases r
  · have HF := hid (show ¬ P from fun hp => absurd (H1.out.2 (HQ.out.1 hp)) (by decide))
    go_wp2
    go_ret
    exact ⟨false, rfl, hid ⟨fun h => (by cases h), fun h => absurd h HF.out⟩, BB⟩
  · have HT := hid (show P from HQ.out.2 (H1.out.1 rfl))
    go_wp2
    go_ret
    exact ⟨true, rfl, hid ⟨fun _ => HT.out, fun _ => rfl⟩, BB⟩
/-- What done does: 0 doubled, 1 lost, else landed. -/
def wayA (act : Nat) : Nat := if act = 0 then 0 else if act = 1 then 1 else 2
set_option maxHeartbeats 3200000 in
theorem done_any {w : World} {B a c : Nat} {A : Option Addr} {l : List (Ld Pm)} (n : Int) (act : Nat) (h : Lls w B A a c l) (hB : B ≤ w.heap.size) (hz : SzL l) :
    Calls Try.prog 28 #[.slice A a c, .int .i64 n, .int .u8 (act : Int)] w (LstE w (tL l n (wayA act)) (tE l n (wayA act))) := by
  by_cases h0 : act = 0
  · subst h0
    have HT := hid (double_any n h hB hz)
    rw [show wayA 0 = 0 from rfl]
    clear h
    generalize tL l n 0 = L at HT ⊢
    generalize tE l n 0 = er at HT ⊢
    go_enter Try.func28, Try.ntmps28
    go_wp2_with fail
    refine HT.out.mono ?_
    rintro e w1 ⟨v, rs, rfl, H1⟩
    have H2 := hid H1
    clear H1
    go_wp2
    go_ret2
    exact ⟨v, rs, rfl, H2.out⟩
  have hz0 : ¬ (act : Int) = 0 := by omega
  by_cases h1 : act = 1
  · subst h1
    have HT := hid (lose_any n h hB hz)
    rw [show wayA 1 = 1 from rfl]
    clear h
    generalize tL l n 1 = L at HT ⊢
    generalize tE l n 1 = er at HT ⊢
    go_enter Try.func28, Try.ntmps28
    go_wp2_with fail
    refine HT.out.mono ?_
    rintro e w1 ⟨v, rs, ⟨x, y, z, M⟩, mid, rfl, H1⟩
    have Y1 := hid (Lbx.new w1 0 0 0 D0)
    have B1 := hid ((Below.refl _ w1).alloc (Nat.le_refl w1.heap.size) (.cells (lcells 0 0 0 D0) 40))
    go_wp2_with (first
      | (refine gput_row (P := Try.prog) rfl _ (.tmp 11) (.tmp 33) rfl w1.heap.size 40 _ (lcells x y z M) rfl rfl Y1.out rfl (loadSize x y z M) (lcells_one x y z M) ?_
         intro w4 x4 q4
         have B4 := hid (q4.bel B1.out (Nat.le_refl _)))
      | fail)
    go_ret2
    exact ⟨v, rs, rfl, hid ⟨H1.out.1.below B4.out, gbelow_on H1.out.2.1 (Nat.le_refl _) B4.out⟩⟩
  · have hz1 : ¬ (act : Int) = 1 := by omega
    have HT := hid (land_any n h hB hz)
    rw [show wayA act = 2 from by unfold wayA; rw [if_neg h0, if_neg h1]]
    clear h
    generalize tL l n 2 = L at HT ⊢
    generalize tE l n 2 = er at HT ⊢
    go_enter Try.func28, Try.ntmps28
    go_wp2_with fail
    refine HT.out.mono ?_
    rintro e w1 ⟨v, rs, ⟨x, y, z, M⟩, mid, rfl, H1⟩
    have Y1 := hid (Lbx.new w1 0 0 0 D0)
    have B1 := hid ((Below.refl _ w1).alloc (Nat.le_refl w1.heap.size) (.cells (lcells 0 0 0 D0) 40))
    go_wp2_with (first
      | (refine gput_row (P := Try.prog) rfl _ (.tmp 14) (.tmp 42) rfl w1.heap.size 40 _ (lcells x y z M) rfl rfl Y1.out rfl (loadSize x y z M) (lcells_one x y z M) ?_
         intro w4 x4 q4
         have B4 := hid (q4.bel B1.out (Nat.le_refl _)))
      | fail)
    go_ret2
    exact ⟨v, rs, rfl, hid ⟨H1.out.1.below B4.out, gbelow_on H1.out.2.1 (Nat.le_refl _) B4.out⟩⟩
/-- What Great tells where it tells no. -/
def GrR (w : World) (l : List (Ld Pm)) (e : Ending) (w' : World) : Prop := ∃ r : Bool, e = .returned (.bool r) ∧ Hid (r = false → SzL l ∧ l.length ≤ 20) ∧ Hid (Below w.heap.size w w')
theorem sz_of {D : Nat → Dy} (h : ¬ MGr D) : SzM (pmd D) := by
  have hk : ∀ k, k < 4 → (D k).n ≤ 42 := fun k hk => by
    rcases Nat.lt_or_ge 42 (D k).n with h1 | h1
    · exact absurd ⟨k, hk, .inl h1⟩ h
    · exact h1
  exact ⟨hk 0 (by omega), hk 1 (by omega), hk 2 (by omega), hk 3 (by omega)⟩
set_option maxHeartbeats 3200000 in
theorem great_any {w : World} {B n c : Nat} {A : Option Addr} {l : List (Ld Pm)} (h : Lls w B A n c l) (hB : B ≤ w.heap.size) :
    Calls Try.prog 6 #[.slice A n c] w (GrR w l) := by
  have H := hid (h.mono hB)
  have hm := h.max
  have hcap := h.cap
  have HL := hid h.len
  clear h
  by_cases hn : (n : Int) > 20
  · go_enter Try.func6, Try.ntmps6
    go_wp2
    go_ret
    exact ⟨true, rfl, hid (fun h => (by cases h)), hid (Below.refl _ _)⟩
  have hn20 : n ≤ 20 := by omega
  go_enter Try.func6, Try.ntmps6
  go_wp2
  go_loopg [3] n (fun gg s3 wr => ∃ kk : Nat, kk ≤ n ∧ n - kk ≤ gg ∧ s3 = .int .i64 kk ∧ Hid (Below w.heap.size w wr) ∧ Hid (∀ p ∈ l.take kk, SzM p.2.2.2))
  case atStart => exact ⟨0, Nat.zero_le _, by omega, rfl, hid (Below.refl _ w), hid (by simp)⟩
  case round =>
    obtain ⟨kk, hkk, hg, rfl, BW, HA⟩ := hrel
    by_cases hlt : kk < n
    · have hltz : (kk : Int) < (n : Int) := by omega
      obtain ⟨b, off, r, p, rfl, hb, hp, hr, hc⟩ := (H.out.below BW.out).get hlt
      obtain ⟨x, y, z, R⟩ := r
      have HX := hid (show wr.rangeAt b (off + kk * 15 + 3) (mcells R).toList from fun t v hv => by
        have := hc (3 + t) v (by
          rw [show encL (x, y, z, R) = [.int .i64 x, .int .i64 y, .int .i64 z] ++ (mcells R).toList from rfl, List.getElem?_append_right (by simp)]
          simpa using hv)
        rw [show off + kk * 15 + 3 + t = off + (kk * 15 + (3 + t)) by omega]
        exact this)
      have HM := hid (mgreat_any (w := wr) (D := R) (fun k hk => (hr.rd k hk).max))
      have HP := hid hp
      have HPl := hid (show p.2.2.2 = pmd R from hr.pl.symm)
      clear hr hp hc
      go_wp2_with (first | (refine wp_lm rfl (.tmp 16) rfl b (off + kk * 15 + 3) R rfl HX.out ?_) | fail)
      refine HM.out.mono ?_
      rintro e w1 ⟨t, rfl, H1, H2⟩
      have B1 := hid (gbelow_on BW.out (Nat.le_refl _) H2.out)
      cases t
      · have HS := hid (sz_of (fun hm => absurd (H1.out.2 hm) (by decide)))
        go_wp2
        go_roundg (n - (kk + 1))
        case measure => omega
        case rel =>
          refine ⟨kk + 1, by omega, by omega, by go_num, B1, hid (fun q hq => ?_)⟩
          rw [take_ld HP.out] at hq
          rcases List.mem_append.1 hq with h1 | h1
          · exact HA.out q h1
          · obtain rfl : q = p := by simpa using h1
            rw [HPl.out]
            exact HS.out
      · go_wp2
        go_ret
        exact ⟨true, rfl, hid (fun h => (by cases h)), B1⟩
    · have hltz : ¬ (kk : Int) < (n : Int) := by omega
      obtain rfl : kk = n := by omega
      have HS := hid (show SzL l ∧ l.length ≤ 20 from ⟨⟨by rw [HL.out]; omega, by have := HA.out; rwa [List.take_of_length_le (by rw [HL.out]; exact Nat.le_refl _)] at this⟩, by rw [HL.out]; exact hn20⟩)
      go_wp2
      go_ret
      exact ⟨false, rfl, hid (fun _ => HS.out), BW⟩
end Go.Proofs.Ytejngjhdmneaiaa.Fli
