/- SeenKeeps, walked. -/
import Derived.Test.YtohofgmdellpnaaSor
namespace Go.Proofs.Ytohofgmdellpnaa.Seen
open Go.RowKit Go.Shelf Go.Lib

set_option maxHeartbeats 6400000 in
set_option maxRecDepth 100000 in
theorem keeps_walk {w : World} {n c : Nat} {A : Option Addr} {l : List Int} {x o : Int} (h : Gs w w.heap.size A n c 1 (cellsI l)) :
    Calls Try.prog 5 #[.slice A n c, .int .i64 x, .int .i64 o] w fun e w' => e = .returned (.bool true) ∧ Below w.heap.size w w' := by
  have H := hid h
  have hl := hid h.ilen
  have hcap := h.cap
  clear h
  go_enter Try.func5, Try.ntmps5
  go_wp2_with fail
  refine (alive_any w).mono ?_
  rintro e w1 ⟨rfl, B1⟩
  have H1 := hid (H.out.on (Nat.le_refl _) B1.out)
  go_wp2_with fail
  by_cases hgr : grt n
  · refine (great_yes hgr).mono ?_
    rintro e w2 ⟨rfl, rfl⟩
    clear hgr
    go_wp2
    go_ret
    exact ⟨rfl, B1.out⟩
  refine (great_no hgr).mono ?_
  rintro e w2 ⟨rfl, rfl⟩
  have hn : n ≤ 4100 := by unfold grt at hgr; omega
  clear hgr
  have CH := hid (fun X (hb : Below w2.heap.size w2 X) => has_any (H1.out.on (Nat.le_refl _) hb) (Nat.le_refl _) x)
  by_cases hp : ptE l x = 0
  case neg =>
    have CP := hid (put_at H1.out (Nat.le_refl _) x (q := ptE l x) (r := []) rfl (by unfold ptL; rw [if_neg hp]))
    by_cases hf : fiE l x = 0
    · obtain ⟨hm, hx⟩ := fiE_zero.1 hf
      by_cases hi : x ∈ l
      · have he : ptE l x = 12 := by unfold ptE; rw [if_neg (by simp [hf]), if_pos hi]
        have hh : haA l x = true := by unfold haA; exact decide_eq_true ⟨hf, hi⟩
        rw [he] at CP
        rw [hh, hf] at CH
        clear hp he hh hf hi hm hx
        go_wp2_with fail
        refine CP.out.mono ?_
        rintro e w3 ⟨A3, n3, c3, rfl, h3⟩
        obtain rfl : n3 = 0 := h3.out.2.2
        go_wp2_with fail
        refine (CH.out w3 h3.out.2.1).mono ?_
        rintro e w4 ⟨rfl, h4⟩
        go_wp2
        go_ret
        exact ⟨rfl, gbelow_on (gbelow_on B1.out (Nat.le_refl _) h3.out.2.1) (Nat.le_refl _) h4.out⟩
      · have h49 : 4096 ≤ l.length := by
          rcases Nat.lt_or_ge l.length 4096 with h9 | h9
          · exact absurd (ptE_zero.2 ⟨hm, hx, hi, h9⟩) hp
          · exact h9
        have hn4 : (n : Int) = 4096 := by have := hm.1; have := hl.out; omega
        have he : ptE l x = 9 := by unfold ptE; rw [if_neg (by simp [hf]), if_neg hi, if_pos h49]
        have hh : haA l x = false := by unfold haA; exact decide_eq_false (fun h => hi h.2)
        have hn4b : ((n : Int) == 4096) = true := by rw [hn4]; rfl
        rw [he] at CP
        rw [hh, hf] at CH
        clear hp he hh hf hi hm hx h49 hn4
        go_wp2_with fail
        refine CP.out.mono ?_
        rintro e w3 ⟨A3, n3, c3, rfl, h3⟩
        obtain rfl : n3 = 0 := h3.out.2.2
        go_wp2_with fail
        refine (CH.out w3 h3.out.2.1).mono ?_
        rintro e w4 ⟨rfl, h4⟩
        go_wp2
        go_ret
        exact ⟨rfl, gbelow_on (gbelow_on B1.out (Nat.le_refl _) h3.out.2.1) (Nat.le_refl _) h4.out⟩
    · have he : ptE l x = fiE l x := by unfold ptE; rw [if_pos hf]
      have hh : haA l x = false := by unfold haA; exact decide_eq_false (fun h => hf h.1)
      rw [he] at CP
      rw [hh] at CH
      clear hp he hh
      generalize fiE l x = q at hf CP CH
      have hqb : (q == 0) = false := beq_eq_false_iff_ne.2 hf
      go_wp2_with fail
      refine CP.out.mono ?_
      rintro e w3 ⟨A3, n3, c3, rfl, h3⟩
      obtain rfl : n3 = 0 := h3.out.2.2
      go_wp2_with fail
      refine (CH.out w3 h3.out.2.1).mono ?_
      rintro e w4 ⟨rfl, h4⟩
      go_wp2
      go_ret
      exact ⟨rfl, gbelow_on (gbelow_on B1.out (Nat.le_refl _) h3.out.2.1) (Nat.le_refl _) h4.out⟩
  case pos =>
    obtain ⟨hm, hx, hi, hs⟩ := ptE_zero.1 hp
    have CP := hid (put_at H1.out (Nat.le_refl _) x (q := 0) (r := insN l x) hp (by unfold ptL; rw [if_pos hp]))
    have hf : fiE l x = 0 := fiE_zero.2 ⟨hm, hx⟩
    have hh : haA l x = false := by unfold haA; exact decide_eq_false (fun h => hi h.2)
    rw [hh, hf] at CH
    have hpm : SMay (insN l x) := by
      have := putN_may hm x
      unfold putN at this
      rwa [if_pos ⟨hx, hi, hs⟩] at this
    have hxp : x ∈ insN l x := insN_mem.2 (.inl rfl)
    have hf2 : fiE (insN l x) x = 0 := fiE_zero.2 ⟨hpm, hx⟩
    have hh2 : haA (insN l x) x = true := by unfold haA; exact decide_eq_true ⟨hf2, hxp⟩
    have hp2 : ptE (insN l x) x = 12 := by unfold ptE; rw [if_neg (by simp [hf2]), if_pos hxp]
    have hlen : (insN l x).length = n + 1 := by rw [insN_len, hl.out]
    have hb1 := lowN_ins l x o
    have hmo : o ∈ insN l x ↔ o = x ∨ o ∈ l := insN_mem
    have hcn : lowN l o ≤ n := by rw [← hl.out]; exact lowN_le l o
    obtain ⟨r, hr⟩ : ∃ r, r = insN l x := ⟨_, rfl⟩
    rw [← hr] at CP hpm hf2 hh2 hp2 hlen hb1 hmo
    clear hr hxp hp hf hh
    have KEY : (∃ q, q ≠ 0 ∧ fiE l o = q ∧ fiE r o = q ∧ haA l o = false ∧ haA r o = false ∧ beA l o = 0 ∧ beA r o = 0) ∨
        (∃ (a b : Bool) (c d : Nat), fiE l o = 0 ∧ fiE r o = 0 ∧ haA l o = a ∧ haA r o = b ∧ beA l o = c ∧ beA r o = d ∧ c ≤ n ∧ d = c + (if x < o then 1 else 0) ∧ ((o = x ∧ a = false ∧ b = true) ∨ (o ≠ x ∧ a = true ∧ b = true) ∨ (o ≠ x ∧ a = false ∧ b = false))) := by
      by_cases ho : NOk o
      · have f1 : fiE l o = 0 := fiE_zero.2 ⟨hm, ho⟩
        have f2 : fiE r o = 0 := fiE_zero.2 ⟨hpm, ho⟩
        have g1 : haA l o = decide (o ∈ l) := by unfold haA; simp [f1]
        have g2 : haA r o = decide (o ∈ r) := by unfold haA; simp [f2]
        refine .inr ⟨_, _, _, _, f1, f2, g1, g2, if_pos f1, if_pos f2, hcn, hb1, ?_⟩
        by_cases h1 : o = x
        · subst h1
          exact .inl ⟨rfl, decide_eq_false hi, decide_eq_true (hmo.2 (.inl rfl))⟩
        · by_cases h2 : o ∈ l
          · exact .inr (.inl ⟨h1, decide_eq_true h2, decide_eq_true (hmo.2 (.inr h2))⟩)
          · exact .inr (.inr ⟨h1, decide_eq_false h2, decide_eq_false (fun h3 => (hmo.1 h3).elim h1 h2)⟩)
      · have f1 : fiE l o = 2 := by unfold fiE; rw [if_neg (by rw [schk_zero.2 hm]; simp), if_neg ho]
        have f2 : fiE r o = 2 := by unfold fiE; rw [if_neg (by rw [schk_zero.2 hpm]; simp), if_neg ho]
        exact .inl ⟨2, by decide, f1, f2, by unfold haA; exact decide_eq_false (fun h => ho (fiE_zero.1 h.1).2), by unfold haA; exact decide_eq_false (fun h => ho (fiE_zero.1 h.1).2), by unfold beA; rw [f1]; rfl, by unfold beA; rw [f2]; rfl⟩
    have HP2 := hid (show ptL r x = [] by unfold ptL; rw [hp2]; rfl)
    have HPE := hid hp2
    have HF2 := hid (And.intro hf2 hh2)
    have HLE := hid hlen
    have CHO := hid (fun X (hb : Below w2.heap.size w2 X) => has_any (H1.out.on (Nat.le_refl _) hb) (Nat.le_refl _) o)
    have CBO := hid (fun X (hb : Below w2.heap.size w2 X) => below_any (H1.out.on (Nat.le_refl _) hb) (Nat.le_refl _) o)
    have K := hid KEY
    clear hp2 hf2 hh2 hlen KEY hb1 hmo hcn hm hx hi hs hpm
    go_wp2_with fail
    refine CP.out.mono ?_
    rintro e w3 ⟨A3, n3, c3, rfl, h3⟩
    obtain rfl : n3 = n + 1 := h3.out.2.2.trans HLE.out
    have G3 := hid h3.out.1
    have B3 := hid h3.out.2.1
    clear h3
    go_wp2_with fail
    refine (CH.out w3 B3.out).mono ?_
    rintro e w4 ⟨rfl, h4⟩
    have B4 := hid (gbelow_on B3.out (Nat.le_refl _) h4.out)
    have CH5 := hid (has_any (G3.out.on (Nat.le_refl _) h4.out) (Nat.le_refl _) x)
    rw [HF2.out.1, HF2.out.2] at CH5
    go_wp2_with fail
    refine CH5.out.mono ?_
    rintro e w5 ⟨rfl, h5⟩
    have B5 := hid (gbelow_on B4.out (Nat.le_refl _) h5.out)
    have B35 := hid (gbelow_on h4.out (Nat.le_refl _) h5.out)
    have CP6 := hid (put_at (G3.out.on (Nat.le_refl _) B35.out) (Nat.le_refl _) x HPE.out HP2.out)
    clear h4 h5 B3 B4 CH5
    go_wp2_with fail
    refine CP6.out.mono ?_
    rintro e w6 ⟨A6, n6, c6, rfl, h6⟩
    have B6 := hid (gbelow_on B5.out (Nat.le_refl _) h6.out.2.1)
    have B36 := hid (gbelow_on B35.out (Nat.le_refl _) h6.out.2.1)
    clear h6 CP6 B5 B35
    have CA := hid (CHO.out w6 B6.out)
    have CB := hid (fun X (hb : Below w6.heap.size w6 X) => has_any (G3.out.on (Nat.le_refl _) (gbelow_on B36.out (Nat.le_refl _) hb)) (Nat.le_refl _) o)
    have CC := hid (fun X (hb : Below w6.heap.size w6 X) => CBO.out X (gbelow_on B6.out (Nat.le_refl _) hb))
    have CD := hid (fun X (hb : Below w6.heap.size w6 X) => below_any (G3.out.on (Nat.le_refl _) (gbelow_on B36.out (Nat.le_refl _) hb)) (Nat.le_refl _) o)
    clear CHO CBO
    rcases K.out with ⟨q, hq, e1, e2, e3, e4, e5, e6⟩ | ⟨a, b, p, d, e1, e2, e3, e4, e5, e6, hpn, hd, hab⟩
    · rw [e1, e3] at CA
      rw [e2, e4] at CB
      rw [e1, e5] at CC
      rw [e2, e6] at CD
      have hqb : (q == 0) = false := beq_eq_false_iff_ne.2 hq
      clear e1 e2 e3 e4 e5 e6
      go_wp2_with fail
      refine CA.out.mono ?_
      rintro e w7 ⟨rfl, h7⟩
      go_wp2_with fail
      refine (CB.out w7 h7.out).mono ?_
      rintro e w8 ⟨rfl, h8⟩
      have b8 := hid (gbelow_on h7.out (Nat.le_refl _) h8.out)
      go_wp2_with fail
      refine (CC.out w8 b8.out).mono ?_
      rintro e w9 ⟨rfl, h9⟩
      have b9 := hid (gbelow_on b8.out (Nat.le_refl _) h9.out)
      go_wp2_with fail
      refine (CD.out w9 b9.out).mono ?_
      rintro e w10 ⟨rfl, h10⟩
      have b10 := hid (gbelow_on b9.out (Nat.le_refl _) h10.out)
      go_wp2
      go_ret
      exact ⟨rfl, gbelow_on (gbelow_on B1.out (Nat.le_refl _) B6.out) (Nat.le_refl _) b10.out⟩
    · rw [e1, e3] at CA
      rw [e2, e4] at CB
      rw [e1, e5] at CC
      rw [e2, e6] at CD
      clear e1 e2 e3 e4 e5 e6
      have hdd : (x < o ∧ d = p + 1) ∨ (¬ x < o ∧ d = p) := by
        by_cases h1 : x < o
        · rw [if_pos h1] at hd; exact .inl ⟨h1, hd⟩
        · rw [if_neg h1] at hd; exact .inr ⟨h1, hd⟩
      clear hd
      rcases hdd with ⟨hxo, rfl⟩ | ⟨hxo, rfl⟩ <;> rcases hab with ⟨hox, rfl, rfl⟩ | ⟨hox, rfl, rfl⟩ | ⟨hox, rfl, rfl⟩
      any_goals (exfalso; omega)
      all_goals
        try have hoxb : (o == x) = true := beq_iff_eq.2 hox
        try have hoxb : (o == x) = false := beq_eq_false_iff_ne.2 hox
        try have hgt : o > x := hxo
        try have hgt : ¬ o > x := hxo
        replace hox := hid hox
        replace hxo := hid hxo
        go_wp2_with fail
        refine CA.out.mono ?_
        rintro e w7 ⟨rfl, h7⟩
        go_wp2_with fail
        refine (CB.out w7 h7.out).mono ?_
        rintro e w8 ⟨rfl, h8⟩
        have b8 := hid (gbelow_on h7.out (Nat.le_refl _) h8.out)
        go_wp2_with fail
        refine (CC.out w8 b8.out).mono ?_
        rintro e w9 ⟨rfl, h9⟩
        have b9 := hid (gbelow_on b8.out (Nat.le_refl _) h9.out)
        go_wp2_with fail
        refine (CD.out w9 b9.out).mono ?_
        rintro e w10 ⟨rfl, h10⟩
        have b10 := hid (gbelow_on b9.out (Nat.le_refl _) h10.out)
        go_wp2
        go_ret
        exact ⟨rfl, gbelow_on (gbelow_on B1.out (Nat.le_refl _) B6.out) (Nat.le_refl _) b10.out⟩
end Go.Proofs.Ytohofgmdellpnaa.Seen
