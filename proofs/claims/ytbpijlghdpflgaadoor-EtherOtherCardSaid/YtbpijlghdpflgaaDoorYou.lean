/- EtherOther, with room for a copy more. -/
import Derived.Test.YtbpijlghdpflgaaDoorYot
namespace Go.Proofs.YtbpijlghdpflgaaDoor.Eth
open Go.RowKit Go.Shelf Go.Lib Go.BigFrame

set_option maxHeartbeats 25600000 in
set_option maxRecDepth 100000 in
theorem other_room (PE : SameOk) (PS : SendOk) (PT : TakeOk) (PD : DoubleOk) {T : World → Prop} (PP : SpoilOk T) (ST : Stays T) {w : World} (hT : T w) {n c : Nat} {A : Option Addr} {l : List Cp} {i a : Int} {m : Nat} (hm : m < 4294967296) (h : Cls w w.heap.size A n c l) (hz : spE l i a m = 0) (h16 : ¬ 16 ≤ l.length) :
    Calls Tryd.prog 6 #[.slice A n c, .int .i64 i, .int .i64 a, .int .u32 (m : Int)] w fun e w' => e = .returned (.bool true) ∧ Below w.heap.size w w' := by
  have H := hid h
  have hl := hid h.len
  have hcap := h.cap
  have hmx := h.max
  clear h
  go_enter Tryd.func6, Tryd.ntmps6
  go_wp2_with fail
  refine (alive_walk PS PT PD PP ST w hT).mono ?_
  rintro e w1 ⟨rfl, b1⟩
  have L1 := hid (H.out.on (Nat.le_refl _) b1.out)
  clear H
  go_wp2_with fail
  by_cases hgr : grC l
  · refine (great_yes L1.out hgr).mono ?_
    rintro e w2 ⟨rfl, rfl⟩
    clear hgr
    go_wp2
    go_ret
    exact ⟨rfl, b1.out⟩
  refine (great_no L1.out hgr).mono ?_
  rintro e w2 ⟨rfl, rfl⟩
  have CP := hid (PP _ _ _ _ _ _ i a m L1.out (Nat.le_refl _) hm (ST _ _ hT b1.out))
  clear hgr
  obtain ⟨k, p, rfl, hk, hp, h17, hmay, hfit, hsp, hL⟩ := spE_zero hz
  rw [hz, hL] at CP
  have hkn : k < n := by rw [← hl.out]; exact hk
  have hn16 : n ≤ 16 := by rw [← hl.out]; exact h17
  have HP := hid hp
  have HA := hid (sp_again hk h17 hmay hp hfit)
  have HD := hid (db_some hk h17 hmay hp)
  have HS2 := hid (fun h16' => sp_dbl hk h16' hmay hp hfit hsp)
  have HN := hid (trn_ne (t := p.2.2.1) (a := a.toNat) (m := m) (by have := hfit.1.1; rw [show ((a.toNat : Nat) : Int) = a from by omega]; exact hfit) hm)
  have HL := hid hL
  clear hz hL hk h17 hmay hp hfit
  go_wp2_with fail
  refine CP.out.mono ?_
  rintro e w3 ⟨A3, n3, c3, rs3, rfl, h3⟩
  obtain rfl : n = n3 := by have h1 := h3.out.2.2; rw [List.length_set, hl.out] at h1; exact h1.symm
  have b3 := hid (gbelow_on b1.out (Nat.le_refl _) h3.out.2.1)
  have L3 := hid (L1.out.on (Nat.le_refl _) h3.out.2.1)
  have S3 := hid h3.out.1.cls
  clear h3 CP b1 L1
  obtain ⟨b, off, x, y, D, nt, d, t, s, rfl, hb, hp, c0, c1, c2, c3', ht, hf⟩ := L3.out.get hkn
  obtain ⟨b', off', x', y', D', nt', d', t', s', rfl, hb', hp', d0, d1, d2, d3', ht', hf'⟩ := S3.out.get hkn
  have e1 : p = (x, y, t, s) := by rw [HP.out] at hp; injection hp
  have e2 : spC p a m = (x', y', t', s') := by rw [List.getElem?_set_self (by rw [hl.out]; exact hkn)] at hp'; injection hp'
  subst e1
  obtain rfl : s = false := hsp
  obtain rfl : x = x' := congrArg (·.1) e2
  obtain rfl : y = y' := congrArg (·.2.1) e2
  obtain rfl : s' = true := (congrArg (·.2.2.2) e2).symm
  have e3 : t' = trn t a.toNat m 32 := (congrArg (·.2.2.1) e2).symm
  obtain rfl : nt = nt' := by rw [← ht.blen, ← ht'.blen, e3, trn_len]
  have hz2 : (k : Int) < (n : Int) := by omega
  have hcv := fun j : Nat => convB (ht.below (below_drewN (Below.refl _ w3) j))
  have hcv' := fun j : Nat => convB (ht'.below (below_drewN (Below.refl _ w3) j))
  have hsb : ((strB t').toList == (strB t).toList) = false := by rw [strB_list hf' hf]; exact decide_eq_false (fun e => HN.out (by rw [← e3, e]))
  clear e2 e3 hp hp'
  have mixed : Tryd.prog.follows .mixedOrders = true := by kernel_rfl
  go_wp2_with fail
  have hz0 : decide ((k : Int) < 0) = false := decide_eq_false (by omega)
  have hz1 : decide (n ≤ k) = false := decide_eq_false (by omega)
  refine wp_region_quiet_lit (by assumption) (lexB_8 11 (by as_aux_lemma => kernel_rfl) (by as_aux_lemma => kernel_rfl) (by as_aux_lemma => kernel_rfl) (by as_aux_lemma => kernel_rfl) (by as_aux_lemma => kernel_rfl) (by as_aux_lemma => kernel_rfl) (by as_aux_lemma => kernel_rfl) (by as_aux_lemma => kernel_rfl) (by as_aux_lemma => kernel_rfl) (by as_aux_lemma => kernel_rfl) (by as_aux_lemma => kernel_rfl)) ?_
  simp only [List.append_eq, List.cons_append, List.nil_append]
  repeat (go_big_quiet_step (fail))
  refine wpQuiet_nil ?_
  intro _ hw'
  obtain ⟨nq, hw''⟩ := hw'
  subst hw''
  have B4 := hid (below_drewN (Below.refl w3.heap.size w3) nq)
  clear hz0 hz1 c0 c1 c2 c3' d0 d1 d2 d3' hcv hcv' hsb ht ht' hf hf' HN HL hz2
  generalize w3.drewN nq = w4 at B4 ⊢
  have b4 := hid (gbelow_on b3.out (Nat.le_refl _) B4.out)
  have L4 := hid (L3.out.on (Nat.le_refl _) B4.out)
  have S4 := hid (S3.out.on (Nat.le_refl _) B4.out)
  have CA := hid (PP _ _ _ _ _ _ k a m S4.out (Nat.le_refl _) hm (ST _ _ hT b4.out))
  rw [HA.out] at CA
  clear B4 b3 L3 S3 HA
  go_wp2_with fail
  refine CA.out.mono ?_
  rintro e w5 ⟨A5, n5, c5, rs5, rfl, h5⟩
  have b5 := hid (gbelow_on b4.out (Nat.le_refl _) h5.out.2.1)
  have L5 := hid (L4.out.on (Nat.le_refl _) h5.out.2.1)
  have S5 := hid (S4.out.on (Nat.le_refl _) h5.out.2.1)
  have CD := hid (PD _ _ _ _ _ _ k L5.out (Nat.le_refl _))
  rw [HD.out.1] at CD
  have HD := hid HD.out.2
  clear h5 CA b4 L4 S4
  rw [if_neg h16, HD.out h16] at CD
  obtain ⟨e8, e9⟩ := HS2.out h16
  have E8 := hid e8
  have E9 := hid e9
  clear HD HS2 h16 e8 e9
  go_wp2_with fail
  refine CD.out.mono ?_
  rintro e w6 ⟨A6, n6, c6, rs6, rfl, h6⟩
  obtain rfl : n + 1 = n6 := by have h1 := h6.out.2.2; rw [List.length_append, hl.out] at h1; exact h1.symm
  have b6 := hid (gbelow_on b5.out (Nat.le_refl _) h6.out.2.1)
  have L6 := hid (L5.out.on (Nat.le_refl _) h6.out.2.1)
  have S6 := hid (S5.out.on (Nat.le_refl _) h6.out.2.1)
  have CQ := hid (PP _ _ _ _ _ _ k a m h6.out.1.cls (Nat.le_refl _) hm (ST _ _ hT b6.out))
  rw [E8.out, E9.out] at CQ
  clear h6 CD b5 L5 S5 E8 E9
  go_wp2_with fail
  refine CQ.out.mono ?_
  rintro e w7 ⟨A7, n7, c7, rs7, rfl, h7⟩
  obtain rfl : n + 1 = n7 := by have h1 := h7.out.2.2; rw [List.length_append, List.length_set, hl.out] at h1; exact h1.symm
  have b7 := hid (gbelow_on b6.out (Nat.le_refl _) h7.out.2.1)
  have L7 := hid (L6.out.on (Nat.le_refl _) h7.out.2.1)
  have S7 := hid (S6.out.on (Nat.le_refl _) h7.out.2.1)
  have T7 := hid h7.out.1.cls
  clear h7 CQ b6 L6 S6
  obtain ⟨g, o, x9, y9, D9, m9, d9, t9, s9, rfl, hg, hp9, e0, e1, e2, e3, ht9, hf9⟩ := T7.out.get (k := n) (by omega)
  obtain ⟨g1, o1, x8, y8, D8, m8, d8, t8, s8, e81, hb1, hp8, f0, f1, f2, f3, ht8, hf8⟩ := L7.out.get hkn
  obtain ⟨rfl, rfl⟩ : b = g1 ∧ off = o1 := by injection e81 with e81; injection e81 with e1 e2; exact ⟨e1, e2⟩
  rw [HP.out] at hp8
  rw [List.getElem?_append_right (by rw [List.length_set, hl.out]; exact Nat.le_refl _), List.length_set, hl.out, Nat.sub_self] at hp9
  simp only [List.getElem?_cons_zero, Option.some.injEq, Prod.mk.injEq] at hp8 hp9
  obtain ⟨rfl, rfl, rfl, rfl⟩ := hp8
  obtain ⟨rfl, rfl, rfl, rfl⟩ := hp9
  have hc7 := T7.out.cap
  have HCl := hid (fun (X : World) (hX : Below w7.heap.size w7 X) => show (X.cell? ⟨g, o + n * 4, none⟩ = some (.int .i64 x) ∧ X.cell? ⟨g, o + n * 4 + 1, none⟩ = some (.int .i64 y) ∧ X.cell? ⟨g, o + n * 4 + 2, none⟩ = some (.slice D9 m9 d9) ∧ X.cell? ⟨g, o + n * 4 + 3, none⟩ = some (.bool false)) ∧ X.cell? ⟨b, off + k * 4, none⟩ = some (.int .i64 x) ∧ X.cell? ⟨b, off + k * 4 + 1, none⟩ = some (.int .i64 y) ∧ X.cell? ⟨b, off + k * 4 + 2, none⟩ = some (.slice D8 m8 d8) ∧ X.cell? ⟨b, off + k * 4 + 3, none⟩ = some (.bool false) from
    ⟨⟨(hX.cell (p := ⟨g, o + n * 4, none⟩) hg).trans e0, (hX.cell (p := ⟨g, o + n * 4 + 1, none⟩) hg).trans e1, (hX.cell (p := ⟨g, o + n * 4 + 2, none⟩) hg).trans e2, (hX.cell (p := ⟨g, o + n * 4 + 3, none⟩) hg).trans e3⟩,
     (hX.cell (p := ⟨b, off + k * 4, none⟩) hb1).trans f0, (hX.cell (p := ⟨b, off + k * 4 + 1, none⟩) hb1).trans f1, (hX.cell (p := ⟨b, off + k * 4 + 2, none⟩) hb1).trans f2, (hX.cell (p := ⟨b, off + k * 4 + 3, none⟩) hb1).trans f3⟩)
  have HT9 := hid ht9
  have HT8 := hid ht8
  have HF := hid hf8
  have ST := hid (fun (X : World) (hX : Below w7.heap.size w7 X) => PE X _ _ n c7 n c3 (some ⟨g, o, none⟩) (some ⟨b', off', none⟩) _ _ (by
      have h1 := (T7.out.on (Nat.le_refl _) hX).first (p := n) (c' := c7) (by omega) (by omega) (fun e => (by cases e))
      rwa [List.take_left' (by rw [List.length_set, hl.out])] at h1) (S7.out.on (Nat.le_refl _) hX) (Nat.le_refl _) (Nat.le_refl _))
  rw [decide_eq_true rfl] at ST
  have SO := hid (fun (X : World) (hX : Below w7.heap.size w7 X) => sameOne_any (x := x) (y := y) (s := false) (x' := x) (y' := y) (s' := false) (HT9.out.on (Nat.le_refl _) hX) HF.out (HT8.out.on (Nat.le_refl _) hX) HF.out (Nat.le_refl _) (Nat.le_refl _))
  rw [decide_eq_true rfl] at SO
  clear ht8 ht9 hf8 hf9 e81 hb1 e0 e1 e2 e3 f0 f1 f2 f3
  have hb3 : (n : Int) ≤ (c7 : Int) := by omega
  have hb4 : (0 : Int) ≤ (n : Int) := by omega
  have hb5 : (n : Int) < (n : Int) + 1 := by omega
  have hb6 : n < n + 1 := by omega
  have hcc : ((n + 1 : Nat) : Int) = (n : Int) + 1 := by omega
  go_wp2_with fail
  have HB0 := hid ((Below.refl w7.heap.size w7).drew)
  have h0 := HCl.out w7 (Below.refl _ _)
  go_region_held3 (fun X => (X.cell? ⟨g, o + n * 4, none⟩ = some (.int .i64 x) ∧ X.cell? ⟨g, o + n * 4 + 1, none⟩ = some (.int .i64 y) ∧ X.cell? ⟨g, o + n * 4 + 2, none⟩ = some (.slice D9 m9 d9) ∧ X.cell? ⟨g, o + n * 4 + 3, none⟩ = some (.bool false)) ∧ X.cell? ⟨b, off + k * 4, none⟩ = some (.int .i64 x) ∧ X.cell? ⟨b, off + k * 4 + 1, none⟩ = some (.int .i64 y) ∧ X.cell? ⟨b, off + k * 4 + 2, none⟩ = some (.slice D8 m8 d8) ∧ X.cell? ⟨b, off + k * 4 + 3, none⟩ = some (.bool false))
    (first | with_reducible exact HCl.out _ HB9.out | with_reducible exact HCl.out _ HB8.out | with_reducible exact HCl.out _ HB0.out | fail)
    (first
    | (go_at_call 20
       first
       | (with_reducible refine (ST.out _ HB0.out).mono ?_
          rintro e w8 ⟨rfl, h8⟩
          have HB8 := hid (gbelow_on HB0.out (Nat.le_refl _) h8.out))
       | fail)
    | (go_at_call 19
       first
       | (with_reducible refine (SO.out _ HB8.out).mono ?_
          rintro e w9 ⟨rfl, h9⟩
          have HB9 := hid (gbelow_on HB8.out (Nat.le_refl _) h9.out))
       | fail)
    | fail)
  all_goals
    have b9 := hid (gbelow_on b7.out (Nat.le_refl _) HB9.out)
    have L9 := hid (L7.out.on (Nat.le_refl _) HB9.out)
    have S9 := hid (S7.out.on (Nat.le_refl _) HB9.out)
    clear b7 L7 S7 T7 ST SO HT8 HT9 HF h0 HCl HB0 HB8 HB9 hb3 hb4 hb5 hb6 hcc hc7
    have hc3 := S9.out.cap
    have hw3 : IntKind.i64.wrap ((k : Int) + 1) = (k : Int) + 1 := by rw [IntKind.wrap_i64]; omega
    have htn : ((k : Int) + 1).toNat = k + 1 := by omega
    have hb1 : (0 : Int) ≤ (k : Int) + 1 := by omega
    have hb2 : (k : Int) + 1 ≤ (n : Int) := by omega
    have hb3 : (n : Int) ≤ (c : Int) := by omega
    have hb4 : (n : Int) ≤ (c3 : Int) := by omega
    have hb5 : (k : Int) ≤ (c3 : Int) := by omega
    have hb6 : (k : Int) ≤ (c : Int) := by omega
    have HC0 := hid ((Below.refl w9.heap.size w9).drew)
    have SA := hid (fun (X : World) (hX : Below w9.heap.size w9 X) => PE X _ _ k c3 k c (some ⟨b', off', none⟩) (some ⟨b, off, none⟩) (l.take k) (l.take k) (by
      have h1 := (S9.out.on (Nat.le_refl _) hX).first (p := k) (c' := c3) (by omega) (by omega) (fun e => (by cases e))
      rwa [List.take_set_of_le (Nat.le_refl _)] at h1) ((L9.out.on (Nat.le_refl _) hX).first (p := k) (c' := c) (by omega) (by omega) (fun e => (by cases e))) (Nat.le_refl _) (Nat.le_refl _))
    rw [decide_eq_true rfl] at SA
    have SB := hid (fun (X : World) (hX : Below w9.heap.size w9 X) => PE X _ _ (n - (k + 1)) (c3 - (k + 1)) (n - (k + 1)) (c - (k + 1)) _ _ (l.drop (k + 1)) (l.drop (k + 1)) (by
      have h1 := (S9.out.on (Nat.le_refl _) hX).restB (p := k + 1) (by omega)
      rwa [List.drop_set_of_lt (by omega)] at h1) ((L9.out.on (Nat.le_refl _) hX).restB (p := k + 1) (by omega)) (Nat.le_refl _) (Nat.le_refl _))
    rw [decide_eq_true rfl] at SB
    go_wp2_with fail
    rcases Decidable.em (c = k + 1) with hq | hq <;> rcases Decidable.em (c3 = k + 1) with hq3 | hq3
    all_goals
      first | rw [if_pos hq3] at SB | rw [if_neg hq3] at SB | fail
      first | rw [if_pos hq] at SB | rw [if_neg hq] at SB | fail
      first | replace hq := eq_false hq | replace hq := eq_true hq | fail
      first | replace hq3 := eq_false hq3 | replace hq3 := eq_true hq3 | fail
      go_region_held3 (fun _ => True)
        (first | trivial | fail)
        (first
        | (go_at_call 20
           first
           | (with_reducible refine (SA.out _ HC0.out).mono ?_
              rintro e w10 ⟨rfl, h10⟩
              have HC1 := hid (gbelow_on HC0.out (Nat.le_refl _) h10.out))
           | (with_reducible refine (SB.out _ HC1.out).mono ?_
              rintro e w11 ⟨rfl, h11⟩
              have HC2 := hid (gbelow_on HC1.out (Nat.le_refl _) h11.out))
           | fail)
        | fail)
      all_goals
        clear SA SB
        have BZ := hid (gbelow_on b9.out (Nat.le_refl _) HC2.out)
        go_wp2
        go_ret
        exact ⟨rfl, BZ.out⟩
end Go.Proofs.YtbpijlghdpflgaaDoor.Eth
