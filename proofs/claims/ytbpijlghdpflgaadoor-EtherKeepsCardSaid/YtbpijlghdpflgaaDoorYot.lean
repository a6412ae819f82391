/- EtherOther, walked over the program's calls. -/
import Derived.Test.YtbpijlghdpflgaaDoorYtl
import Derived.Deep.DeepBigQuietO
import Derived.Test.YtbpijlghdpflgaaDoorYlx
namespace Go.Proofs.YtbpijlghdpflgaaDoor.Eth
open Go.RowKit Go.Shelf Go.Lib Go.BigFrame

theorem spE_zero {l : List Cp} {i a : Int} {m : Nat} (h : spE l i a m = 0) : ∃ (k : Nat) (p : Cp), i = (k : Int) ∧ k < l.length ∧ l[k]? = some p ∧ l.length ≤ 16 ∧ (∀ q ∈ l, MayC q) ∧ fits p.2.2.1.length a m ∧ p.2.2.2 = false ∧ spL l i a m = l.set k (spC p a m) := by
  have hL : spL l i a m = l.set i.toNat (spC (l.getD i.toNat C0) a m) := if_pos h
  unfold spE at h
  by_cases h0 : echk l = 0
  · rw [if_neg (by simp [h0])] at h
    by_cases h1 : plc l i ∧ fits (l.getD i.toNat C0).2.2.1.length a m
    · rw [if_neg (fun e => e h1)] at h
      by_cases h2 : (l.getD i.toNat C0).2.2.2 = true
      · rw [if_pos h2] at h; cases h
      · obtain ⟨⟨h3, h4⟩, h5⟩ := h1
        have h6 : i.toNat < l.length := by omega
        have h7 : l.getD i.toNat C0 = l[i.toNat] := by rw [List.getD_eq_getElem?_getD, List.getElem?_eq_getElem h6]; rfl
        rw [h7] at h5 h2 hL
        refine ⟨i.toNat, l[i.toNat], by omega, h6, List.getElem?_eq_getElem _, (echk_zero.1 h0).1, (echk_zero.1 h0).2, h5, by simpa using h2, hL⟩
    · rw [if_pos h1] at h; cases h
  · rw [if_pos h0] at h; exact absurd h h0
theorem may_spC {p : Cp} (h : MayC p) (a : Int) (m : Nat) : MayC (spC p a m) := by
  obtain ⟨h1, h2, h3, h4⟩ := h
  refine ⟨h1, h2, ?_, ?_⟩ <;> · show _ ≤ _; simp only [spC, trn_len]; assumption
theorem may_set {l : List Cp} {p : Cp} {k : Nat} (h : ∀ q ∈ l, MayC q) (hp : l[k]? = some p) (a : Int) (m : Nat) : ∀ q ∈ l.set k (spC p a m), MayC q := by
  intro q hq
  rcases List.mem_or_eq_of_mem_set hq with h1 | rfl
  · exact h q h1
  · exact may_spC (h p (List.mem_of_getElem? hp)) a m
theorem sp_again {l : List Cp} {p : Cp} {k m : Nat} {a : Int} (hk : k < l.length) (hl : l.length ≤ 16) (h : ∀ q ∈ l, MayC q) (hp : l[k]? = some p) (hf : fits p.2.2.1.length a m) : spE (l.set k (spC p a m)) (k : Int) a m = 12 := by
  have h0 : echk (l.set k (spC p a m)) = 0 := echk_zero.2 ⟨by rw [List.length_set]; exact hl, may_set h hp a m⟩
  have hg : (l.set k (spC p a m)).getD (k : Int).toNat C0 = spC p a m := by
    rw [Int.toNat_natCast, List.getD_eq_getElem?_getD, List.getElem?_set_self hk]
    rfl
  unfold spE
  rw [if_neg (by simp [h0]), hg, if_neg (fun e => e ⟨⟨by omega, by rw [List.length_set]; omega⟩, by simp only [spC, trn_len]; exact hf⟩)]
  exact if_pos rfl
theorem db_some {l : List Cp} {p : Cp} {k : Nat} (hk : k < l.length) (hl : l.length ≤ 16) (h : ∀ q ∈ l, MayC q) (hp : l[k]? = some p) : dbE l (k : Int) = (if 16 ≤ l.length then 9 else 0) ∧ (¬ 16 ≤ l.length → dbL l (k : Int) = l ++ [p]) := by
  have hE : dbE l (k : Int) = (if 16 ≤ l.length then 9 else 0) := by
    unfold dbE
    rw [if_neg (by simp [echk_zero.2 ⟨hl, h⟩]), if_neg (fun e => e ⟨by omega, by omega⟩)]
  refine ⟨hE, fun h1 => ?_⟩
  unfold dbL
  rw [hE, if_neg h1, if_pos rfl, Int.toNat_natCast, List.getD_eq_getElem?_getD, hp]
  rfl
theorem sp_dbl {l : List Cp} {p : Cp} {k m : Nat} {a : Int} (hk : k < l.length) (hl : ¬ 16 ≤ l.length) (h : ∀ q ∈ l, MayC q) (hp : l[k]? = some p) (hf : fits p.2.2.1.length a m) (hs : p.2.2.2 = false) : spE (l ++ [p]) (k : Int) a m = 0 ∧ spL (l ++ [p]) (k : Int) a m = l.set k (spC p a m) ++ [p] := by
  have h0 : echk (l ++ [p]) = 0 := echk_zero.2 ⟨by simp; omega, fun q hq => by
    rcases List.mem_append.1 hq with h1 | h1
    · exact h q h1
    · rw [List.mem_singleton.1 h1]; exact h p (List.mem_of_getElem? hp)⟩
  have hg : (l ++ [p]).getD (k : Int).toNat C0 = p := by
    rw [Int.toNat_natCast, List.getD_eq_getElem?_getD, List.getElem?_append_left hk, hp]
    rfl
  have hE : spE (l ++ [p]) (k : Int) a m = 0 := by
    unfold spE
    rw [if_neg (by simp [h0]), hg, if_neg (fun e => e ⟨⟨by omega, by simp; omega⟩, hf⟩), if_neg (by rw [hs]; decide)]
  refine ⟨hE, ?_⟩
  unfold spL
  rw [if_pos hE, hg, Int.toNat_natCast, List.set_append_left _ _ hk]
theorem spL_bad {l : List Cp} {i a : Int} {m : Nat} (h : ¬ spE l i a m = 0) : spL l i a m = [] := if_neg h
/-- The rest behind a place, as a slice expression has it. -/
theorem Cls.restB {w : World} {B n c b off : Nat} {l : List Cp} (h : Cls w B (some ⟨b, off, none⟩) n c l) {p : Nat} (hp : p ≤ n) : Cls w B (if c = p then some ⟨b, off, none⟩ else some ⟨b, off + p * 4, none⟩) (n - p) (c - p) (l.drop p) := by
  have hcap := h.cap
  have hl := h.len
  by_cases e : c = p
  · rw [if_pos e, show n - p = 0 by omega, List.drop_eq_nil_of_le (by omega)]
    exact Cls.none' w B _ _
  · rw [if_neg e]
    have := h.restA (p := p) (c' := c - p) hp (by omega)
    rwa [Addr.add_lit] at this

set_option maxHeartbeats 25600000 in
set_option maxRecDepth 100000 in
theorem other_full (PE : SameOk) (PS : SendOk) (PT : TakeOk) (PD : DoubleOk) {T : World → Prop} (PP : SpoilOk T) (ST : Stays T) {w : World} (hT : T w) {n c : Nat} {A : Option Addr} {l : List Cp} {i a : Int} {m : Nat} (hm : m < 4294967296) (h : Cls w w.heap.size A n c l) (hz : spE l i a m = 0) (h16 : 16 ≤ l.length) :
    Calls Tryd.prog 6 #[.slice A n c, .int .i64 i, .int .i64 a, .int .u32 (m : Int)] w fun e w' => e = .returned (.bool true) ∧ Below w.heap.size w w' := by
  have H := hid h
  have hl := hid h.len
  have hcap := h.cap
  have hmx := h.max
  clear h
  go_enter Tryd.func6, Tryd.ntmps6
  go_wp2_with fail
  refine (alive_walk PS PT PD PP ST w hT).mono ?_
  rintro e w1 ⟨rfl, b1⟩
  have L1 := hid (H.out.on (Nat.le_refl _) b1.out)
  clear H
  go_wp2_with fail
  by_cases hgr : grC l
  · refine (great_yes L1.out hgr).mono ?_
    rintro e w2 ⟨rfl, rfl⟩
    clear hgr
    go_wp2
    go_ret
    exact ⟨rfl, b1.out⟩
  refine (great_no L1.out hgr).mono ?_
  rintro e w2 ⟨rfl, rfl⟩
  have CP := hid (PP _ _ _ _ _ _ i a m L1.out (Nat.le_refl _) hm (ST _ _ hT b1.out))
  clear hgr
  obtain ⟨k, p, rfl, hk, hp, h17, hmay, hfit, hsp, hL⟩ := spE_zero hz
  rw [hz, hL] at CP
  have hkn : k < n := by rw [← hl.out]; exact hk
  have hn16 : n ≤ 16 := by rw [← hl.out]; exact h17
  have HP := hid hp
  have HA := hid (sp_again hk h17 hmay hp hfit)
  have HD := hid (db_some hk h17 hmay hp)
  have HS2 := hid (fun h16' => sp_dbl hk h16' hmay hp hfit hsp)
  have HN := hid (trn_ne (t := p.2.2.1) (a := a.toNat) (m := m) (by have := hfit.1.1; rw [show ((a.toNat : Nat) : Int) = a from by omega]; exact hfit) hm)
  have HL := hid hL
  clear hz hL hk h17 hmay hp hfit
  go_wp2_with fail
  refine CP.out.mono ?_
  rintro e w3 ⟨A3, n3, c3, rs3, rfl, h3⟩
  obtain rfl : n = n3 := by have h1 := h3.out.2.2; rw [List.length_set, hl.out] at h1; exact h1.symm
  have b3 := hid (gbelow_on b1.out (Nat.le_refl _) h3.out.2.1)
  have L3 := hid (L1.out.on (Nat.le_refl _) h3.out.2.1)
  have S3 := hid h3.out.1.cls
  clear h3 CP b1 L1
  obtain ⟨b, off, x, y, D, nt, d, t, s, rfl, hb, hp, c0, c1, c2, c3', ht, hf⟩ := L3.out.get hkn
  obtain ⟨b', off', x', y', D', nt', d', t', s', rfl, hb', hp', d0, d1, d2, d3', ht', hf'⟩ := S3.out.get hkn
  have e1 : p = (x, y, t, s) := by rw [HP.out] at hp; injection hp
  have e2 : spC p a m = (x', y', t', s') := by rw [List.getElem?_set_self (by rw [hl.out]; exact hkn)] at hp'; injection hp'
  subst e1
  obtain rfl : s = false := hsp
  obtain rfl : x = x' := congrArg (·.1) e2
  obtain rfl : y = y' := congrArg (·.2.1) e2
  obtain rfl : s' = true := (congrArg (·.2.2.2) e2).symm
  have e3 : t' = trn t a.toNat m 32 := (congrArg (·.2.2.1) e2).symm
  obtain rfl : nt = nt' := by rw [← ht.blen, ← ht'.blen, e3, trn_len]
  have hz2 : (k : Int) < (n : Int) := by omega
  have hcv := fun j : Nat => convB (ht.below (below_drewN (Below.refl _ w3) j))
  have hcv' := fun j : Nat => convB (ht'.below (below_drewN (Below.refl _ w3) j))
  have hsb : ((strB t').toList == (strB t).toList) = false := by rw [strB_list hf' hf]; exact decide_eq_false (fun e => HN.out (by rw [← e3, e]))
  clear e2 e3 hp hp'
  have mixed : Tryd.prog.follows .mixedOrders = true := by kernel_rfl
  go_wp2_with fail
  have hz0 : decide ((k : Int) < 0) = false := decide_eq_false (by omega)
  have hz1 : decide (n ≤ k) = false := decide_eq_false (by omega)
  refine wp_region_quiet_lit (by assumption) (lexB_8 11 (by as_aux_lemma => kernel_rfl) (by as_aux_lemma => kernel_rfl) (by as_aux_lemma => kernel_rfl) (by as_aux_lemma => kernel_rfl) (by as_aux_lemma => kernel_rfl) (by as_aux_lemma => kernel_rfl) (by as_aux_lemma => kernel_rfl) (by as_aux_lemma => kernel_rfl) (by as_aux_lemma => kernel_rfl) (by as_aux_lemma => kernel_rfl) (by as_aux_lemma => kernel_rfl)) ?_
  simp only [List.append_eq, List.cons_append, List.nil_append]
  repeat (go_big_quiet_step (fail))
  refine wpQuiet_nil ?_
  intro _ hw'
  obtain ⟨nq, hw''⟩ := hw'
  subst hw''
  have B4 := hid (below_drewN (Below.refl w3.heap.size w3) nq)
  clear hz0 hz1 c0 c1 c2 c3' d0 d1 d2 d3' hcv hcv' hsb ht ht' hf hf' HN HL hz2
  generalize w3.drewN nq = w4 at B4 ⊢
  have b4 := hid (gbelow_on b3.out (Nat.le_refl _) B4.out)
  have L4 := hid (L3.out.on (Nat.le_refl _) B4.out)
  have S4 := hid (S3.out.on (Nat.le_refl _) B4.out)
  have CA := hid (PP _ _ _ _ _ _ k a m S4.out (Nat.le_refl _) hm (ST _ _ hT b4.out))
  rw [HA.out] at CA
  clear B4 b3 L3 S3 HA
  go_wp2_with fail
  refine CA.out.mono ?_
  rintro e w5 ⟨A5, n5, c5, rs5, rfl, h5⟩
  have b5 := hid (gbelow_on b4.out (Nat.le_refl _) h5.out.2.1)
  have L5 := hid (L4.out.on (Nat.le_refl _) h5.out.2.1)
  have S5 := hid (S4.out.on (Nat.le_refl _) h5.out.2.1)
  have CD := hid (PD _ _ _ _ _ _ k L5.out (Nat.le_refl _))
  rw [HD.out.1] at CD
  have HD := hid HD.out.2
  clear h5 CA b4 L4 S4
  rw [if_pos h16] at CD
  clear HD HS2
  go_wp2_with fail
  refine CD.out.mono ?_
  rintro e w6 ⟨A6, n6, c6, rs6, rfl, h6⟩
  have b6 := hid (gbelow_on b5.out (Nat.le_refl _) h6.out.2.1)
  have L6 := hid (L5.out.on (Nat.le_refl _) h6.out.2.1)
  have S6 := hid (S5.out.on (Nat.le_refl _) h6.out.2.1)
  clear h6 CD b5 L5 S5
  have hc3 := S6.out.cap
  have hw3 : IntKind.i64.wrap ((k : Int) + 1) = (k : Int) + 1 := by rw [IntKind.wrap_i64]; omega
  have htn : ((k : Int) + 1).toNat = k + 1 := by omega
  have hb1 : (0 : Int) ≤ (k : Int) + 1 := by omega
  have hb2 : (k : Int) + 1 ≤ (n : Int) := by omega
  have hb3 : (n : Int) ≤ (c : Int) := by omega
  have hb4 : (n : Int) ≤ (c3 : Int) := by omega
  have hb5 : (k : Int) ≤ (c3 : Int) := by omega
  have hb6 : (k : Int) ≤ (c : Int) := by omega
  have HB0 := hid ((Below.refl w6.heap.size w6).drew)
  have SA := hid (fun (X : World) (hX : Below w6.heap.size w6 X) => PE X _ _ k c3 k c (some ⟨b', off', none⟩) (some ⟨b, off, none⟩) (l.take k) (l.take k) (by
    have h1 := (S6.out.on (Nat.le_refl _) hX).first (p := k) (c' := c3) (by omega) (by omega) (fun e => (by cases e))
    rwa [List.take_set_of_le (Nat.le_refl _)] at h1) ((L6.out.on (Nat.le_refl _) hX).first (p := k) (c' := c) (by omega) (by omega) (fun e => (by cases e))) (Nat.le_refl _) (Nat.le_refl _))
  rw [decide_eq_true rfl] at SA
  have SB := hid (fun (X : World) (hX : Below w6.heap.size w6 X) => PE X _ _ (n - (k + 1)) (c3 - (k + 1)) (n - (k + 1)) (c - (k + 1)) _ _ (l.drop (k + 1)) (l.drop (k + 1)) (by
    have h1 := (S6.out.on (Nat.le_refl _) hX).restB (p := k + 1) (by omega)
    rwa [List.drop_set_of_lt (by omega)] at h1) ((L6.out.on (Nat.le_refl _) hX).restB (p := k + 1) (by omega)) (Nat.le_refl _) (Nat.le_refl _))
  rw [decide_eq_true rfl] at SB
  go_wp2_with fail
  rcases Decidable.em (c = k + 1) with hq | hq <;> rcases Decidable.em (c3 = k + 1) with hq3 | hq3
  all_goals
    first | rw [if_pos hq3] at SB | rw [if_neg hq3] at SB | fail
    first | rw [if_pos hq] at SB | rw [if_neg hq] at SB | fail
    first | replace hq := eq_false hq | replace hq := eq_true hq | fail
    first | replace hq3 := eq_false hq3 | replace hq3 := eq_true hq3 | fail
    go_region_held3 (fun _ => True)
      (first | trivial | fail)
      (first
      | (go_at_call 20
         first
         | (with_reducible refine (SA.out _ HB0.out).mono ?_
            rintro e w7 ⟨rfl, h7⟩
            have HB7 := hid (gbelow_on HB0.out (Nat.le_refl _) h7.out))
         | (with_reducible refine (SB.out _ HB7.out).mono ?_
            rintro e w8 ⟨rfl, h8⟩
            have HB8 := hid (gbelow_on HB7.out (Nat.le_refl _) h8.out))
         | fail)
      | fail)
    all_goals
      clear SA SB
      have BZ := hid (gbelow_on b6.out (Nat.le_refl _) HB8.out)
      go_wp2
      go_ret
      exact ⟨rfl, BZ.out⟩
end Go.Proofs.YtbpijlghdpflgaaDoor.Eth
