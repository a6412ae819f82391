/- TimerDue, walked. -/
import Derived.Test.YtgcmljnjfghagaaTtl
namespace Go.Proofs.Ytgcmljnjfghagaa.Tm
open Go.RowKit Go.Shelf Go.Lib
set_option maxRecDepth 100000

theorem Okl.sub {l s : List De} (h : Okl l) (k : s.Sublist l) : Okl s := ⟨fun x hx => h.1 x (k.mem hx), List.Pairwise.sublist k h.2⟩
theorem Okl.parts {l : List De} (h : Okl l) (now : Int) : l.filter (fun t => decide (t.1 ≤ now)) ++ l.filter (fun t => decide (t.1 > now)) = l := by
  obtain ⟨h1, h2⟩ := split_due h now
  rw [← h1, ← h2, List.take_append_drop]
theorem Okl.parts2 {l : List De} (h : Okl l) {now later : Int} (k : now ≤ later) : l.filter (fun t => decide (t.1 ≤ now)) ++ (l.filter (fun t => decide (t.1 > now))).filter (fun t => decide (t.1 ≤ later)) = l.filter (fun t => decide (t.1 ≤ later)) := by
  have h1 := (h.sub (List.filter_sublist (l := l) (p := fun t => decide (t.1 ≤ later)))).parts now
  rw [List.filter_filter, List.filter_filter] at h1
  rw [List.filter_filter]
  refine Eq.trans ?_ h1
  congr 1
  · congr 1; funext t; by_cases h2 : t.1 ≤ now
    · rw [decide_eq_true h2, decide_eq_true (show t.1 ≤ later by omega)]; rfl
    · rw [decide_eq_false h2]; rfl
  · congr 1; funext t; exact Bool.and_comm _ _
theorem over_over {l : List De} {now later : Int} (k : now ≤ later) : (l.filter (fun t => decide (t.1 > now))).filter (fun t => decide (t.1 > later)) = l.filter (fun t => decide (t.1 > later)) := by
  rw [List.filter_filter]
  congr 1; funext t; by_cases h2 : t.1 > later
  · rw [decide_eq_true h2, decide_eq_true (show t.1 > now by omega)]; rfl
  · rw [decide_eq_false h2]; rfl
theorem over_less {l : List De} {now later : Int} (k : later < now) : (l.filter (fun t => decide (t.1 > now))).filter (fun t => decide (t.1 > later)) = l.filter (fun t => decide (t.1 > now)) := by
  rw [List.filter_filter]
  congr 1; funext t; by_cases h2 : t.1 > now
  · rw [decide_eq_true h2, decide_eq_true (show t.1 > later by omega)]; rfl
  · rw [decide_eq_false h2, Bool.and_false]
theorem none_less {l : List De} {now later : Int} (k : later < now) : (l.filter (fun t => decide (t.1 > now))).filter (fun t => decide (t.1 ≤ later)) = [] := by
  rw [List.filter_filter, List.filter_eq_nil_iff]
  intro t _
  simp
  omega
theorem chk_over {l : List De} (h : chk l = 0) (now : Int) : chk (l.filter (fun t => decide (t.1 > now))) = 0 := by
  obtain ⟨h1, h2⟩ := chk_zero h
  exact chk_ok (Nat.le_trans (List.length_filter_le _ _) h1) (h2.sub (List.filter_sublist ..))
/-- append of one own list onto another one. -/
theorem list_two {X : World} {ops : Array Oper} {rest : List Oper} {o : Oper} {a : Act} {Q : Exit → Act → World → Prop} (hg : o.guard = none) (s x : Operand)
    (ho : o.op = .call { callee := .builtin .append, args := #[s, x], argTypes := #[27, 27] }) {N B n c n' c' : Nat} {A A' : Option Addr} {l r : List De} (hs : a.eval s = .slice A' n' c') (hx : a.eval x = .slice A n c)
    (hO : Od X N (.slice A' n' c') l) (hD : Ds X B A n c r) (hn : l.length + n ≤ 100000) (hN : N ≤ X.heap.size)
    (h : ∀ A' n' c' Y, Hid (Od Y N (.slice A' n' c') (l ++ r) ∧ Below N X Y) → wpList Try.prog ops Q rest (a.put o.dst (.slice A' n' c')) Y) : wpList Try.prog ops Q (o :: rest) a X := by
  refine list_appD hg s x ho hs hx hO hD hn hN ?_
  intro v' w' HT
  obtain ⟨A2, n2, c2, rfl, _, _⟩ := od_letter HT.out.own
  exact h A2 n2 c2 w' (hid ⟨HT.out.own, spoil_below HT.out.grown hO (Nat.le_refl _) hN⟩)

theorem list_ownW {X : World} {ops : Array Oper} {rest : List Oper} {o : Oper} {a : Act} {Q : Exit → Act → World → Prop} (hgd : Region.wanted o (yielded ops a.tmps) = true) (s x : Operand)
    (ho : o.op = .call { callee := .builtin .append, args := #[s, x], argTypes := #[27, 27] }) {B n c : Nat} {A : Option Addr} {l : List De} (hs : a.eval s = .slice (some ⟨X.heap.size, 0, none⟩) 0 0) (hx : a.eval x = .slice A n c)
    (hD : Ds X B A n c l) (hB : B ≤ X.heap.size) (hn : n ≤ 100000)
    (h : ∀ A' n' c' Y, Hid (Od Y X.heap.size (.slice A' n' c') l ∧ Below X.heap.size X Y) → wpList Try.prog ops Q rest (a.put o.dst (.slice A' n' c')) Y) : wpList Try.prog ops Q (o :: rest) a (X.alloc (.cells #[] 23)) := by
  have b1 : Below X.heap.size X (X.alloc (.cells #[] 23)) := (Below.refl _ X).alloc (Nat.le_refl _) _
  refine BigFrame.wpList_want hgd fun K hK => wp_appD s x ho hs hx (od_at (heap_alloc_new X _) (Nat.le_refl _)) (hD.below (b1.mono hB)) (by simpa using hn) (by simp) ?_
  intro v' w' HT
  obtain ⟨A', n', c', rfl, _, _⟩ := od_letter HT.out.own
  refine hK _ _ (h A' n' c' w' (hid ⟨HT.out.own, b1.trans ⟨HT.out.grown.os, HT.out.grown.tape, HT.out.grown.output, HT.out.grown.size, fun k hk => HT.out.grown.block k (by simp; omega) (fun e => ?_)⟩⟩))
  have e2 : k = X.heap.size := Option.some.inj e
  omega
theorem list_twoW {X : World} {ops : Array Oper} {rest : List Oper} {o : Oper} {a : Act} {Q : Exit → Act → World → Prop} (hg : Region.wanted o (yielded ops a.tmps) = true) (s x : Operand)
    (ho : o.op = .call { callee := .builtin .append, args := #[s, x], argTypes := #[27, 27] }) {N B n c n' c' : Nat} {A A' : Option Addr} {l r : List De} (hs : a.eval s = .slice A' n' c') (hx : a.eval x = .slice A n c)
    (hO : Od X N (.slice A' n' c') l) (hD : Ds X B A n c r) (hn : l.length + n ≤ 100000) (hN : N ≤ X.heap.size)
    (h : ∀ A' n' c' Y, Hid (Od Y N (.slice A' n' c') (l ++ r) ∧ Below N X Y) → wpList Try.prog ops Q rest (a.put o.dst (.slice A' n' c')) Y) : wpList Try.prog ops Q (o :: rest) a X := by
  refine BigFrame.wpList_want hg fun K hK => wp_appD s x ho hs hx hO hD hn hN ?_
  intro v' w' HT
  obtain ⟨A2, n2, c2, rfl, _, _⟩ := od_letter HT.out.own
  exact hK _ _ (h A2 n2 c2 w' (hid ⟨HT.out.own, spoil_below HT.out.grown hO (Nat.le_refl _) hN⟩))

set_option maxHeartbeats 25600000 in
theorem tdue_walk {w : World} {n c : Nat} {A : Option Addr} {l : List De} {now later : Int} (h : Ds w w.heap.size A n c l) :
    Calls Try.prog 7 #[.slice A n c, .int .i64 now, .int .i64 later] w fun e w' => e = .returned (.bool true) ∧ Below w.heap.size w w' := by
  have HD := hid h
  have HL := hid h.len
  have hm := h.max
  have hcap := h.cap
  clear h
  have C1 := hid (alive_any w)
  unfold Tel at C1
  have CG := hid (fun w => great_any (w := w) (A := A) (n := n) (c := c))
  go_enter Try.func7, Try.ntmps7
  go_wp2_with (first | (go_at_call 14; with_reducible refine C1.out.mono ?_; rintro e W ⟨rfl, BW0⟩) | fail)
  have HS0 := hid BW0.out.size
  cases hg : grt n with
  | true =>
    rw [hg] at CG
    refine (CG.out W).mono ?_
    rintro e w1 ⟨rfl, rfl⟩
    go_wp2
    go_ret
    exact ⟨rfl, BW0.out⟩
  | false =>
    rw [hg] at CG
    have hn8 := grt_le hg
    clear hg C1
    refine (CG.out W).mono ?_
    rintro e w1 ⟨rfl, rfl⟩
    clear CG
    obtain ⟨de, hde⟩ : ∃ x, x = duE l now := ⟨_, rfl⟩
    obtain ⟨da, hda⟩ : ∃ x, x = duA l now := ⟨_, rfl⟩
    obtain ⟨db, hdb⟩ : ∃ x, x = duB l now := ⟨_, rfl⟩
    have HDe := hid (And.intro hda.symm (And.intro hdb.symm hde.symm))
    clear hde hda hdb
    have C1 := (by have h := pdue_any now (HD.out.below BW0.out) BW0.out.size; rw [HDe.out.1, HDe.out.2.1, HDe.out.2.2] at h; exact h : Calls _ _ _ _ (TwoE W da db de))
    unfold TwoE at C1
    go_wp2_with fail
    refine C1.mono ?_
    rintro e w1 ⟨v1, u1, rfl, H1⟩
    obtain ⟨A1, n1, c1, rfl, _, _⟩ := od_letter H1.out.1
    obtain ⟨D1, m1, d1, rfl, _, _⟩ := od_letter H1.out.2.1
    have b1 := hid H1.out.2.2.2
    have F1 := hid H1.out.2.2.1
    have HS1 := hid (show W.heap.size ≤ w1.heap.size from b1.out.size)
    have BW1 := hid (BW0.out.trans (b1.out.mono BW0.out.size))
    clear BW0
    have O_a_1 := hid (H1.out.1)
    have I_a : Hid (∀ b, (Value.slice A1 n1 c1).ownBlock = some b → W.heap.size ≤ b ∧ b < w1.heap.size) := hid (own_lt O_a_1.out)
    have O_b_1 := hid (H1.out.2.1)
    have I_b : Hid (∀ b, (Value.slice D1 m1 d1).ownBlock = some b → W.heap.size ≤ b ∧ b < w1.heap.size) := hid (own_lt O_b_1.out)
    clear H1 C1 b1
    by_cases hde : de = 0
    case neg =>
      have hz : (de != 0) = true := by simp [hde]
      have hk : duA l now = [] ∧ duB l now = [] := by
        have h1 := HDe.out.2.2
        unfold duA duB
        rw [h1, if_neg hde, if_neg hde]
        exact ⟨rfl, rfl⟩
      obtain rfl : n1 = 0 := by have h := O_a_1.out.row_len; rw [← HDe.out.1, hk.1] at h; exact h.symm
      obtain rfl : m1 = 0 := by have h := O_b_1.out.row_len; rw [← HDe.out.2.1, hk.2] at h; exact h.symm
      clear hk hde
      go_wp2
      go_ret
      exact ⟨rfl, BW1.out⟩
    case pos =>
      subst hde
      have hck : chk l = 0 := by
        have h1 := HDe.out.2.2
        unfold duE at h1
        by_cases h2 : chk l = 0
        · exact h2
        · rw [if_pos h2] at h1; exact absurd h1 h2
      have hnow : 0 ≤ now ∧ now ≤ 2147483647 := by
        have h1 := HDe.out.2.2
        unfold duE at h1
        rw [if_neg (by simp [hck])] at h1
        by_cases h2 : 0 ≤ now ∧ now ≤ 2147483647
        · exact h2
        · rw [if_neg h2] at h1; exact absurd h1 (by decide)
      obtain ⟨_, ea, eb⟩ := du_ok hck hnow
      have HA := hid (show da = l.filter (fun t => decide (t.1 ≤ now)) by rw [← HDe.out.1]; exact ea)
      have HB := hid (show db = l.filter (fun t => decide (t.1 > now)) by rw [← HDe.out.2.1]; exact eb)
      have HK := hid (And.intro hck (chk_zero hck).2)
      have HN := hid hnow
      have HM := hid (show n1 + m1 = n by
        have h1 := O_a_1.out.row_len
        have h2 := O_b_1.out.row_len
        have h3 := (chk_zero hck).2.parts now
        rw [← HA.out, ← HB.out] at h3
        have h4 := HL.out
        rw [← h3, List.length_append] at h4
        omega)
      have HPW := hid (show da ++ db = l by rw [HA.out, HB.out]; exact HK.out.2.parts now)
      clear hck hnow ea eb
      have HSa := hid (O_a_1.out.row_len)
      have hnm1 : n1 + 0 ≤ 100000 := by have := HM.out; omega
      have hnm2 : Hid (da.length + m1 ≤ 100000) := hid (by have := HM.out; have := HSa.out; omega)
      go_wp2_with (first
        | (at_builtin; refine list_own rfl _ _ rfl rfl rfl O_a_1.out.ds (Nat.le_refl _) hnm1 ?_; intro A2 n2 c2 w2 H2
           have O_b_2 := hid (O_b_1.out.below H2.out.2)
           have N2 := hid H2.out.2.size)
        | (at_builtin; refine list_two rfl _ _ rfl rfl rfl H2.out.1 O_b_2.out.ds hnm2.out N2.out ?_; intro A3 n3 c3 z3 H3)
        | fail)
      have b23 : Hid (Below w1.heap.size w1 z3) := hid (H2.out.2.trans H3.out.2)
      have O_s := hid H3.out.1
      clear O_b_2 N2
      have HS2 := hid (show w1.heap.size ≤ z3.heap.size from b23.out.size)
      have BW2 := hid (BW1.out.trans (b23.out.mono BW1.out.size))
      have O_a_2 := hid (O_a_1.out.below b23.out)
      have O_b_2 := hid (O_b_1.out.below b23.out)
      clear BW1 O_a_1 O_b_1
      have O_s_2 := hid (O_s.out)
      have I_s : Hid (∀ b, (Value.slice A3 n3 c3).ownBlock = some b → w1.heap.size ≤ b ∧ b < z3.heap.size) := hid (own_lt O_s_2.out)
      have C4 := rsame_any O_s_2.out.ds (HD.out.below BW2.out) (Nat.le_refl _) BW2.out.size
      rw [decide_eq_true HPW.out] at C4
      unfold Tel at C4
      refine C4.mono ?_
      rintro e z4 ⟨rfl, b4⟩
      have HS3 := hid (show z3.heap.size ≤ z4.heap.size from b4.out.size)
      have BW3 := hid (BW2.out.trans (b4.out.mono BW2.out.size))
      have O_a_3 := hid (O_a_2.out.below b4.out)
      have O_b_3 := hid (O_b_2.out.below b4.out)
      have O_s_3 := hid (O_s_2.out.below b4.out)
      clear BW2 O_a_2 O_b_2 O_s_2
      clear C4 b4 b23 H2 H3 O_s O_s_3
      rcases Nat.eq_zero_or_pos n1 with hna | hna
      · subst hna
        rcases Nat.eq_zero_or_pos m1 with hnb | hnb
        · subst hnb
          obtain ⟨fe, hfe⟩ : ∃ x, x = duE l later := ⟨_, rfl⟩
          obtain ⟨dp, hdp⟩ : ∃ x, x = duA l later := ⟨_, rfl⟩
          obtain ⟨dq, hdq⟩ : ∃ x, x = duB l later := ⟨_, rfl⟩
          obtain ⟨dc, hdc⟩ : ∃ x, x = duA db later := ⟨_, rfl⟩
          obtain ⟨dd, hdd⟩ : ∃ x, x = duB db later := ⟨_, rfl⟩
          have hcb : chk db = 0 := by rw [HB.out]; exact chk_over HK.out.1 now
          have hfe2 : duE db later = fe := by rw [hfe]; unfold duE; rw [hcb, HK.out.1]
          have HE1 := hid (And.intro hdc.symm (And.intro hdd.symm hfe2))
          have HE2 := hid (And.intro hdp.symm (And.intro hdq.symm hfe.symm))
          have HCB := hid hcb
          clear hfe hdp hdq hdc hdd hcb hfe2
          have C4 := (by have h := pdue_any later O_b_3.out.ds (Nat.le_refl _); rw [HE1.out.1, HE1.out.2.1, HE1.out.2.2] at h; exact h : Calls _ _ _ _ (TwoE z4 dc dd fe))
          unfold TwoE at C4
          go_wp2_with fail
          refine C4.mono ?_
          rintro e w4 ⟨v4, u4, rfl, H4⟩
          obtain ⟨A4, n4, c4, rfl, _, _⟩ := od_letter H4.out.1
          obtain ⟨D4, m4, d4, rfl, _, _⟩ := od_letter H4.out.2.1
          have b4 := hid H4.out.2.2.2
          have F4 := hid H4.out.2.2.1
          have HS4 := hid (show z4.heap.size ≤ w4.heap.size from b4.out.size)
          have BW4 := hid (BW3.out.trans (b4.out.mono BW3.out.size))
          have O_a_4 := hid (O_a_3.out.below b4.out)
          have O_b_4 := hid (O_b_3.out.below b4.out)
          clear BW3 O_a_3 O_b_3
          have O_c_4 := hid (H4.out.1)
          have I_c : Hid (∀ b, (Value.slice A4 n4 c4).ownBlock = some b → z4.heap.size ≤ b ∧ b < w4.heap.size) := hid (own_lt O_c_4.out)
          have O_d_4 := hid (H4.out.2.1)
          have I_d : Hid (∀ b, (Value.slice D4 m4 d4).ownBlock = some b → z4.heap.size ≤ b ∧ b < w4.heap.size) := hid (own_lt O_d_4.out)
          clear H4 C4 b4
          have C5 := (by have h := pdue_any later (HD.out.below BW4.out) BW4.out.size; rw [HE2.out.1, HE2.out.2.1, HE2.out.2.2] at h; exact h : Calls _ _ _ _ (TwoE w4 dp dq fe))
          unfold TwoE at C5
          go_wp2_with fail
          refine C5.mono ?_
          rintro e w5 ⟨v5, u5, rfl, H5⟩
          obtain ⟨A5, n5, c5, rfl, _, _⟩ := od_letter H5.out.1
          obtain ⟨D5, m5, d5, rfl, _, _⟩ := od_letter H5.out.2.1
          have b5 := hid H5.out.2.2.2
          have F5 := hid H5.out.2.2.1
          have HS5 := hid (show w4.heap.size ≤ w5.heap.size from b5.out.size)
          have BW5 := hid (BW4.out.trans (b5.out.mono BW4.out.size))
          have O_a_5 := hid (O_a_4.out.below b5.out)
          have O_b_5 := hid (O_b_4.out.below b5.out)
          have O_c_5 := hid (O_c_4.out.below b5.out)
          have O_d_5 := hid (O_d_4.out.below b5.out)
          clear BW4 O_a_4 O_b_4 O_c_4 O_d_4
          have O_p_5 := hid (H5.out.1)
          have I_p : Hid (∀ b, (Value.slice A5 n5 c5).ownBlock = some b → w4.heap.size ≤ b ∧ b < w5.heap.size) := hid (own_lt O_p_5.out)
          have O_q_5 := hid (H5.out.2.1)
          have I_q : Hid (∀ b, (Value.slice D5 m5 d5).ownBlock = some b → w4.heap.size ≤ b ∧ b < w5.heap.size) := hid (own_lt O_q_5.out)
          clear H5 C5 b5
          by_cases hf0 : fe = 0
          case neg =>
            have hz : (fe != 0) = true := by simp [hf0]
            obtain rfl : n4 = 0 := by
              have h1 := O_c_5.out.row_len
              rw [← HE1.out.1] at h1
              unfold duA at h1
              rw [HE1.out.2.2, if_neg hf0] at h1
              exact h1.symm
            clear hf0
            go_wp2
            go_ret
            exact ⟨rfl, BW5.out⟩
          case pos =>
            subst hf0
            have hla : 0 ≤ later ∧ later ≤ 2147483647 := by
              have h1 := HE2.out.2.2
              unfold duE at h1
              rw [if_neg (by simp [HK.out.1])] at h1
              by_cases h2 : 0 ≤ later ∧ later ≤ 2147483647
              · exact h2
              · rw [if_neg h2] at h1; exact absurd h1 (by decide)
            obtain ⟨_, ec, ed⟩ := du_ok HCB.out hla
            obtain ⟨_, ep, eq⟩ := du_ok HK.out.1 hla
            have HC2 := hid (show dc = db.filter (fun t => decide (t.1 ≤ later)) by rw [← HE1.out.1]; exact ec)
            have HD2 := hid (show dd = db.filter (fun t => decide (t.1 > later)) by rw [← HE1.out.2.1]; exact ed)
            have HP2 := hid (show dp = l.filter (fun t => decide (t.1 ≤ later)) by rw [← HE2.out.1]; exact ep)
            have HQ2 := hid (show dq = l.filter (fun t => decide (t.1 > later)) by rw [← HE2.out.2.1]; exact eq)
            clear ec ed ep eq hla
            by_cases hln : later < now
            case pos =>
              have HLN := hid hln
              obtain rfl : n4 = 0 := by
                have h1 := O_c_5.out.row_len
                rw [HC2.out, HB.out, none_less HLN.out] at h1
                exact h1.symm
              have CS := hid (rsame_any O_d_5.out.ds O_b_5.out.ds (Nat.le_refl _) (Nat.le_refl _))
              rw [decide_eq_true (show dd = db by rw [HD2.out, HB.out]; exact over_less HLN.out)] at CS
              unfold Tel at CS
              go_wp2_with (first | (go_at_call 21; with_reducible refine CS.out.mono ?_; rintro e w9 ⟨rfl, b9⟩) | fail)
              go_ret
              exact ⟨rfl, BW5.out.trans (b9.out.mono BW5.out.size)⟩
            case neg =>
              have HLN := hid (show now ≤ later by omega)
              have HSc := hid (show da.length + n4 ≤ 100000 by
                have h1 := O_c_5.out.row_len
                have h2 := HM.out
                have h3 := O_b_5.out.row_len
                have h5 := HSa.out
                have h4 := List.length_filter_le (fun t : De => decide (t.1 ≤ later)) db
                rw [HC2.out] at h1
                omega)
              go_wp2_with (first
                | (at_builtin; refine list_ownW (by rfl) _ _ rfl rfl rfl O_a_5.out.ds (Nat.le_refl _) hnm1 ?_; intro A8 n8 c8 w8 H8
                   have O_c_8 := hid (O_c_5.out.below H8.out.2)
                   have N8 := hid H8.out.2.size)
                | (at_builtin; refine list_twoW (by rfl) _ _ rfl rfl rfl H8.out.1 O_c_8.out.ds HSc.out N8.out ?_; intro A9 n9 c9 w9 H9)
                | fail)
              have b89 : Hid (Below w5.heap.size w5 w9) := hid (H8.out.2.trans H9.out.2)
              have BW9 := hid (BW5.out.trans (b89.out.mono BW5.out.size))
              have C10 := rsame_any H9.out.1.ds (O_p_5.out.below b89.out).ds (Nat.le_refl _) (Nat.le_refl _)
              rw [decide_eq_true (show da ++ dc = dp by rw [HA.out, HC2.out, HB.out, HP2.out]; exact HK.out.2.parts2 HLN.out)] at C10
              unfold Tel at C10
              refine C10.mono ?_
              rintro e w10 ⟨rfl, b10⟩
              have C11 := rsame_any ((O_d_5.out.below b89.out).below b10.out).ds ((O_q_5.out.below b89.out).below b10.out).ds (Nat.le_refl _) (Nat.le_refl _)
              rw [decide_eq_true (show dd = dq by rw [HD2.out, HB.out, HQ2.out]; exact over_over HLN.out)] at C11
              unfold Tel at C11
              go_wp2_with fail
              refine C11.mono ?_
              rintro e w11 ⟨rfl, b11⟩
              go_wp2
              go_ret
              exact ⟨rfl, (BW9.out.trans (b10.out.mono BW9.out.size)).trans (b11.out.mono (Nat.le_trans BW9.out.size b10.out.size))⟩
        · have hb0 : (0 : Int) < (m1 : Int) := by omega
          obtain ⟨xb, hxb⟩ : ∃ x, db[0]? = some x := ⟨_, List.getElem?_eq_getElem (by have := O_b_3.out.row_len; omega)⟩
          have hxg : ¬ xb.1 ≤ now := by
            have h1 := List.mem_of_getElem? hxb
            rw [HB.out, List.mem_filter] at h1
            have h2 := of_decide_eq_true h1.2
            omega
          obtain ⟨bb, ob, rfl, _, hcb⟩ := O_b_3.out.ds.at_ (by omega)
          obtain ⟨cb1, cb2⟩ := hcb 0 xb hxb
          rw [Nat.zero_mul, Nat.add_zero] at cb1 cb2
          clear hcb hxb
          obtain ⟨fe, hfe⟩ : ∃ x, x = duE l later := ⟨_, rfl⟩
          obtain ⟨dp, hdp⟩ : ∃ x, x = duA l later := ⟨_, rfl⟩
          obtain ⟨dq, hdq⟩ : ∃ x, x = duB l later := ⟨_, rfl⟩
          obtain ⟨dc, hdc⟩ : ∃ x, x = duA db later := ⟨_, rfl⟩
          obtain ⟨dd, hdd⟩ : ∃ x, x = duB db later := ⟨_, rfl⟩
          have hcb : chk db = 0 := by rw [HB.out]; exact chk_over HK.out.1 now
          have hfe2 : duE db later = fe := by rw [hfe]; unfold duE; rw [hcb, HK.out.1]
          have HE1 := hid (And.intro hdc.symm (And.intro hdd.symm hfe2))
          have HE2 := hid (And.intro hdp.symm (And.intro hdq.symm hfe.symm))
          have HCB := hid hcb
          clear hfe hdp hdq hdc hdd hcb hfe2
          have C4 := (by have h := pdue_any later O_b_3.out.ds (Nat.le_refl _); rw [HE1.out.1, HE1.out.2.1, HE1.out.2.2] at h; exact h : Calls _ _ _ _ (TwoE z4 dc dd fe))
          unfold TwoE at C4
          go_wp2_with fail
          refine C4.mono ?_
          rintro e w4 ⟨v4, u4, rfl, H4⟩
          obtain ⟨A4, n4, c4, rfl, _, _⟩ := od_letter H4.out.1
          obtain ⟨D4, m4, d4, rfl, _, _⟩ := od_letter H4.out.2.1
          have b4 := hid H4.out.2.2.2
          have F4 := hid H4.out.2.2.1
          have HS4 := hid (show z4.heap.size ≤ w4.heap.size from b4.out.size)
          have BW4 := hid (BW3.out.trans (b4.out.mono BW3.out.size))
          have O_a_4 := hid (O_a_3.out.below b4.out)
          have O_b_4 := hid (O_b_3.out.below b4.out)
          clear BW3 O_a_3 O_b_3
          have O_c_4 := hid (H4.out.1)
          have I_c : Hid (∀ b, (Value.slice A4 n4 c4).ownBlock = some b → z4.heap.size ≤ b ∧ b < w4.heap.size) := hid (own_lt O_c_4.out)
          have O_d_4 := hid (H4.out.2.1)
          have I_d : Hid (∀ b, (Value.slice D4 m4 d4).ownBlock = some b → z4.heap.size ≤ b ∧ b < w4.heap.size) := hid (own_lt O_d_4.out)
          clear H4 C4 b4
          have C5 := (by have h := pdue_any later (HD.out.below BW4.out) BW4.out.size; rw [HE2.out.1, HE2.out.2.1, HE2.out.2.2] at h; exact h : Calls _ _ _ _ (TwoE w4 dp dq fe))
          unfold TwoE at C5
          go_wp2_with fail
          refine C5.mono ?_
          rintro e w5 ⟨v5, u5, rfl, H5⟩
          obtain ⟨A5, n5, c5, rfl, _, _⟩ := od_letter H5.out.1
          obtain ⟨D5, m5, d5, rfl, _, _⟩ := od_letter H5.out.2.1
          have b5 := hid H5.out.2.2.2
          have F5 := hid H5.out.2.2.1
          have HS5 := hid (show w4.heap.size ≤ w5.heap.size from b5.out.size)
          have BW5 := hid (BW4.out.trans (b5.out.mono BW4.out.size))
          have O_a_5 := hid (O_a_4.out.below b5.out)
          have O_b_5 := hid (O_b_4.out.below b5.out)
          have O_c_5 := hid (O_c_4.out.below b5.out)
          have O_d_5 := hid (O_d_4.out.below b5.out)
          clear BW4 O_a_4 O_b_4 O_c_4 O_d_4
          have O_p_5 := hid (H5.out.1)
          have I_p : Hid (∀ b, (Value.slice A5 n5 c5).ownBlock = some b → w4.heap.size ≤ b ∧ b < w5.heap.size) := hid (own_lt O_p_5.out)
          have O_q_5 := hid (H5.out.2.1)
          have I_q : Hid (∀ b, (Value.slice D5 m5 d5).ownBlock = some b → w4.heap.size ≤ b ∧ b < w5.heap.size) := hid (own_lt O_q_5.out)
          clear H5 C5 b5
          by_cases hf0 : fe = 0
          case neg =>
            have hz : (fe != 0) = true := by simp [hf0]
            obtain rfl : n4 = 0 := by
              have h1 := O_c_5.out.row_len
              rw [← HE1.out.1] at h1
              unfold duA at h1
              rw [HE1.out.2.2, if_neg hf0] at h1
              exact h1.symm
            clear hf0
            go_wp2
            go_ret
            exact ⟨rfl, BW5.out⟩
          case pos =>
            subst hf0
            have hla : 0 ≤ later ∧ later ≤ 2147483647 := by
              have h1 := HE2.out.2.2
              unfold duE at h1
              rw [if_neg (by simp [HK.out.1])] at h1
              by_cases h2 : 0 ≤ later ∧ later ≤ 2147483647
              · exact h2
              · rw [if_neg h2] at h1; exact absurd h1 (by decide)
            obtain ⟨_, ec, ed⟩ := du_ok HCB.out hla
            obtain ⟨_, ep, eq⟩ := du_ok HK.out.1 hla
            have HC2 := hid (show dc = db.filter (fun t => decide (t.1 ≤ later)) by rw [← HE1.out.1]; exact ec)
            have HD2 := hid (show dd = db.filter (fun t => decide (t.1 > later)) by rw [← HE1.out.2.1]; exact ed)
            have HP2 := hid (show dp = l.filter (fun t => decide (t.1 ≤ later)) by rw [← HE2.out.1]; exact ep)
            have HQ2 := hid (show dq = l.filter (fun t => decide (t.1 > later)) by rw [← HE2.out.2.1]; exact eq)
            clear ec ed ep eq hla
            by_cases hln : later < now
            case pos =>
              have HLN := hid hln
              obtain rfl : n4 = 0 := by
                have h1 := O_c_5.out.row_len
                rw [HC2.out, HB.out, none_less HLN.out] at h1
                exact h1.symm
              have CS := hid (rsame_any O_d_5.out.ds O_b_5.out.ds (Nat.le_refl _) (Nat.le_refl _))
              rw [decide_eq_true (show dd = db by rw [HD2.out, HB.out]; exact over_less HLN.out)] at CS
              unfold Tel at CS
              go_wp2_with (first | (go_at_call 21; with_reducible refine CS.out.mono ?_; rintro e w9 ⟨rfl, b9⟩) | fail)
              go_ret
              exact ⟨rfl, BW5.out.trans (b9.out.mono BW5.out.size)⟩
            case neg =>
              have HLN := hid (show now ≤ later by omega)
              have HSc := hid (show da.length + n4 ≤ 100000 by
                have h1 := O_c_5.out.row_len
                have h2 := HM.out
                have h3 := O_b_5.out.row_len
                have h5 := HSa.out
                have h4 := List.length_filter_le (fun t : De => decide (t.1 ≤ later)) db
                rw [HC2.out] at h1
                omega)
              go_wp2_with (first
                | (at_builtin; refine list_ownW (by rfl) _ _ rfl rfl rfl O_a_5.out.ds (Nat.le_refl _) hnm1 ?_; intro A8 n8 c8 w8 H8
                   have O_c_8 := hid (O_c_5.out.below H8.out.2)
                   have N8 := hid H8.out.2.size)
                | (at_builtin; refine list_twoW (by rfl) _ _ rfl rfl rfl H8.out.1 O_c_8.out.ds HSc.out N8.out ?_; intro A9 n9 c9 w9 H9)
                | fail)
              have b89 : Hid (Below w5.heap.size w5 w9) := hid (H8.out.2.trans H9.out.2)
              have BW9 := hid (BW5.out.trans (b89.out.mono BW5.out.size))
              have C10 := rsame_any H9.out.1.ds (O_p_5.out.below b89.out).ds (Nat.le_refl _) (Nat.le_refl _)
              rw [decide_eq_true (show da ++ dc = dp by rw [HA.out, HC2.out, HB.out, HP2.out]; exact HK.out.2.parts2 HLN.out)] at C10
              unfold Tel at C10
              refine C10.mono ?_
              rintro e w10 ⟨rfl, b10⟩
              have C11 := rsame_any ((O_d_5.out.below b89.out).below b10.out).ds ((O_q_5.out.below b89.out).below b10.out).ds (Nat.le_refl _) (Nat.le_refl _)
              rw [decide_eq_true (show dd = dq by rw [HD2.out, HB.out, HQ2.out]; exact over_over HLN.out)] at C11
              unfold Tel at C11
              go_wp2_with fail
              refine C11.mono ?_
              rintro e w11 ⟨rfl, b11⟩
              go_wp2
              go_ret
              exact ⟨rfl, (BW9.out.trans (b10.out.mono BW9.out.size)).trans (b11.out.mono (Nat.le_trans BW9.out.size b10.out.size))⟩
      · obtain ⟨ma, rfl⟩ : ∃ m, n1 = m + 1 := ⟨n1 - 1, by omega⟩
        have ha0 : (0 : Int) < (ma : Int) + 1 := by omega
        obtain ⟨xa, hxa⟩ : ∃ x, da[ma]? = some x := ⟨_, List.getElem?_eq_getElem (by have := HSa.out; omega)⟩
        have hxl : ¬ xa.1 > now := by
          have h1 := List.mem_of_getElem? hxa
          rw [HA.out, List.mem_filter] at h1
          have h2 := of_decide_eq_true h1.2
          omega
        obtain ⟨ba, oa, rfl, _, hca⟩ := O_a_3.out.ds.at_ (by omega)
        obtain ⟨ca1, ca2⟩ := hca ma xa hxa
        have hwa : IntKind.i64.wrap (ma : Int) = (ma : Int) := by rw [IntKind.wrap_i64]; have := HM.out; omega
        clear hca hxa
        rcases Nat.eq_zero_or_pos m1 with hnb | hnb
        · subst hnb
          obtain ⟨fe, hfe⟩ : ∃ x, x = duE l later := ⟨_, rfl⟩
          obtain ⟨dp, hdp⟩ : ∃ x, x = duA l later := ⟨_, rfl⟩
          obtain ⟨dq, hdq⟩ : ∃ x, x = duB l later := ⟨_, rfl⟩
          obtain ⟨dc, hdc⟩ : ∃ x, x = duA db later := ⟨_, rfl⟩
          obtain ⟨dd, hdd⟩ : ∃ x, x = duB db later := ⟨_, rfl⟩
          have hcb : chk db = 0 := by rw [HB.out]; exact chk_over HK.out.1 now
          have hfe2 : duE db later = fe := by rw [hfe]; unfold duE; rw [hcb, HK.out.1]
          have HE1 := hid (And.intro hdc.symm (And.intro hdd.symm hfe2))
          have HE2 := hid (And.intro hdp.symm (And.intro hdq.symm hfe.symm))
          have HCB := hid hcb
          clear hfe hdp hdq hdc hdd hcb hfe2
          have C4 := (by have h := pdue_any later O_b_3.out.ds (Nat.le_refl _); rw [HE1.out.1, HE1.out.2.1, HE1.out.2.2] at h; exact h : Calls _ _ _ _ (TwoE z4 dc dd fe))
          unfold TwoE at C4
          go_wp2_with fail
          refine C4.mono ?_
          rintro e w4 ⟨v4, u4, rfl, H4⟩
          obtain ⟨A4, n4, c4, rfl, _, _⟩ := od_letter H4.out.1
          obtain ⟨D4, m4, d4, rfl, _, _⟩ := od_letter H4.out.2.1
          have b4 := hid H4.out.2.2.2
          have F4 := hid H4.out.2.2.1
          have HS4 := hid (show z4.heap.size ≤ w4.heap.size from b4.out.size)
          have BW4 := hid (BW3.out.trans (b4.out.mono BW3.out.size))
          have O_a_4 := hid (O_a_3.out.below b4.out)
          have O_b_4 := hid (O_b_3.out.below b4.out)
          clear BW3 O_a_3 O_b_3
          have O_c_4 := hid (H4.out.1)
          have I_c : Hid (∀ b, (Value.slice A4 n4 c4).ownBlock = some b → z4.heap.size ≤ b ∧ b < w4.heap.size) := hid (own_lt O_c_4.out)
          have O_d_4 := hid (H4.out.2.1)
          have I_d : Hid (∀ b, (Value.slice D4 m4 d4).ownBlock = some b → z4.heap.size ≤ b ∧ b < w4.heap.size) := hid (own_lt O_d_4.out)
          clear H4 C4 b4
          have C5 := (by have h := pdue_any later (HD.out.below BW4.out) BW4.out.size; rw [HE2.out.1, HE2.out.2.1, HE2.out.2.2] at h; exact h : Calls _ _ _ _ (TwoE w4 dp dq fe))
          unfold TwoE at C5
          go_wp2_with fail
          refine C5.mono ?_
          rintro e w5 ⟨v5, u5, rfl, H5⟩
          obtain ⟨A5, n5, c5, rfl, _, _⟩ := od_letter H5.out.1
          obtain ⟨D5, m5, d5, rfl, _, _⟩ := od_letter H5.out.2.1
          have b5 := hid H5.out.2.2.2
          have F5 := hid H5.out.2.2.1
          have HS5 := hid (show w4.heap.size ≤ w5.heap.size from b5.out.size)
          have BW5 := hid (BW4.out.trans (b5.out.mono BW4.out.size))
          have O_a_5 := hid (O_a_4.out.below b5.out)
          have O_b_5 := hid (O_b_4.out.below b5.out)
          have O_c_5 := hid (O_c_4.out.below b5.out)
          have O_d_5 := hid (O_d_4.out.below b5.out)
          clear BW4 O_a_4 O_b_4 O_c_4 O_d_4
          have O_p_5 := hid (H5.out.1)
          have I_p : Hid (∀ b, (Value.slice A5 n5 c5).ownBlock = some b → w4.heap.size ≤ b ∧ b < w5.heap.size) := hid (own_lt O_p_5.out)
          have O_q_5 := hid (H5.out.2.1)
          have I_q : Hid (∀ b, (Value.slice D5 m5 d5).ownBlock = some b → w4.heap.size ≤ b ∧ b < w5.heap.size) := hid (own_lt O_q_5.out)
          clear H5 C5 b5
          by_cases hf0 : fe = 0
          case neg =>
            have hz : (fe != 0) = true := by simp [hf0]
            obtain rfl : n4 = 0 := by
              have h1 := O_c_5.out.row_len
              rw [← HE1.out.1] at h1
              unfold duA at h1
              rw [HE1.out.2.2, if_neg hf0] at h1
              exact h1.symm
            clear hf0
            go_wp2
            go_ret
            exact ⟨rfl, BW5.out⟩
          case pos =>
            subst hf0
            have hla : 0 ≤ later ∧ later ≤ 2147483647 := by
              have h1 := HE2.out.2.2
              unfold duE at h1
              rw [if_neg (by simp [HK.out.1])] at h1
              by_cases h2 : 0 ≤ later ∧ later ≤ 2147483647
              · exact h2
              · rw [if_neg h2] at h1; exact absurd h1 (by decide)
            obtain ⟨_, ec, ed⟩ := du_ok HCB.out hla
            obtain ⟨_, ep, eq⟩ := du_ok HK.out.1 hla
            have HC2 := hid (show dc = db.filter (fun t => decide (t.1 ≤ later)) by rw [← HE1.out.1]; exact ec)
            have HD2 := hid (show dd = db.filter (fun t => decide (t.1 > later)) by rw [← HE1.out.2.1]; exact ed)
            have HP2 := hid (show dp = l.filter (fun t => decide (t.1 ≤ later)) by rw [← HE2.out.1]; exact ep)
            have HQ2 := hid (show dq = l.filter (fun t => decide (t.1 > later)) by rw [← HE2.out.2.1]; exact eq)
            clear ec ed ep eq hla
            by_cases hln : later < now
            case pos =>
              have HLN := hid hln
              obtain rfl : n4 = 0 := by
                have h1 := O_c_5.out.row_len
                rw [HC2.out, HB.out, none_less HLN.out] at h1
                exact h1.symm
              have CS := hid (rsame_any O_d_5.out.ds O_b_5.out.ds (Nat.le_refl _) (Nat.le_refl _))
              rw [decide_eq_true (show dd = db by rw [HD2.out, HB.out]; exact over_less HLN.out)] at CS
              unfold Tel at CS
              go_wp2_with (first | (go_at_call 21; with_reducible refine CS.out.mono ?_; rintro e w9 ⟨rfl, b9⟩) | fail)
              go_ret
              exact ⟨rfl, BW5.out.trans (b9.out.mono BW5.out.size)⟩
            case neg =>
              have HLN := hid (show now ≤ later by omega)
              have HSc := hid (show da.length + n4 ≤ 100000 by
                have h1 := O_c_5.out.row_len
                have h2 := HM.out
                have h3 := O_b_5.out.row_len
                have h5 := HSa.out
                have h4 := List.length_filter_le (fun t : De => decide (t.1 ≤ later)) db
                rw [HC2.out] at h1
                omega)
              go_wp2_with (first
                | (at_builtin; refine list_ownW (by rfl) _ _ rfl rfl rfl O_a_5.out.ds (Nat.le_refl _) hnm1 ?_; intro A8 n8 c8 w8 H8
                   have O_c_8 := hid (O_c_5.out.below H8.out.2)
                   have N8 := hid H8.out.2.size)
                | (at_builtin; refine list_twoW (by rfl) _ _ rfl rfl rfl H8.out.1 O_c_8.out.ds HSc.out N8.out ?_; intro A9 n9 c9 w9 H9)
                | fail)
              have b89 : Hid (Below w5.heap.size w5 w9) := hid (H8.out.2.trans H9.out.2)
              have BW9 := hid (BW5.out.trans (b89.out.mono BW5.out.size))
              have C10 := rsame_any H9.out.1.ds (O_p_5.out.below b89.out).ds (Nat.le_refl _) (Nat.le_refl _)
              rw [decide_eq_true (show da ++ dc = dp by rw [HA.out, HC2.out, HB.out, HP2.out]; exact HK.out.2.parts2 HLN.out)] at C10
              unfold Tel at C10
              refine C10.mono ?_
              rintro e w10 ⟨rfl, b10⟩
              have C11 := rsame_any ((O_d_5.out.below b89.out).below b10.out).ds ((O_q_5.out.below b89.out).below b10.out).ds (Nat.le_refl _) (Nat.le_refl _)
              rw [decide_eq_true (show dd = dq by rw [HD2.out, HB.out, HQ2.out]; exact over_over HLN.out)] at C11
              unfold Tel at C11
              go_wp2_with fail
              refine C11.mono ?_
              rintro e w11 ⟨rfl, b11⟩
              go_wp2
              go_ret
              exact ⟨rfl, (BW9.out.trans (b10.out.mono BW9.out.size)).trans (b11.out.mono (Nat.le_trans BW9.out.size b10.out.size))⟩
        · have hb0 : (0 : Int) < (m1 : Int) := by omega
          obtain ⟨xb, hxb⟩ : ∃ x, db[0]? = some x := ⟨_, List.getElem?_eq_getElem (by have := O_b_3.out.row_len; omega)⟩
          have hxg : ¬ xb.1 ≤ now := by
            have h1 := List.mem_of_getElem? hxb
            rw [HB.out, List.mem_filter] at h1
            have h2 := of_decide_eq_true h1.2
            omega
          obtain ⟨bb, ob, rfl, _, hcb⟩ := O_b_3.out.ds.at_ (by omega)
          obtain ⟨cb1, cb2⟩ := hcb 0 xb hxb
          rw [Nat.zero_mul, Nat.add_zero] at cb1 cb2
          clear hcb hxb
          obtain ⟨fe, hfe⟩ : ∃ x, x = duE l later := ⟨_, rfl⟩
          obtain ⟨dp, hdp⟩ : ∃ x, x = duA l later := ⟨_, rfl⟩
          obtain ⟨dq, hdq⟩ : ∃ x, x = duB l later := ⟨_, rfl⟩
          obtain ⟨dc, hdc⟩ : ∃ x, x = duA db later := ⟨_, rfl⟩
          obtain ⟨dd, hdd⟩ : ∃ x, x = duB db later := ⟨_, rfl⟩
          have hcb : chk db = 0 := by rw [HB.out]; exact chk_over HK.out.1 now
          have hfe2 : duE db later = fe := by rw [hfe]; unfold duE; rw [hcb, HK.out.1]
          have HE1 := hid (And.intro hdc.symm (And.intro hdd.symm hfe2))
          have HE2 := hid (And.intro hdp.symm (And.intro hdq.symm hfe.symm))
          have HCB := hid hcb
          clear hfe hdp hdq hdc hdd hcb hfe2
          have C4 := (by have h := pdue_any later O_b_3.out.ds (Nat.le_refl _); rw [HE1.out.1, HE1.out.2.1, HE1.out.2.2] at h; exact h : Calls _ _ _ _ (TwoE z4 dc dd fe))
          unfold TwoE at C4
          go_wp2_with fail
          refine C4.mono ?_
          rintro e w4 ⟨v4, u4, rfl, H4⟩
          obtain ⟨A4, n4, c4, rfl, _, _⟩ := od_letter H4.out.1
          obtain ⟨D4, m4, d4, rfl, _, _⟩ := od_letter H4.out.2.1
          have b4 := hid H4.out.2.2.2
          have F4 := hid H4.out.2.2.1
          have HS4 := hid (show z4.heap.size ≤ w4.heap.size from b4.out.size)
          have BW4 := hid (BW3.out.trans (b4.out.mono BW3.out.size))
          have O_a_4 := hid (O_a_3.out.below b4.out)
          have O_b_4 := hid (O_b_3.out.below b4.out)
          clear BW3 O_a_3 O_b_3
          have O_c_4 := hid (H4.out.1)
          have I_c : Hid (∀ b, (Value.slice A4 n4 c4).ownBlock = some b → z4.heap.size ≤ b ∧ b < w4.heap.size) := hid (own_lt O_c_4.out)
          have O_d_4 := hid (H4.out.2.1)
          have I_d : Hid (∀ b, (Value.slice D4 m4 d4).ownBlock = some b → z4.heap.size ≤ b ∧ b < w4.heap.size) := hid (own_lt O_d_4.out)
          clear H4 C4 b4
          have C5 := (by have h := pdue_any later (HD.out.below BW4.out) BW4.out.size; rw [HE2.out.1, HE2.out.2.1, HE2.out.2.2] at h; exact h : Calls _ _ _ _ (TwoE w4 dp dq fe))
          unfold TwoE at C5
          go_wp2_with fail
          refine C5.mono ?_
          rintro e w5 ⟨v5, u5, rfl, H5⟩
          obtain ⟨A5, n5, c5, rfl, _, _⟩ := od_letter H5.out.1
          obtain ⟨D5, m5, d5, rfl, _, _⟩ := od_letter H5.out.2.1
          have b5 := hid H5.out.2.2.2
          have F5 := hid H5.out.2.2.1
          have HS5 := hid (show w4.heap.size ≤ w5.heap.size from b5.out.size)
          have BW5 := hid (BW4.out.trans (b5.out.mono BW4.out.size))
          have O_a_5 := hid (O_a_4.out.below b5.out)
          have O_b_5 := hid (O_b_4.out.below b5.out)
          have O_c_5 := hid (O_c_4.out.below b5.out)
          have O_d_5 := hid (O_d_4.out.below b5.out)
          clear BW4 O_a_4 O_b_4 O_c_4 O_d_4
          have O_p_5 := hid (H5.out.1)
          have I_p : Hid (∀ b, (Value.slice A5 n5 c5).ownBlock = some b → w4.heap.size ≤ b ∧ b < w5.heap.size) := hid (own_lt O_p_5.out)
          have O_q_5 := hid (H5.out.2.1)
          have I_q : Hid (∀ b, (Value.slice D5 m5 d5).ownBlock = some b → w4.heap.size ≤ b ∧ b < w5.heap.size) := hid (own_lt O_q_5.out)
          clear H5 C5 b5
          by_cases hf0 : fe = 0
          case neg =>
            have hz : (fe != 0) = true := by simp [hf0]
            obtain rfl : n4 = 0 := by
              have h1 := O_c_5.out.row_len
              rw [← HE1.out.1] at h1
              unfold duA at h1
              rw [HE1.out.2.2, if_neg hf0] at h1
              exact h1.symm
            clear hf0
            go_wp2
            go_ret
            exact ⟨rfl, BW5.out⟩
          case pos =>
            subst hf0
            have hla : 0 ≤ later ∧ later ≤ 2147483647 := by
              have h1 := HE2.out.2.2
              unfold duE at h1
              rw [if_neg (by simp [HK.out.1])] at h1
              by_cases h2 : 0 ≤ later ∧ later ≤ 2147483647
              · exact h2
              · rw [if_neg h2] at h1; exact absurd h1 (by decide)
            obtain ⟨_, ec, ed⟩ := du_ok HCB.out hla
            obtain ⟨_, ep, eq⟩ := du_ok HK.out.1 hla
            have HC2 := hid (show dc = db.filter (fun t => decide (t.1 ≤ later)) by rw [← HE1.out.1]; exact ec)
            have HD2 := hid (show dd = db.filter (fun t => decide (t.1 > later)) by rw [← HE1.out.2.1]; exact ed)
            have HP2 := hid (show dp = l.filter (fun t => decide (t.1 ≤ later)) by rw [← HE2.out.1]; exact ep)
            have HQ2 := hid (show dq = l.filter (fun t => decide (t.1 > later)) by rw [← HE2.out.2.1]; exact eq)
            clear ec ed ep eq hla
            by_cases hln : later < now
            case pos =>
              have HLN := hid hln
              obtain rfl : n4 = 0 := by
                have h1 := O_c_5.out.row_len
                rw [HC2.out, HB.out, none_less HLN.out] at h1
                exact h1.symm
              have CS := hid (rsame_any O_d_5.out.ds O_b_5.out.ds (Nat.le_refl _) (Nat.le_refl _))
              rw [decide_eq_true (show dd = db by rw [HD2.out, HB.out]; exact over_less HLN.out)] at CS
              unfold Tel at CS
              go_wp2_with (first | (go_at_call 21; with_reducible refine CS.out.mono ?_; rintro e w9 ⟨rfl, b9⟩) | fail)
              go_ret
              exact ⟨rfl, BW5.out.trans (b9.out.mono BW5.out.size)⟩
            case neg =>
              have HLN := hid (show now ≤ later by omega)
              have HSc := hid (show da.length + n4 ≤ 100000 by
                have h1 := O_c_5.out.row_len
                have h2 := HM.out
                have h3 := O_b_5.out.row_len
                have h5 := HSa.out
                have h4 := List.length_filter_le (fun t : De => decide (t.1 ≤ later)) db
                rw [HC2.out] at h1
                omega)
              go_wp2_with (first
                | (at_builtin; refine list_ownW (by rfl) _ _ rfl rfl rfl O_a_5.out.ds (Nat.le_refl _) hnm1 ?_; intro A8 n8 c8 w8 H8
                   have O_c_8 := hid (O_c_5.out.below H8.out.2)
                   have N8 := hid H8.out.2.size)
                | (at_builtin; refine list_twoW (by rfl) _ _ rfl rfl rfl H8.out.1 O_c_8.out.ds HSc.out N8.out ?_; intro A9 n9 c9 w9 H9)
                | fail)
              have b89 : Hid (Below w5.heap.size w5 w9) := hid (H8.out.2.trans H9.out.2)
              have BW9 := hid (BW5.out.trans (b89.out.mono BW5.out.size))
              have C10 := rsame_any H9.out.1.ds (O_p_5.out.below b89.out).ds (Nat.le_refl _) (Nat.le_refl _)
              rw [decide_eq_true (show da ++ dc = dp by rw [HA.out, HC2.out, HB.out, HP2.out]; exact HK.out.2.parts2 HLN.out)] at C10
              unfold Tel at C10
              refine C10.mono ?_
              rintro e w10 ⟨rfl, b10⟩
              have C11 := rsame_any ((O_d_5.out.below b89.out).below b10.out).ds ((O_q_5.out.below b89.out).below b10.out).ds (Nat.le_refl _) (Nat.le_refl _)
              rw [decide_eq_true (show dd = dq by rw [HD2.out, HB.out, HQ2.out]; exact over_over HLN.out)] at C11
              unfold Tel at C11
              go_wp2_with fail
              refine C11.mono ?_
              rintro e w11 ⟨rfl, b11⟩
              go_wp2
              go_ret
              exact ⟨rfl, (BW9.out.trans (b10.out.mono BW9.out.size)).trans (b11.out.mono (Nat.le_trans BW9.out.size b10.out.size))⟩
end Go.Proofs.Ytgcmljnjfghagaa.Tm
