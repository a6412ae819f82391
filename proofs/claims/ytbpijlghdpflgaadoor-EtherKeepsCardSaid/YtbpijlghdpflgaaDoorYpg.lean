/- Ether, the program: mayTurn, Spoil. -/
import Derived.Test.YtbpijlghdpflgaaDoorYtv
namespace Go.Proofs.YtbpijlghdpflgaaDoor.Eth
open Go.RowKit Go.Shelf Go.Lib

theorem fits_size {n m L : Nat} {a : Int} (hm : m < 4294967296) (h0 : m ≠ 0) (hL : Size m L) : fits n a m ↔ (0 ≤ a ∧ a ≤ 8 * (n : Int) - (L : Int)) := by
  have hLp : 0 < L := by
    rcases Nat.eq_zero_or_pos L with h | h
    · subst h
      have := hL.1
      simp at this
      exact absurd this h0
    · exact h
  have htop : one m (L - 1) := by
    rw [one_iff, Nat.testBit_eq_decide_div_mod_eq, decide_eq_true_eq]
    have h1 := hL.1
    have h2 := hL.2 hLp
    obtain ⟨q, rfl⟩ : ∃ q, L = q + 1 := ⟨L - 1, by omega⟩
    rw [Nat.add_sub_cancel] at h2 ⊢
    rw [Nat.pow_succ] at h1
    have h3 : m / 2 ^ q = 1 := by
      have hp := Nat.two_pow_pos q
      have h4 : 1 ≤ m / 2 ^ q := (Nat.le_div_iff_mul_le hp).2 (by omega)
      have h5 : m / 2 ^ q < 2 := (Nat.div_lt_iff_lt_mul hp).2 (by omega)
      omega
    rw [h3]
  have hL32 : L ≤ 32 := by
    rcases Nat.lt_or_ge 32 L with h | h
    · have h2 := hL.2 hLp
      have h3 : 2 ^ 32 ≤ 2 ^ (L - 1) := Nat.pow_le_pow_right (by omega) (by omega)
      omega
    · exact h
  constructor
  · rintro ⟨⟨h1, h2⟩, h3, h4⟩
    have := h4 (L - 1) (by omega) htop
    omega
  · rintro ⟨h1, h2⟩
    refine ⟨⟨h1, by omega⟩, h0, fun k hk ho => ?_⟩
    have hkL : k < L := by
      rcases Nat.lt_or_ge k L with h | h
      · exact h
      · have h3 : 2 ^ L ≤ 2 ^ k := Nat.pow_le_pow_right (by omega) h
        have h5 := hL.1
        rw [one_iff, Nat.testBit_lt_two_pow (by omega)] at ho
        cases ho
    omega

set_option maxHeartbeats 1600000 in
set_option maxRecDepth 100000 in
theorem mayTurn_any {w : World} {n c : Nat} {A : Option Addr} {a : Int} {m : Nat} (hn : n ≤ 50000) (hm : m < 4294967296) :
    Calls Tryd.prog 24 #[.slice A n c, .int .i64 a, .int .u32 (m : Int)] w fun e w' => e = .returned (.bool (decide (fits n a m))) ∧ w' = w := by
  by_cases h0 : m = 0
  · subst h0
    rw [decide_eq_false (show ¬ fits n a 0 from fun h => h.2.1 rfl)]
    go_enter Tryd.func24, Tryd.ntmps24
    go_wp2
    go_ret
    exact ⟨rfl, rfl⟩
  have hS := size_bitLen 32 m hm (by omega)
  have hF := fits_size (n := n) (a := a) hm h0 hS
  have hL32 : Lib.bitLen m ≤ 32 := by
    rcases Nat.lt_or_ge 32 (Lib.bitLen m) with h | h
    · have h2 := hS.2 (by omega)
      have h3 : 2 ^ 32 ≤ 2 ^ (Lib.bitLen m - 1) := Nat.pow_le_pow_right (by omega) (by omega)
      omega
    · exact h
  have CL := hid (fun X => len32_any m X hm)
  rw [show decide (fits n a m) = decide (0 ≤ a ∧ a ≤ 8 * (n : Int) - (Lib.bitLen m : Int)) from by by_cases h : fits n a m <;> simp only [h, hF.1, decide_true, decide_false] <;> first | rfl | (rw [decide_eq_true (hF.1 h)]) | (rw [decide_eq_false (fun q => h (hF.2 q))])]
  generalize Lib.bitLen m = L at *
  have hm0 : ((m : Int) != 0) = true := by rw [bne_iff_ne]; omega
  have hm1 : ((m : Int) == 0) = false := by rw [beq_eq_false_iff_ne]; omega
  clear hS hF
  by_cases ha0 : a ≥ 0
  case neg =>
    rw [decide_eq_false (show ¬ (0 ≤ a ∧ a ≤ 8 * (n : Int) - (L : Int)) from fun h => ha0 h.1)]
    go_enter Tryd.func24, Tryd.ntmps24
    go_wp2
    go_ret
    exact ⟨rfl, rfl⟩
  have hw1 : IntKind.i64.wrap (8 * (n : Int)) = 8 * (n : Int) := by rw [IntKind.wrap_i64]; omega
  have hw2 : IntKind.i64.wrap (8 * (n : Int) - (L : Int)) = 8 * (n : Int) - (L : Int) := by rw [IntKind.wrap_i64]; omega
  by_cases ha1 : a ≤ 8 * (n : Int) - (L : Int)
  · rw [decide_eq_true (show (0 ≤ a ∧ a ≤ 8 * (n : Int) - (L : Int)) from ⟨ha0, ha1⟩)]
    go_enter Tryd.func24, Tryd.ntmps24
    go_wp2_with (first
      | (go_at_call 37
         refine (CL.out _).mono ?_
         rintro e w1 ⟨rfl, rfl⟩)
      | fail)
    go_ret
    exact ⟨rfl, rfl⟩
  · rw [decide_eq_false (show ¬ (0 ≤ a ∧ a ≤ 8 * (n : Int) - (L : Int)) from fun h => ha1 h.2)]
    have hdz : decide (a ≤ 8 * (n : Int) - (L : Int)) = false := decide_eq_false ha1
    go_enter Tryd.func24, Tryd.ntmps24
    go_wp2_with (first
      | (go_at_call 37
         refine (CL.out _).mono ?_
         rintro e w1 ⟨rfl, rfl⟩)
      | fail)
    go_ret
    exact ⟨rfl, rfl⟩

/-- Bytes of a row of its own. -/
theorem txt_of {w : World} {S : Nat → Prop} {B n c : Nat} {x y : Int} {D : Option Addr} {t : List Nat} {s : Bool} (h : Tow w S (x, y, (D, n, c), s)) (hg : Gs w B D n c 1 (cellsB t)) (h0 : 0 < n) : ∃ tb off, D = some ⟨tb, off, none⟩ ∧ S tb ∧ Txt w tb off t := by
  obtain ⟨tb, off, cur, e, hS, hh, hc⟩ := h h0
  change D = some ⟨tb, off, none⟩ at e
  change off + n ≤ cur.size at hc
  subst e
  refine ⟨tb, off, rfl, hS, cur, hh, by rw [hg.blen]; exact hc, fun j b hj => ?_⟩
  have := hg.bcell hj
  rwa [cell_of_row w tb _ cur _ (0, 0) hh] at this
theorem gs_of_txt {w : World} {tb off n c : Nat} {t : List Nat} (h : Txt w tb off t) (hn : t.length = n) (hc : n ≤ c) (hm : n ≤ 140737488355328) : Gs w w.heap.size (some ⟨tb, off, none⟩) n c 1 (cellsB t) := by
  refine ⟨by rw [cellsB_length, hn, Nat.mul_one], hc, hm, fun e => (by cases e), fun _ => ⟨tb, off, rfl, h.lt, fun j v hj => ?_⟩⟩
  unfold cellsB at hj
  rw [List.getElem?_map] at hj
  cases hb : t[j]? with
  | none => rw [hb] at hj; cases hj
  | some b =>
    rw [hb] at hj
    injection hj with hj
    rw [← hj]
    exact h.cell hb
/-- together, of a list's front, a copy, and what stands behind. -/
theorem tg_three {w : World} {C n c n2 c2 g g1 : Nat} {A A2 : Option Addr} {l l2 : List Cp} {r : Cr} {p : Cp} (hC : C ≤ w.heap.size) (h : Cls w C A n c l) (h2 : Cls w C A2 n2 c2 l2) (hr0 : Crd w w.heap.size r p) (hn : ([l, [p], l2] : List (List Cp)).flatten.length ≤ 1000) (hT : ∀ q ∈ ([l, [p], l2] : List (List Cp)), ∀ p ∈ q, p.2.2.1.length ≤ 50000)
    (Y : World) (hY : Below w.heap.size w Y) (hr1 : Y.heap[g1]? = some (.cells (cellsC [r]).toArray 28 (0, 0))) (hr : Y.heap[g]? = some (.cells #[.slice A n c, .slice (some ⟨g1, 0, none⟩) 1 1, .slice A2 n2 c2] 22 (0, 0))) :
    Calls Tryd.prog 26 #[.slice (some ⟨g, 0, none⟩) 3 3] Y (TgR Y ([l, [p], l2] : List (List Cp)).flatten) :=
  together_any (Gs.new (cs := cellsS [(A, n, c), (some ⟨g1, 0, none⟩, 1, 1), (A2, n2, c2)]) (k := 1) (n := 3) (c := 3) hr (lt_of_heap hr) rfl (Nat.le_refl _) (by omega))
    (Lss.cons (h.on hC hY) (Lss.cons ⟨[r], Gs.new (cs := cellsC [r]) (k := 4) (n := 1) (c := 1) hr1 (lt_of_heap hr1) rfl (Nat.le_refl _) (by omega), (Pair.nil _ _).snoc (hr0.on (Nat.le_refl _) hY)⟩ (Lss.one (h2.on hC hY)))) (Nat.le_refl _) hn hT
theorem two_drew (w : World) (o1 o2 : Obj) : ((w.alloc o1).alloc o2).drew.heap[w.heap.size]? = some o1 ∧ ((w.alloc o1).alloc o2).drew.heap[w.heap.size + 1]? = some o2 := heap_two w o1 o2
theorem below_two_drew (w : World) (o1 o2 : Obj) : Below w.heap.size w ((w.alloc o1).alloc o2).drew := (below_two w o1 o2).drew

set_option maxHeartbeats 6400000 in
set_option maxRecDepth 100000 in
theorem spoil_ok {w : World} {B n c : Nat} {A : Option Addr} {l : List Cp} {i a : Int} {m : Nat} (h : Cls w B A n c l) (hB : B ≤ w.heap.size) (hm : m < 4294967296) (hT : Tab w) :
    Calls Tryd.prog 10 #[.slice A n c, .int .i64 i, .int .i64 a, .int .u32 (m : Int)] w (LstR w (spE l i a m) (spL l i a m)) := by
  have H := hid (h.mono hB)
  have hl := hid h.len
  have hcap := h.cap
  have hmax := h.max
  have HT := hid hT
  have HM := hid hm
  clear h hB hT hm
  by_cases h0 : echk l = 0
  case neg =>
    have hE : spE l i a m = echk l := by unfold spE; rw [if_pos h0]
    have hL : spL l i a m = [] := by unfold spL; rw [hE, if_neg h0]
    rw [hE, hL]
    have CK := hid (finder_bad H.out (Nat.le_refl _) h0)
    clear hE hL
    generalize echk l = q at h0 CK ⊢
    go_enter Tryd.func10, Tryd.ntmps10
    go_wp2_with fail
    refine CK.out.mono ?_
    rintro e w1 ⟨rfl, hb⟩
    go_wp2_with fail
    refine (refuse_any _ q i).mono ?_
    rintro e w2 ⟨rfl, hb2⟩
    have B3 := hid ((gbelow_on hb.out (Nat.le_refl _) hb2.out).alloc (gbelow_on hb.out (Nat.le_refl _) hb2.out).size (.cells #[.int .i64 0, .int .i64 0, .slice none 0 0, .bool false] 28))
    go_wp2
    go_ret2
    exact LstR.none' B3.out
  have CK := hid (finder_good H.out (Nat.le_refl _) h0)
  have HMY := hid (echk_zero.1 h0).2
  have hlen := (echk_zero.1 h0).1
  by_cases hi : plc l i
  case neg =>
    have hE : spE l i a m = 2 := by unfold spE; rw [if_neg (by simp [h0]), if_pos (fun q => hi q.1)]
    have hL : spL l i a m = [] := by unfold spL; rw [hE]; rfl
    rw [hE, hL]
    have CF := hid (fun (X : World) => find_none (w := X) (c := c) (A := A) (show ¬ (0 ≤ i ∧ i < (n : Int)) from fun q => hi (by unfold plc; rw [hl.out]; exact q)))
    clear hE hL h0 hlen hi
    go_enter Tryd.func10, Tryd.ntmps10
    go_wp2_with fail
    refine CK.out.mono ?_
    rintro e w1 ⟨rfl, hb⟩
    go_wp2_with fail
    refine (CF.out _).mono ?_
    rintro e w2 ⟨rfl, hb2⟩
    have B3 := hid ((gbelow_on hb.out (Nat.le_refl _) hb2.out).alloc (gbelow_on hb.out (Nat.le_refl _) hb2.out).size (.cells #[.int .i64 0, .int .i64 0, .slice none 0 0, .bool false] 28))
    go_wp2
    go_ret2
    exact LstR.none' B3.out
  obtain ⟨k, rfl⟩ : ∃ k : Nat, i = (k : Int) := ⟨i.toNat, by have := hi.1; omega⟩
  have hkn : k < n := by have := hi.2; rw [hl.out] at this; omega
  obtain ⟨⟨x, y, t, s⟩, hp0⟩ : ∃ p, l[k]? = some p := ⟨_, List.getElem?_eq_getElem (by rw [hl.out]; exact hkn)⟩
  have hmp := HMY.out _ (List.mem_of_getElem? hp0)
  have htl : t.length ≤ 50000 := by have := hmp.2.2.2; simp only at this; omega
  have htp : 1 ≤ t.length := hmp.2.2.1
  have CF := hid (fun (X : World) (hX : Below w.heap.size w X) => find_any (H.out.on (Nat.le_refl _) hX) (Nat.le_refl _) hp0 htl)
  have hg : l.getD k C0 = (x, y, t, s) := by rw [List.getD_eq_getElem?_getD, hp0]; rfl
  have CY := hid (fun (X : World) (D : Option Addr) (d : Nat) => mayTurn_any (w := X) (n := t.length) (c := d) (A := D) (a := a) htl HM.out)
  by_cases hfit : fits t.length a m
  case neg =>
    have hE : spE l (k : Int) a m = 2 := by
      unfold spE
      rw [Int.toNat_natCast, hg, if_neg (by simp [h0]), if_pos (fun q => hfit q.2)]
    have hL : spL l (k : Int) a m = [] := by unfold spL; rw [hE]; rfl
    rw [hE, hL]
    rw [decide_eq_false hfit] at CY
    clear hE hL h0 hlen hi hg hp0 hmp hfit
    go_enter Tryd.func10, Tryd.ntmps10
    go_wp2_with fail
    refine CK.out.mono ?_
    rintro e w1 ⟨rfl, hb⟩
    go_wp2_with fail
    refine (CF.out _ hb.out).mono ?_
    rintro e w2 ⟨A2, c2, rfl, h2⟩
    have B3 := hid ((gbelow_on hb.out (Nat.le_refl _) h2.out.2.2).alloc (gbelow_on hb.out (Nat.le_refl _) h2.out.2.2).size (.cells #[.int .i64 x, .int .i64 y, .slice A2 t.length c2, .bool s] 28))
    clear h2
    go_wp2_with fail
    refine (CY.out _ _ _).mono ?_
    rintro e w3 ⟨rfl, rfl⟩
    go_wp2
    go_ret2
    exact LstR.none' B3.out
  rw [decide_eq_true hfit] at CY
  cases s with
  | true =>
    have hE : spE l (k : Int) a m = 12 := by
      unfold spE
      rw [Int.toNat_natCast, hg, if_neg (by simp [h0]), if_neg (fun q => q ⟨hi, hfit⟩)]
      rfl
    have hL : spL l (k : Int) a m = [] := by unfold spL; rw [hE]; rfl
    rw [hE, hL]
    clear hE hL h0 hlen hi hg hp0 hmp hfit
    go_enter Tryd.func10, Tryd.ntmps10
    go_wp2_with fail
    refine CK.out.mono ?_
    rintro e w1 ⟨rfl, hb⟩
    go_wp2_with fail
    refine (CF.out _ hb.out).mono ?_
    rintro e w2 ⟨A2, c2, rfl, h2⟩
    have B3 := hid ((gbelow_on hb.out (Nat.le_refl _) h2.out.2.2).alloc (gbelow_on hb.out (Nat.le_refl _) h2.out.2.2).size (.cells #[.int .i64 x, .int .i64 y, .slice A2 t.length c2, .bool true] 28))
    clear h2
    go_wp2_with fail
    refine (CY.out _ _ _).mono ?_
    rintro e w3 ⟨rfl, rfl⟩
    go_wp2
    go_ret2
    exact LstR.none' B3.out
  | false =>
    have hE : spE l (k : Int) a m = 0 := by
      unfold spE
      rw [Int.toNat_natCast, hg, if_neg (by simp [h0]), if_neg (fun q => q ⟨hi, hfit⟩)]
      rfl
    obtain ⟨a, rfl⟩ : ∃ b : Nat, a = (b : Int) := ⟨a.toNat, by have := hfit.1.1; omega⟩
    have hS : l.set k (x, y, trn t a m 32, true) = l.take k ++ [(x, y, trn t a m 32, true)] ++ l.drop (k + 1) := by
      rw [List.set_eq_take_append_cons_drop, if_pos (by rw [hl.out]; exact hkn)]
      simp
    have hL : spL l (k : Int) a m = l.take k ++ [(x, y, trn t a m 32, true)] ++ l.drop (k + 1) := by
      unfold spL spC
      rw [if_pos hE, Int.toNat_natCast, hg, Int.toNat_natCast, ← hS]
    rw [hE, hL]
    obtain ⟨b, off, x1, y1, D1, m1, d1, t1, s1, rfl, q1, hp1, q2, q3, q4, q5, q6, hf1⟩ := H.out.get hkn
    rw [hp0] at hp1
    injection hp1 with hp1
    obtain rfl : t = t1 := congrArg (·.2.2.1) hp1
    have HF := hid hf1
    clear hp1 hf1 q1 q2 q3 q4 q5 q6 x1 y1 D1 m1 d1 s1
    have HFIT := hid hfit
    have htl2 := hid htl
    have HTX := hid (show ∀ q ∈ ([l.take k, [(x, y, trn t a m 32, true)], l.drop (k + 1)] : List (List Cp)), ∀ p ∈ q, p.2.2.1.length ≤ 50000 from by
      intro q hq p hp
      have hpl : p ∈ l ∨ p = (x, y, trn t a m 32, true) := by
        rcases List.mem_cons.1 hq with rfl | hq
        · exact .inl (List.mem_of_mem_take hp)
        rcases List.mem_cons.1 hq with rfl | hq
        · exact .inr (by simpa using hp)
        · obtain rfl : q = l.drop (k + 1) := by simpa using hq
          exact .inl (List.mem_of_mem_drop hp)
      rcases hpl with h | rfl
      · have := (HMY.out p h).2.2.2
        omega
      · show (trn t a m 32).length ≤ 50000
        rw [trn_len]
        exact htl)
    have hNF : ([l.take k, [(x, y, trn t a m 32, true)], l.drop (k + 1)] : List (List Cp)).flatten = l.take k ++ [(x, y, trn t a m 32, true)] ++ l.drop (k + 1) := by simp
    have HNL := hid (show ([l.take k, [(x, y, trn t a m 32, true)], l.drop (k + 1)] : List (List Cp)).flatten.length ≤ 1000 from by
      rw [hNF, List.length_append, List.length_append, List.length_take, List.length_drop]
      simp only [List.length_singleton]
      omega)
    have HNF := hid hNF
    clear hE hL h0 hlen hi hg hp0 hmp hNF hS hfit
    have hw3 : IntKind.i64.wrap ((k : Int) + 1) = (k : Int) + 1 := by rw [IntKind.wrap_i64]; omega
    have htn : ((k : Int) + 1).toNat = k + 1 := by omega
    have hb1 : (0 : Int) ≤ (k : Int) + 1 := by omega
    have hb2 : (k : Int) + 1 ≤ (n : Int) := by omega
    have hb3 : (k : Int) ≤ (c : Int) := by omega
    have hb5 : (k : Int) ≤ (n : Int) := by omega
    have ha1 : k + 1 ≤ c := by omega
    go_enter Tryd.func10, Tryd.ntmps10
    go_wp2_with fail
    refine CK.out.mono ?_
    rintro e w1 ⟨rfl, hb⟩
    go_wp2_with fail
    refine (CF.out _ hb.out).mono ?_
    rintro e w2 ⟨A2, c2, rfl, h2⟩
    have htw : Tow w2 (fun q => w1.heap.size ≤ q) (x, y, (A2, t.length, c2), false) := h2.out.1
    have hcr : Crd w2 w2.heap.size (x, y, (A2, t.length, c2), false) (x, y, t, false) := h2.out.2.1
    have hb12 := h2.out.2.2
    clear h2 CF CK
    obtain ⟨tb, off2, rfl, hStb, hTx⟩ := txt_of htw hcr.txt (by omega)
    have hcp2 := hcr.txt.cap
    have htb2 := hTx.lt
    have hz1 := hb.out.size
    have hz2 := hb12.size
    have htg : tb ≠ 0 := by have := HT.out.lt; omega
    have ba := (Below.refl w2.heap.size w2).alloc (Nat.le_refl _) (.cells #[.int .i64 x, .int .i64 y, .slice (some ⟨tb, off2, none⟩) t.length c2, .bool false] 28)
    have BA := hid (gbelow_on (gbelow_on hb.out (Nat.le_refl _) hb12) (Nat.le_refl _) ba)
    have CU := hid (turn_any (w := w2.alloc (.cells #[.int .i64 x, .int .i64 y, .slice (some ⟨tb, off2, none⟩) t.length c2, .bool false] 28)) (off := off2) (a := a) (c := c2) (hTx.at (ba.block tb htb2)) HF.out htl HFIT.out HM.out (HT.out.below BA.out HT.out.lt) htg)
    have XA := hid (Cbx.new w2 x y (some ⟨tb, off2, none⟩) t.length c2 false)
    have HZ := hid (show w.heap.size ≤ tb ∧ tb < w2.heap.size ∧ w.heap.size ≤ w2.heap.size ∧ t.length ≤ c2 from ⟨by omega, htb2, by omega, hcp2⟩)
    clear hb hb12 htw hcr hTx htb2 hz1 hz2 htg hStb hcp2 htl htp ba
    go_wp2_with (first
      | (go_at_call 24
         refine (CY.out _ _ _).mono ?_
         rintro e wy ⟨rfl, rfl⟩)
      | (go_at_call 25
         refine CU.out.mono ?_
         rintro e w4 ⟨rfl, h4⟩
         have X4 := hid (show Cbx w4 w2.heap.size x y (some ⟨tb, off2, none⟩) t.length c2 false from (h4.out.2.block _ XA.out.lt (show ¬ w2.heap.size = tb by have := HZ.out; omega)).trans XA.out)
         have B4 := hid (show Below w.heap.size w w4 from ⟨h4.out.2.os.trans BA.out.os, h4.out.2.tape.trans BA.out.tape, h4.out.2.output.trans BA.out.output, Nat.le_trans BA.out.size h4.out.2.size, fun q hq => (h4.out.2.block q (Nat.lt_of_lt_of_le hq BA.out.size) (show ¬ q = tb by have := HZ.out; omega)).trans (BA.out.block q hq)⟩))
      | (refine gput_cell (P := Tryd.prog) rfl _ (.tmp 35) (.const (.bool true)) rfl w2.heap.size 3 (.bool true) 28 _ #[.int .i64 x, .int .i64 y, .slice (some ⟨tb, off2, none⟩) t.length c2, .bool true] rfl rfl rfl sizeBo X4.out (show (3 : Nat) < 4 by decide) rfl ?_
         intro w5 x5 q5
         have X5 := hid (show Cbx w5 w2.heap.size x y (some ⟨tb, off2, none⟩) t.length c2 true from x5)
         have B5 := hid (q5.bel B4.out HZ.out.2.2.1)
         have T5 := hid (h4.out.1.at (q5.block tb (by have := HZ.out; omega)))
         clear x5 q5 h4)
      | fail)
    clear CY CU XA X4 B4 BA
    have L5 := hid (H.out.below B5.out)
    have P5 := hid (two_parts L5.out hkn)
    have R5 := hid (show Crd w5 w5.heap.size (x, y, (some ⟨tb, off2, none⟩, t.length, c2), true) (x, y, trn t a m 32, true) from
      Crd.in_ (gs_of_txt T5.out (trn_len _ _ _ _) HZ.out.2.2.2 (by have := HZ.out.2.2.2; have := htl2.out; omega)) (trn_fit HF.out a m 32))
    have HS := hid (fun (X : World) (hX : Below w5.heap.size w5 X) => show X.cell? ⟨w2.heap.size, 0, none⟩ = some (.int .i64 x) ∧ X.cell? ⟨w2.heap.size, 1, none⟩ = some (.int .i64 y) ∧ X.cell? ⟨w2.heap.size, 2, none⟩ = some (.slice (some ⟨tb, off2, none⟩) t.length c2) ∧ X.cell? ⟨w2.heap.size, 3, none⟩ = some (.bool true) from
      have hx := X5.out.below hX X5.out.lt
      ⟨hx.c0, hx.c1, hx.c2, hx.c3⟩)
    have HBa := hid (fun (o : Obj) => show Below w5.heap.size w5 (w5.alloc o) from (Below.refl w5.heap.size w5).alloc (Nat.le_refl _) o)
    have HBd := hid (fun (o1 o2 : Obj) => below_two_drew w5 o1 o2)
    have HB1 := hid (fun (o2 : Obj) => show ((w5.alloc (.cells #[.int .i64 x, .int .i64 y, .slice (some ⟨tb, off2, none⟩) t.length c2, .bool true] 28)).alloc o2).drew.heap[w5.heap.size]? = some (.cells (cellsC [(x, y, (some ⟨tb, off2, none⟩, t.length, c2), true)]).toArray 28 (0, 0)) from (two_drew w5 _ o2).1)
    have HBz := hid (Below.refl w5.heap.size w5)
    have hBw : w.heap.size ≤ w5.heap.size := B5.out.size
    by_cases hpc : c = k + 1
    · have CT := hid (tg_three (g := w5.heap.size + 1) (g1 := w5.heap.size) hBw P5.out.1 (P5.out.2.2 hpc) R5.out HNL.out HTX.out)
      clear P5
      subst hpc
      obtain rfl : n = k + 1 := by omega
      have hz3 : k + 1 - (k + 1) = 0 := by omega
      have hb6 : (k : Int) ≤ (k : Int) + 1 := by omega
      rw [HNF.out] at CT
      go_region_held3 (fun X => X.cell? ⟨w2.heap.size, 0, none⟩ = some (.int .i64 x) ∧ X.cell? ⟨w2.heap.size, 1, none⟩ = some (.int .i64 y) ∧ X.cell? ⟨w2.heap.size, 2, none⟩ = some (.slice (some ⟨tb, off2, none⟩) t.length c2) ∧ X.cell? ⟨w2.heap.size, 3, none⟩ = some (.bool true))
        (first | (with_reducible exact HS.out _ HBz.out) | (with_reducible exact HS.out _ (HBz.out.drew)) | (with_reducible exact HS.out _ (HBd.out _ _)) | (with_reducible exact HS.out _ (HBa.out _)) | (with_reducible exact HS.out _ (HBa.out _).drew))
        (first
        | (go_at_call 26
           with_reducible refine (CT.out _ (HBd.out _ _) (HB1.out _) (two_drew _ _ _).2).mono ?_
           rintro e wf ⟨Af, nf, cf, rsf, rfl, hf⟩
           have HBz := hid (gbelow_on (HBd.out _ _) (Nat.le_refl _) hf.out.2.1))
        | fail)
      go_wp2
      go_ret2
      exact cow_of_tg (gbelow_on B5.out (Nat.le_refl _) (HBd.out _ _)) hf.out
    · have CT := hid (tg_three (g := w5.heap.size + 1) (g1 := w5.heap.size) hBw P5.out.1 (P5.out.2.1 hpc) R5.out HNL.out HTX.out)
      clear P5
      have hkc : ¬ (c = k + 1) := hpc
      rw [HNF.out] at CT
      go_region_held3 (fun X => X.cell? ⟨w2.heap.size, 0, none⟩ = some (.int .i64 x) ∧ X.cell? ⟨w2.heap.size, 1, none⟩ = some (.int .i64 y) ∧ X.cell? ⟨w2.heap.size, 2, none⟩ = some (.slice (some ⟨tb, off2, none⟩) t.length c2) ∧ X.cell? ⟨w2.heap.size, 3, none⟩ = some (.bool true))
        (first | (with_reducible exact HS.out _ HBz.out) | (with_reducible exact HS.out _ (HBz.out.drew)) | (with_reducible exact HS.out _ (HBd.out _ _)) | (with_reducible exact HS.out _ (HBa.out _)) | (with_reducible exact HS.out _ (HBa.out _).drew))
        (first
        | (go_at_call 26
           with_reducible refine (CT.out _ (HBd.out _ _) (HB1.out _) (two_drew _ _ _).2).mono ?_
           rintro e wf ⟨Af, nf, cf, rsf, rfl, hf⟩
           have HBz := hid (gbelow_on (HBd.out _ _) (Nat.le_refl _) hf.out.2.1))
        | fail)
      go_wp2
      go_ret2
      exact cow_of_tg (gbelow_on B5.out (Nat.le_refl _) (HBd.out _ _)) hf.out
theorem spoil_ok' : SpoilOk Tab := fun _ _ _ _ _ _ _ _ _ h hB hm hT => spoil_ok h hB hm hT
theorem stays_tab : Stays Tab := fun _ _ h hb => h.below hb h.lt
end Go.Proofs.YtbpijlghdpflgaaDoor.Eth
