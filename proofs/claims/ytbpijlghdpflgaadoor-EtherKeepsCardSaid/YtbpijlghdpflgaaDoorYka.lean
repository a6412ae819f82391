/- EtherKeeps: plain facts; the cases that end early. -/
import Derived.Test.YtbpijlghdpflgaaDoorYot
namespace Go.Proofs.YtbpijlghdpflgaaDoor.Eth
open Go.RowKit Go.Shelf Go.Lib

/-- The program's calls, as they are. -/
structure Paid (T : World → Prop) : Prop where
  ck : CheckOk
  sm : SameOk
  sn : SendOk
  tk : TakeOk
  db : DoubleOk
  sp : SpoilOk T
  st : Stays T
theorem tkE_zero {l : List Cp} {i : Int} (h : tkE l i = 0) : ∃ (k : Nat) (p : Cp), i = (k : Int) ∧ k < l.length ∧ l[k]? = some p ∧ l.length ≤ 16 ∧ (∀ q ∈ l, MayC q) ∧ tkL l i = l.take k ++ l.drop (k + 1) ∧ tkC l i = p := by
  have hL : tkL l i = l.take i.toNat ++ l.drop (i.toNat + 1) := if_pos h
  have hC : tkC l i = l.getD i.toNat C0 := if_pos h
  unfold tkE at h
  by_cases h0 : echk l = 0
  · rw [if_neg (by simp [h0])] at h
    by_cases h1 : plc l i
    · obtain ⟨h3, h4⟩ := h1
      have h6 : i.toNat < l.length := by omega
      exact ⟨i.toNat, l[i.toNat], by omega, h6, List.getElem?_eq_getElem _, (echk_zero.1 h0).1, (echk_zero.1 h0).2, hL, by rw [hC, List.getD_eq_getElem?_getD, List.getElem?_eq_getElem h6]; rfl⟩
    · rw [if_pos h1] at h; cases h
  · rw [if_pos h0] at h; exact absurd h h0
theorem sn_some {l : List Cp} {p : Cp} {k : Nat} (hk : k < l.length) (hl : l.length ≤ 16) (h : ∀ q ∈ l, MayC q) (hp : l[k]? = some p) : snE l p = dbE l (k : Int) ∧ snL l p = dbL l (k : Int) := by
  obtain ⟨h1, h2⟩ := db_some hk hl h hp
  have hE : snE l p = (if 16 ≤ l.length then 9 else 0) := by
    unfold snE
    rw [if_neg (by simp [echk_zero.2 ⟨hl, h⟩]), if_neg (fun e => e (h p (List.mem_of_getElem? hp)))]
  refine ⟨hE.trans h1.symm, ?_⟩
  unfold snL
  rw [hE]
  by_cases h16 : 16 ≤ l.length
  · rw [if_pos h16, if_neg (by decide)]
    unfold dbL
    rw [h1, if_pos h16, if_neg (by decide)]
  · rw [if_neg h16, if_pos rfl, h2 h16]
theorem tk_back {l : List Cp} {p : Cp} {k : Nat} (hl : ¬ 16 ≤ l.length) (h : ∀ q ∈ l, MayC q) (hp : l[k]? = some p) : tkE (l ++ [p]) (l.length : Int) = 0 ∧ tkL (l ++ [p]) (l.length : Int) = l ∧ tkC (l ++ [p]) (l.length : Int) = p := by
  have h0 : echk (l ++ [p]) = 0 := echk_zero.2 ⟨by simp; omega, fun q hq => by
    rcases List.mem_append.1 hq with h1 | h1
    · exact h q h1
    · rw [List.mem_singleton.1 h1]; exact h p (List.mem_of_getElem? hp)⟩
  have hE : tkE (l ++ [p]) (l.length : Int) = 0 := by
    unfold tkE
    rw [if_neg (by simp [h0]), if_neg (fun e => e ⟨by omega, by rw [List.length_append, List.length_singleton]; omega⟩)]
  refine ⟨hE, ?_, ?_⟩
  · unfold tkL
    rw [if_pos hE, Int.toNat_natCast, List.take_left' rfl, List.drop_of_length_le (by simp), List.append_nil]
  · unfold tkC
    rw [if_pos hE, Int.toNat_natCast, List.getD_eq_getElem?_getD, List.getElem?_append_right (Nat.le_refl _), Nat.sub_self]
    rfl

/-- An operation that only reads is taken first. -/
theorem tkH {P : Program} {md : Region.Mode} {ops : Array Oper} {Q : Exit → Act → World → Prop} {S : World → Prop} {i : Nat} {oi : Oper} {fuel : Nat} {listed : Array Bool} {a : Act} {w : World} (v : Value) (hi : ops[i]? = some oi)
    (hs : (Region.noSelect ops && Region.free md ops listed i && (Region.ready md ops listed).contains i) = true) (hQ : ∀ c a w, Q (.panic c) (a.put oi.dst v) w → Q (.panic c) a w) (hw : Region.wanted oi (yielded ops a.tmps) = true)
    (hy : ∀ w, S w → (execOp a.eval oi).run P w = .ok (.value v) w) (hS : S w) (h : wpAnyH P md ops Q S fuel (listed.setIfInBounds i true) (a.put oi.dst v) w) : wpAnyH P md ops Q S (fuel + 1) listed a w := by
  simp only [Bool.and_eq_true] at hs
  exact wpAnyH_take hi hs.1.1 hs.1.2 hs.2 hQ (Or.inl ⟨hw, hy⟩) hS h
/-- One that is not wanted. -/
theorem skH {P : Program} {md : Region.Mode} {ops : Array Oper} {Q : Exit → Act → World → Prop} {S : World → Prop} {i : Nat} {oi : Oper} {fuel : Nat} {listed : Array Bool} {a : Act} {w : World} (hi : ops[i]? = some oi)
    (hs : (Region.noSelect ops && Region.free md ops listed i && (Region.ready md ops listed).contains i) = true) (hQ : ∀ c a w, Q (.panic c) (a.put oi.dst undef) w → Q (.panic c) a w) (hw : Region.wanted oi (yielded ops a.tmps) = false)
    (hS : S w) (h : wpAnyH P md ops Q S fuel (listed.setIfInBounds i true) (a.put oi.dst undef) w) : wpAnyH P md ops Q S (fuel + 1) listed a w := by
  simp only [Bool.and_eq_true] at hs
  exact wpAnyH_take hi hs.1.1 hs.1.2 hs.2 hQ (Or.inr ⟨hw, rfl⟩) hS h

set_option maxHeartbeats 25600000 in
set_option maxRecDepth 100000 in
theorem keeps_great {T : World → Prop} (PQ : Paid T) {w : World} (hT : T w) {n c m d : Nat} {A D : Option Addr} {l : List Cp} {x y i : Int} {t : List Nat} {s : Bool} (h : Cls w w.heap.size A n c l) (ht : Gs w w.heap.size D m d 1 (cellsB t)) (hf : ∀ b ∈ t, b < 256) (hgr : grC l) : Calls Tryd.prog 5 #[.slice A n c, .int .i64 i, .agg #[.int .i64 x, .int .i64 y, .slice D m d, .bool s]] w fun e w' => e = .returned (.bool true) ∧ Below w.heap.size w w' := by
  obtain ⟨W, hW⟩ : ∃ W, W = w.alloc (.cells #[.int .i64 x, .int .i64 y, .slice D m d, .bool s] 28) := ⟨_, rfl⟩
  have B0 := hid (show Below w.heap.size w W from hW ▸ (Below.refl _ w).alloc (Nat.le_refl _) _)
  have X0 := hid (show Cbx W w.heap.size x y D m d s from hW ▸ Cbx.new w x y D m d s)
  have HW := hid hW
  have H0 := hid (h.on (Nat.le_refl _) B0.out)
  have T0 := hid (ht.on (Nat.le_refl _) B0.out)
  have hl := hid h.len
  have hcap := h.cap
  have HF := hid hf
  clear hW h ht hf
  go_enter Tryd.func5, Tryd.ntmps5
  go_upto_region 1 with fail
  rw [← HW.out]
  go_wp2_with fail
  refine (alive_walk PQ.sn PQ.tk PQ.db PQ.sp PQ.st W (PQ.st _ _ hT B0.out)).mono ?_
  rintro e w1 ⟨rfl, h1⟩
  have b1 := hid (gbelow_on B0.out (Nat.le_refl _) h1.out)
  have X1 := hid (X0.out.below h1.out X0.out.lt)
  have L1 := hid (H0.out.on (Nat.le_refl _) h1.out)
  have T1 := hid (T0.out.on (Nat.le_refl _) h1.out)
  have x2 := X1.out.c2
  clear H0 T0 X0 B0 HW h1
  go_wp2_with fail
  refine (great_yes L1.out hgr).mono ?_
  rintro e w2 ⟨rfl, rfl⟩
  clear hgr
  go_wp2
  go_ret
  exact ⟨rfl, b1.out⟩

set_option maxHeartbeats 25600000 in
set_option maxRecDepth 100000 in
theorem keeps_long {T : World → Prop} (PQ : Paid T) {w : World} (hT : T w) {n c m d : Nat} {A D : Option Addr} {l : List Cp} {x y i : Int} {t : List Nat} {s : Bool} (h : Cls w w.heap.size A n c l) (ht : Gs w w.heap.size D m d 1 (cellsB t)) (hf : ∀ b ∈ t, b < 256) (hgr : ¬ grC l) (hm : 5000 < m) : Calls Tryd.prog 5 #[.slice A n c, .int .i64 i, .agg #[.int .i64 x, .int .i64 y, .slice D m d, .bool s]] w fun e w' => e = .returned (.bool true) ∧ Below w.heap.size w w' := by
  have hz : (m : Int) > 5000 := by omega
  obtain ⟨W, hW⟩ : ∃ W, W = w.alloc (.cells #[.int .i64 x, .int .i64 y, .slice D m d, .bool s] 28) := ⟨_, rfl⟩
  have B0 := hid (show Below w.heap.size w W from hW ▸ (Below.refl _ w).alloc (Nat.le_refl _) _)
  have X0 := hid (show Cbx W w.heap.size x y D m d s from hW ▸ Cbx.new w x y D m d s)
  have HW := hid hW
  have H0 := hid (h.on (Nat.le_refl _) B0.out)
  have T0 := hid (ht.on (Nat.le_refl _) B0.out)
  have hl := hid h.len
  have hcap := h.cap
  have HF := hid hf
  clear hW h ht hf
  go_enter Tryd.func5, Tryd.ntmps5
  go_upto_region 1 with fail
  rw [← HW.out]
  go_wp2_with fail
  refine (alive_walk PQ.sn PQ.tk PQ.db PQ.sp PQ.st W (PQ.st _ _ hT B0.out)).mono ?_
  rintro e w1 ⟨rfl, h1⟩
  have b1 := hid (gbelow_on B0.out (Nat.le_refl _) h1.out)
  have X1 := hid (X0.out.below h1.out X0.out.lt)
  have L1 := hid (H0.out.on (Nat.le_refl _) h1.out)
  have T1 := hid (T0.out.on (Nat.le_refl _) h1.out)
  have x2 := X1.out.c2
  clear H0 T0 X0 B0 HW h1
  go_wp2_with fail
  refine (great_no L1.out hgr).mono ?_
  rintro e w2 ⟨rfl, rfl⟩
  clear hgr
  go_wp2
  go_ret
  exact ⟨rfl, b1.out⟩

set_option maxHeartbeats 25600000 in
set_option maxRecDepth 100000 in
theorem keeps_bad {T : World → Prop} (PQ : Paid T) {w : World} (hT : T w) {n c m d : Nat} {A D : Option Addr} {l : List Cp} {x y i : Int} {t : List Nat} {s : Bool} (h : Cls w w.heap.size A n c l) (ht : Gs w w.heap.size D m d 1 (cellsB t)) (hf : ∀ b ∈ t, b < 256) (hgr : ¬ grC l) (hm : ¬ 5000 < m) (hq0 : ¬ tkE l i = 0) : Calls Tryd.prog 5 #[.slice A n c, .int .i64 i, .agg #[.int .i64 x, .int .i64 y, .slice D m d, .bool s]] w fun e w' => e = .returned (.bool true) ∧ Below w.heap.size w w' := by
  have hz : ¬ (m : Int) > 5000 := by omega
  obtain ⟨W, hW⟩ : ∃ W, W = w.alloc (.cells #[.int .i64 x, .int .i64 y, .slice D m d, .bool s] 28) := ⟨_, rfl⟩
  have B0 := hid (show Below w.heap.size w W from hW ▸ (Below.refl _ w).alloc (Nat.le_refl _) _)
  have X0 := hid (show Cbx W w.heap.size x y D m d s from hW ▸ Cbx.new w x y D m d s)
  have HW := hid hW
  have H0 := hid (h.on (Nat.le_refl _) B0.out)
  have T0 := hid (ht.on (Nat.le_refl _) B0.out)
  have hl := hid h.len
  have hcap := h.cap
  have HF := hid hf
  clear hW h ht hf
  go_enter Tryd.func5, Tryd.ntmps5
  go_upto_region 1 with fail
  rw [← HW.out]
  go_wp2_with fail
  refine (alive_walk PQ.sn PQ.tk PQ.db PQ.sp PQ.st W (PQ.st _ _ hT B0.out)).mono ?_
  rintro e w1 ⟨rfl, h1⟩
  have b1 := hid (gbelow_on B0.out (Nat.le_refl _) h1.out)
  have X1 := hid (X0.out.below h1.out X0.out.lt)
  have L1 := hid (H0.out.on (Nat.le_refl _) h1.out)
  have T1 := hid (T0.out.on (Nat.le_refl _) h1.out)
  have x2 := X1.out.c2
  clear H0 T0 X0 B0 HW h1
  go_wp2_with fail
  refine (great_no L1.out hgr).mono ?_
  rintro e w2 ⟨rfl, rfl⟩
  clear hgr
  have CT := hid (PQ.tk _ _ _ _ _ _ i L1.out (Nat.le_refl _))
  rw [show tkL l i = [] from if_neg hq0, show tkC l i = C0 from if_neg hq0] at CT
  by_cases h0 : echk l = 0
  · have hq2 : tkE l i = 2 ∧ ¬ (0 ≤ i ∧ i < (n : Int)) := by
      unfold tkE at hq0 ⊢
      rw [if_neg (by simp [h0])] at hq0 ⊢
      by_cases hp : plc l i
      · rw [if_neg (fun e => e hp)] at hq0
        exact absurd rfl hq0
      · rw [if_pos hp]
        refine ⟨rfl, fun e => hp ?_⟩
        unfold plc
        rw [hl.out]
        exact e
    rw [hq2.1] at CT
    have hni := hq2.2
    clear hq2 hq0
    go_wp2_with fail
    refine CT.out.mono ?_
    rintro e w2 ⟨A2, n2, c2, rs2, u2, v2, D2, m2, d2, s2, S2, rfl, h2⟩
    have hn2 : n2 = 0 := h2.out.2.2.2.2.2
    have hm2 : m2 = 0 := h2.out.2.2.2.1.txt.blen.symm
    have b2 := hid (gbelow_on b1.out (Nat.le_refl _) h2.out.2.2.2.2.1)
    have ba := hid (b2.out.alloc b2.out.size (.cells #[.int .i64 u2, .int .i64 v2, .slice D2 m2 d2, .bool s2] 28))
    have CC := hid (PQ.ck _ _ _ _ _ _ (L1.out.on (Nat.le_refl _) (h2.out.2.2.2.2.1.alloc h2.out.2.2.2.2.1.size (.cells #[.int .i64 u2, .int .i64 v2, .slice D2 m2 d2, .bool s2] 28))) (Nat.le_refl _))
    rw [h0] at CC
    subst hn2 hm2
    clear h2 CT
    by_cases hi0 : i < 0
    · clear hni
      go_wp2_with (first
        | (go_at_call 18
           refine CC.out.mono ?_
           rintro e w3 ⟨rfl, h3⟩)
        | fail)
      go_ret
      exact ⟨rfl, gbelow_on ba.out (Nat.le_refl _) h3.out⟩
    · have hin : i ≥ (n : Int) := by omega
      clear hni
      go_wp2_with (first
        | (go_at_call 18
           refine CC.out.mono ?_
           rintro e w3 ⟨rfl, h3⟩)
        | fail)
      go_ret
      exact ⟨rfl, gbelow_on ba.out (Nat.le_refl _) h3.out⟩
  · rw [show tkE l i = echk l from if_pos h0] at CT
    have CC0 := hid (fun (X : World) (hX : Below w2.heap.size w2 X) => PQ.ck _ _ _ _ _ _ (L1.out.on (Nat.le_refl _) hX) (Nat.le_refl _))
    have hqb : (echk l != 0) = true := by rw [bne_iff_ne]; exact h0
    have hqc : (echk l == 0) = false := by rw [beq_eq_false_iff_ne]; exact h0
    generalize echk l = q at *
    clear hq0
    go_wp2_with fail
    refine CT.out.mono ?_
    rintro e w2 ⟨A2, n2, c2, rs2, u2, v2, D2, m2, d2, s2, S2, rfl, h2⟩
    have hn2 : n2 = 0 := h2.out.2.2.2.2.2
    have hm2 : m2 = 0 := h2.out.2.2.2.1.txt.blen.symm
    have b2 := hid (gbelow_on b1.out (Nat.le_refl _) h2.out.2.2.2.2.1)
    have ba := hid (b2.out.alloc b2.out.size (.cells #[.int .i64 u2, .int .i64 v2, .slice D2 m2 d2, .bool s2] 28))
    have CC := hid (CC0.out _ (h2.out.2.2.2.2.1.alloc h2.out.2.2.2.2.1.size (.cells #[.int .i64 u2, .int .i64 v2, .slice D2 m2 d2, .bool s2] 28)))
    subst hn2 hm2
    clear h2 CT CC0
    go_wp2_with (first
      | (go_at_call 18
         refine CC.out.mono ?_
         rintro e w3 ⟨rfl, h3⟩)
      | fail)
    go_ret
    exact ⟨rfl, gbelow_on ba.out (Nat.le_refl _) h3.out⟩

end Go.Proofs.YtbpijlghdpflgaaDoor.Eth
