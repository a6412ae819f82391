/- What was written is read. No program is walked here. -/
/- What was written is read, by the document's reader. -/
/- The document's fields: put, PutNumber. -/
/- The document's fields: Text, PutDyad. -/
/- The document's content of a mail: words. -/
/- The document's Text of a dyad, in new memory; append that says which row it turns. -/
/- The document's content of a mail: dyads. -/
import Derived.Test.YtbankbehfjogpaaGreatVao
import Derived.Test.YtbankbehfjogpaaGreatVai
import Derived.Test.YtbankbehfjogpaaGreatVah
import Derived.Deep.RegionHeld3
import Derived.Deep.AppendLies
import Derived.Test.YtbankbehfjogpaaGreatVae
namespace Go.Proofs.YtbankbehfjogpaaGreat
open Go.RowKit Go.Shelf Go.Lib
theorem drop_next {xs a r : List Nat} {p : Nat} (h : xs.drop p = a ++ r) : xs.drop (p + a.length) = r := by
  rw [← List.drop_drop, h, List.drop_left]
theorem drop_len {xs a r : List Nat} {p : Nat} (h : xs.drop p = a ++ r) (ha : 0 < a.length) : p + a.length ≤ xs.length := by
  have := congrArg List.length h
  rw [List.length_drop, List.length_append] at this
  omega
theorem rn_at {xs r : List Nat} {p V z : Nat} (h : xs.drop p = be V z ++ r) (hV : V < 256 ^ z) (hz : 0 < z) : rnR ⟨xs, p, false⟩ z = (V, ⟨xs, p + z, false⟩) ∧ xs.drop (p + z) = r := by
  have h1 := drop_len h (by rw [be_length]; exact hz)
  have h2 := drop_next h
  rw [be_length] at h1 h2
  have hr : rnR ⟨xs, p, false⟩ z = (bn ((xs.drop p).take z) % 256 ^ z, ⟨xs, p + z, false⟩) := if_pos h1
  refine ⟨?_, h2⟩
  rw [hr, h, List.take_left' (be_length V z), bn_be hV, Nat.mod_eq_of_lt hV]
theorem rf_at {xs r : List Nat} {p : Nat} {b : Bool} (h : xs.drop p = be (flg b) 1 ++ r) : rfR ⟨xs, p, false⟩ = (b, ⟨xs, p + 1, false⟩) ∧ xs.drop (p + 1) = r := by
  obtain ⟨h1, h2⟩ := rn_at h (flg_lt b) (by omega)
  refine ⟨?_, h2⟩
  unfold rfR
  rw [h1]
  cases b <;> rfl
theorem dyad_at {ys r : List Nat} {D : Ddy} (hf : D.Fit) (hm : DMay D.s D.n D.f (D.x : Int)) (h : ys = dfx D ++ r) : dE ys = 0 ∧ decide (sgOf ys = 1) = D.s ∧ cntOf ys = D.n ∧ limOf ys = D.f ∧ expOf ys = D.x := by
  obtain ⟨f1, f2, f3, f4⟩ := hf
  have hl : ys.length = (4 + 4 * D.n) + r.length := by rw [h, List.length_append]; unfold dfx; rw [dtx_length]
  unfold dfx dtx at h
  simp only [List.append_assoc] at h
  have e0 : ys.drop 0 = be (if D.s = true then 1 else 0) 1 ++ (be D.x 2 ++ (be D.n 1 ++ (lms D.f D.n ++ r))) := by rw [List.drop_zero]; exact h
  have e1 := drop_next e0
  rw [be_length] at e1
  have e2 := drop_next e1
  rw [be_length] at e2
  have e3 := drop_next e2
  rw [be_length] at e3
  have hsg : sgOf ys = if D.s = true then 1 else 0 := by
    have := bn_one (xs := ys) (p := 0) (by omega)
    rw [e0, List.take_left' (be_length _ _), bn_be (sg_lt _)] at this
    exact this.symm
  have hx : expOf ys = D.x := by
    unfold expOf
    rw [show (1 : Nat) = 0 + 1 from rfl, e1, List.take_left' (be_length _ _), bn_be (Nat.lt_of_lt_of_le f2 (by decide))]
  have hc : cntOf ys = D.n := by
    have := bn_one (xs := ys) (p := 3) (by omega)
    rw [show (3 : Nat) = 0 + 1 + 2 from rfl, e2, List.take_left' (be_length _ _), bn_be (Nat.lt_of_lt_of_le f1 (by decide))] at this
    exact this.symm
  have hlm : limOf ys = D.f := by
    funext j
    unfold limOf
    rw [hc, show (4 : Nat) = 0 + 1 + 2 + 1 from rfl, e3]
    exact lof_lms r f3 f4 j
  have hs1 : decide (sgOf ys = 1) = D.s := by rw [hsg]; cases D.s <;> rfl
  refine ⟨?_, hs1, hc, hlm, hx⟩
  unfold dE
  rw [hs1, hc, hlm, hx, hsg, if_neg (by omega), if_pos ⟨by split <;> omega, hm⟩]
theorem rd_at {xs r : List Nat} {p : Nat} {D : Ddy} (hf : D.Fit) (hm : DMay D.s D.n D.f (D.x : Int)) (h : xs.drop p = dfx D ++ r) : rdR ⟨xs, p, false⟩ = (D, ⟨xs, p + (4 + 4 * D.n), false⟩) ∧ xs.drop (p + (4 + 4 * D.n)) = r := by
  obtain ⟨h1, h2, h3, h4, h5⟩ := dyad_at hf hm h
  have hd := drop_next h
  have hl : (dfx D).length = 4 + 4 * D.n := by unfold dfx; rw [dtx_length]
  rw [hl] at hd
  refine ⟨?_, hd⟩
  have hr : rdR ⟨xs, p, false⟩ = (⟨decide (sgOf (xs.drop p) = 1), cntOf (xs.drop p), limOf (xs.drop p), expOf (xs.drop p)⟩, ⟨xs, p + (4 + 4 * cntOf (xs.drop p)), false⟩) := if_pos h1
  rw [hr, h2, h3, h4, h5]
theorem lis_at {xs r : List Nat} {p : Nat} {l : List De} (hl : LFit l) (h : xs.drop p = lsx l ++ r) : ∀ k, k ≤ l.length → lisP Wrd [] ⟨xs, p, false⟩ k = (l.take k, ⟨xs, p + 5 * k, false⟩) ∧ xs.drop (p + 5 * k) = lsx (l.drop k) ++ r
  | 0, _ => ⟨rfl, h⟩
  | k + 1, hk => by
    obtain ⟨i1, i2⟩ := lis_at hl h k (by omega)
    have hd := hl _ (List.getElem_mem (show k < l.length by omega))
    rw [List.drop_eq_getElem_cons (show k < l.length by omega)] at i2
    generalize hde : l[k]'(by omega) = d at hd i2
    have i3 : xs.drop (p + 5 * k) = be d.1.toNat 1 ++ (be d.2.toNat 4 ++ (lsx (l.drop (k + 1)) ++ r)) := by
      rw [i2]
      simp [lsx]
    obtain ⟨a1, a2⟩ := rn_at i3 (by show d.1.toNat < 256; omega) (by omega)
    obtain ⟨b1, b2⟩ := rn_at a2 (by show d.2.toNat < 4294967296; omega) (by omega)
    have e5 : p + 5 * k + 1 + 4 = p + 5 * (k + 1) := by omega
    rw [e5] at b1 b2
    refine ⟨?_, b2⟩
    show ((lisP Wrd [] ⟨xs, p, false⟩ k).1 ++ [(((rnR (lisP Wrd [] ⟨xs, p, false⟩ k).2 1).1 : Int), ((rnR (rnR (lisP Wrd [] ⟨xs, p, false⟩ k).2 1).2 4).1 : Int))], (rnR (rnR (lisP Wrd [] ⟨xs, p, false⟩ k).2 1).2 4).2) = _
    rw [i1]
    dsimp only
    rw [a1]
    dsimp only
    rw [b1]
    dsimp only
    rw [List.take_add_one, List.getElem?_eq_getElem (show k < l.length by omega), hde]
    have q1 : ((d.1.toNat : Nat) : Int) = d.1 := by omega
    have q2 : ((d.2.toNat : Nat) : Int) = d.2 := by omega
    rw [q1, q2]
    rfl
theorem tgs_at {xs r : List Nat} {p : Nat} {l : List Nat} (hl : ∀ t ∈ l, t < 4294967296) (h : xs.drop p = tgx l ++ r) : ∀ k, k ≤ l.length → tgsP Wrd [] ⟨xs, p, false⟩ k = (l.take k, ⟨xs, p + 4 * k, false⟩) ∧ xs.drop (p + 4 * k) = tgx (l.drop k) ++ r
  | 0, _ => ⟨rfl, h⟩
  | k + 1, hk => by
    obtain ⟨i1, i2⟩ := tgs_at hl h k (by omega)
    have hd := hl _ (List.getElem_mem (show k < l.length by omega))
    rw [List.drop_eq_getElem_cons (show k < l.length by omega)] at i2
    generalize hde : l[k]'(by omega) = d at hd i2
    have i3 : xs.drop (p + 4 * k) = be d 4 ++ (tgx (l.drop (k + 1)) ++ r) := by
      rw [i2]
      simp [tgx]
    obtain ⟨a1, a2⟩ := rn_at i3 (by show d < 4294967296; omega) (by omega)
    have e5 : p + 4 * k + 4 = p + 4 * (k + 1) := by omega
    rw [e5] at a1 a2
    refine ⟨?_, a2⟩
    show ((tgsP Wrd [] ⟨xs, p, false⟩ k).1 ++ [(rnR (tgsP Wrd [] ⟨xs, p, false⟩ k).2 4).1], (rnR (tgsP Wrd [] ⟨xs, p, false⟩ k).2 4).2) = _
    rw [i1]
    dsimp only
    rw [a1]
    dsimp only
    rw [List.take_add_one, List.getElem?_eq_getElem (show k < l.length by omega), hde]
    rfl
theorem end_at {xs : List Nat} {p : Nat} (h : xs.drop p = []) (hp : p ≤ xs.length) : p = xs.length := by
  have := congrArg List.length h
  rw [List.length_drop] at this
  simp at this
  omega
theorem ml_ext {M N : Ml} (h1 : M.kd = N.kd) (h2 : M.fr = N.fr) (h3 : M.tu = N.tu) (h4 : M.ep = N.ep) (h5 : M.nu = N.nu) (h6 : M.ab = N.ab) (h7 : M.S = N.S) (h8 : M.W = N.W) (h9 : M.C = N.C) (h10 : M.A = N.A) (h11 : M.wa = N.wa) (h12 : M.ls = N.ls) (h13 : M.ha = N.ha) (h14 : M.mn = N.mn) (h15 : M.mx = N.mx) (h16 : M.le = N.le) : M = N := by
  obtain ⟨_, _, _, _, _, _, _, _, _, _, _, _, _, _, _, _⟩ := M
  obtain ⟨_, _, _, _, _, _, _, _, _, _, _, _, _, _, _, _⟩ := N
  dsimp only at *
  subst h1 h2 h3 h4 h5 h6 h7 h8 h9 h10 h11 h12 h13 h14 h15 h16
  rfl
theorem along_at {M : Ml} (h : FitM M) : alongP Wrd ⟨cont M, 0, false⟩ (mz M.kd) = (M, ⟨cont M, (cont M).length, false⟩) := by
  obtain ⟨xs, hxs⟩ : ∃ xs, xs = cont M := ⟨_, rfl⟩
  rw [← hxs]
  have hF := h.fit
  have g1 := hF.fr
  have g2 := hF.tu
  have g3 := hF.ep
  have g4 := hF.nu
  have g5 := hF.ab
  have g6 := hF.lsn
  have g7 := hF.len
  have g8 := hF.ed1
  have e0 : xs.drop 0 = be M.fr.toNat 1 ++ (be M.tu.toNat 1 ++ (be M.ep.toNat 2 ++ (be M.nu.toNat 3 ++ ((if M.kd = 3 ∨ M.kd = 4 then be M.ab.toNat 3 else []) ++ body M)))) := by
    rw [List.drop_zero, hxs]
    unfold cont
    simp only [List.append_assoc]
  obtain ⟨a1, e1⟩ := rn_at e0 (by show M.fr.toNat < 256; omega) (by omega)
  obtain ⟨a2, e2⟩ := rn_at e1 (by show M.tu.toNat < 256; omega) (by omega)
  obtain ⟨a3, e3⟩ := rn_at e2 (by show M.ep.toNat < 65536; omega) (by omega)
  obtain ⟨a4, e4⟩ := rn_at e3 (by show M.nu.toNat < 16777216; omega) (by omega)
  simp only [Nat.zero_add, Nat.reduceAdd] at a1 a2 a3 a4 e1 e2 e3 e4
  have hh : headP Wrd ⟨xs, 0, false⟩ (mz M.kd) = ((M.fr.toNat, M.tu.toNat, M.ep.toNat, M.nu.toNat), ⟨xs, 7, false⟩) := by
    show ((( (rnR ⟨xs, 0, false⟩ 1).1, (rnR (rnR ⟨xs, 0, false⟩ 1).2 1).1, (rnR (rnR (rnR ⟨xs, 0, false⟩ 1).2 1).2 2).1, (rnR (rnR (rnR (rnR ⟨xs, 0, false⟩ 1).2 1).2 2).2 3).1), (rnR (rnR (rnR (rnR ⟨xs, 0, false⟩ 1).2 1).2 2).2 3).2) : (Nat × Nat × Nat × Nat) × Rst) = _
    rw [a1]; dsimp only
    rw [a2]; dsimp only
    rw [a3]; dsimp only
    rw [a4]
  have hlen : 7 ≤ xs.length := by
    have := drop_len e3 (by rw [be_length]; omega)
    rw [be_length] at this
    exact this
  have cfr : ((M.fr.toNat : Nat) : Int) = M.fr := by omega
  have ctu : ((M.tu.toNat : Nat) : Int) = M.tu := by omega
  have cep : ((M.ep.toNat : Nat) : Int) = M.ep := by omega
  have cnu : ((M.nu.toNat : Nat) : Int) = M.nu := by omega
  have cab : ((M.ab.toNat : Nat) : Int) = M.ab := by omega
  have cmn : (((M.mn + 2147483648).toNat : Nat) : Int) - 2147483648 = M.mn := by omega
  have cmx : (((M.mx + 2147483648).toNat : Nat) : Int) - 2147483648 = M.mx := by omega
  have hkd := hF.kd
  have nf' : ∀ (s' : Rst) V z, Wrd.nf s' V z = rnR s' z := fun _ _ _ => rfl
  have ff' : ∀ (s' : Rst) b, Wrd.ff s' b = rfR s' := fun _ _ => rfl
  have df' : ∀ (s' : Rst) d, Wrd.df s' d = rdR s' := fun _ _ => rfl
  have hc : M.kd = 1 ∨ M.kd = 2 ∨ M.kd = 3 ∨ M.kd = 4 ∨ M.kd = 5 ∨ M.kd = 6 := by omega
  have bS := dfx_len h.S
  unfold alongP kindP hedP
  rw [hh]
  clear hh a1 a2 a3 a4 e0 e1 e2 e3
  have ek : (mz M.kd).kd = M.kd := rfl
  rw [ek]
  unfold body at e4
  rcases hc with e | e | e | e | e | e
  · rw [if_neg (by omega), if_pos e, List.nil_append] at e4
    rw [if_pos e]
    obtain ⟨d1, e5⟩ := rd_at hF.dS h.S e4
    obtain ⟨d2, e6⟩ := rd_at (r := []) hF.dW h.W (by rw [e5, List.append_nil])
    have hp := drop_len (r := []) (p := 7 + (4 + 4 * M.S.n)) (a := dfx M.W) (by rw [e5, List.append_nil]) (by unfold dfx; rw [dtx_length]; omega)
    have hl2 : (dfx M.W).length = 4 + 4 * M.W.n := by unfold dfx; rw [dtx_length]
    have hfin := end_at e6 (by omega)
    simp only [df', d1, d2]
    refine Prod.ext (ml_ext rfl cfr ctu cep cnu (hF.ab0 (by omega) (by omega)).symm rfl rfl (hF.ca0 (by omega) (by omega)).1.symm (hF.ca0 (by omega) (by omega)).2.symm (hF.ls0 (by omega)).1.symm (hF.ls0 (by omega)).2.symm (hF.le0 (by omega)).1.symm (hF.ed (hF.le0 (by omega)).1).1.symm (hF.ed (hF.le0 (by omega)).1).2.symm (hF.le0 (by omega)).2.symm) (by rw [← hfin])
  · rw [if_neg (by omega), if_neg (by omega), if_pos (by omega), List.nil_append] at e4
    rw [if_neg (by omega), if_pos e]
    obtain ⟨d1, e5⟩ := rd_at hF.dC h.C e4
    obtain ⟨d2, e6⟩ := rd_at (r := []) hF.dA h.A (by rw [e5, List.append_nil])
    have hp := drop_len (r := []) (p := 7 + (4 + 4 * M.C.n)) (a := dfx M.A) (by rw [e5, List.append_nil]) (by unfold dfx; rw [dtx_length]; omega)
    have hl2 : (dfx M.A).length = 4 + 4 * M.A.n := by unfold dfx; rw [dtx_length]
    have hfin := end_at e6 (by omega)
    simp only [df', d1, d2]
    refine Prod.ext (ml_ext rfl cfr ctu cep cnu (hF.ab0 (by omega) (by omega)).symm (hF.sw0 (by omega)).1.symm (hF.sw0 (by omega)).2.symm rfl rfl (hF.ls0 (by omega)).1.symm (hF.ls0 (by omega)).2.symm (hF.le0 (by omega)).1.symm (hF.ed (hF.le0 (by omega)).1).1.symm (hF.ed (hF.le0 (by omega)).1).2.symm (hF.le0 (by omega)).2.symm) (by rw [← hfin])
  · rw [if_pos (by omega), if_neg (by omega), if_pos (by omega)] at e4
    rw [if_neg (by omega), if_neg (by omega), if_pos e]
    obtain ⟨d0, e4⟩ := rn_at e4 (by show M.ab.toNat < 16777216; omega) (by omega)
    obtain ⟨d1, e5⟩ := rd_at hF.dC h.C e4
    obtain ⟨d2, e6⟩ := rd_at (r := []) hF.dA h.A (by rw [e5, List.append_nil])
    have hp := drop_len (r := []) (p := 7 + 3 + (4 + 4 * M.C.n)) (a := dfx M.A) (by rw [e5, List.append_nil]) (by unfold dfx; rw [dtx_length]; omega)
    have hl2 : (dfx M.A).length = 4 + 4 * M.A.n := by unfold dfx; rw [dtx_length]
    have hfin := end_at e6 (by omega)
    simp only [nf', df', d0, d1, d2]
    refine Prod.ext (ml_ext rfl cfr ctu cep cnu cab (hF.sw0 (by omega)).1.symm (hF.sw0 (by omega)).2.symm rfl rfl (hF.ls0 (by omega)).1.symm (hF.ls0 (by omega)).2.symm (hF.le0 (by omega)).1.symm (hF.ed (hF.le0 (by omega)).1).1.symm (hF.ed (hF.le0 (by omega)).1).2.symm (hF.le0 (by omega)).2.symm) (by rw [← hfin])
  · rw [if_pos (by omega), if_neg (by omega), if_neg (by omega), if_neg (by omega), if_neg (by omega)] at e4
    rw [if_neg (by omega), if_neg (by omega), if_neg (by omega), if_pos e]
    have hp := drop_len e4 (by rw [be_length]; omega)
    rw [be_length] at hp
    obtain ⟨d0, e6⟩ := rn_at e4 (by show M.ab.toNat < 16777216; omega) (by omega)
    have hfin := end_at e6 hp
    simp only [nf', d0]
    refine Prod.ext (ml_ext rfl cfr ctu cep cnu cab (hF.sw0 (by omega)).1.symm (hF.sw0 (by omega)).2.symm (hF.ca0 (by omega) (by omega)).1.symm (hF.ca0 (by omega) (by omega)).2.symm (hF.ls0 (by omega)).1.symm (hF.ls0 (by omega)).2.symm (hF.le0 (by omega)).1.symm (hF.ed (hF.le0 (by omega)).1).1.symm (hF.ed (hF.le0 (by omega)).1).2.symm (hF.le0 (by omega)).2.symm) (by rw [← hfin])
  · rw [if_neg (by omega), if_neg (by omega), if_neg (by omega), if_pos e, List.nil_append] at e4
    simp only [List.append_assoc] at e4
    rw [if_neg (by omega), if_neg (by omega), if_neg (by omega), if_neg (by omega), if_pos e]
    obtain ⟨d0, e4⟩ := rf_at e4
    have hp := drop_len e4 (by rw [be_length]; omega)
    rw [be_length] at hp
    obtain ⟨d1, e5⟩ := rn_at e4 (by show M.ls.length < 256; omega) (by omega)
    obtain ⟨d2, e6⟩ := lis_at (r := []) hF.ls (by rw [e5, List.append_nil]) M.ls.length (Nat.le_refl _)
    have hl5 := congrArg List.length e5
    rw [List.length_drop, lsx_len5] at hl5
    rw [List.drop_length, List.append_nil, show lsx [] = [] from rfl] at e6
    have hfin := end_at e6 (by omega)
    rw [List.take_length] at d2
    simp only [nf', ff', d0, d1, show (mz M.kd).ls = [] from rfl, d2]
    refine Prod.ext (ml_ext rfl cfr ctu cep cnu (hF.ab0 (by omega) (by omega)).symm (hF.sw0 (by omega)).1.symm (hF.sw0 (by omega)).2.symm (hF.ca0 (by omega) (by omega)).1.symm (hF.ca0 (by omega) (by omega)).2.symm rfl rfl (hF.le0 (by omega)).1.symm (hF.ed (hF.le0 (by omega)).1).1.symm (hF.ed (hF.le0 (by omega)).1).2.symm (hF.le0 (by omega)).2.symm) (by rw [← hfin])
  · rw [if_neg (by omega), if_neg (by omega), if_neg (by omega), if_neg (by omega), if_pos e, List.nil_append] at e4
    simp only [List.append_assoc] at e4
    rw [if_neg (by omega), if_neg (by omega), if_neg (by omega), if_neg (by omega), if_neg (by omega), if_pos e]
    obtain ⟨d0, e4⟩ := rf_at e4
    obtain ⟨d1, e4⟩ := rn_at e4 (by show (M.mn + 2147483648).toNat < 4294967296; omega) (by omega)
    obtain ⟨d2, e4⟩ := rn_at e4 (by show (M.mx + 2147483648).toNat < 4294967296; omega) (by omega)
    have hp := drop_len e4 (by rw [be_length]; omega)
    rw [be_length] at hp
    obtain ⟨d3, e5⟩ := rn_at e4 (by show M.le.length < 256; omega) (by omega)
    obtain ⟨d4, e6⟩ := tgs_at (r := []) hF.le (by rw [e5, List.append_nil]) M.le.length (Nat.le_refl _)
    have hl5 := congrArg List.length e5
    rw [List.length_drop, tgx_len4] at hl5
    rw [List.drop_length, List.append_nil, show tgx [] = [] from rfl] at e6
    have hfin := end_at e6 (by omega)
    rw [List.take_length] at d4
    have e0 : ∀ (s' : Rst) b p q, edgP Wrd s' b p q = (((rfR s').1, (rnR (rfR s').2 4).1, (rnR (rnR (rfR s').2 4).2 4).1), (rnR (rnR (rfR s').2 4).2 4).2) := fun _ _ _ _ => rfl
    simp only [nf', e0, d0, d1, d2, d3, show (mz M.kd).le = [] from rfl, d4]
    refine Prod.ext (ml_ext rfl cfr ctu cep cnu (hF.ab0 (by omega) (by omega)).symm (hF.sw0 (by omega)).1.symm (hF.sw0 (by omega)).2.symm (hF.ca0 (by omega) (by omega)).1.symm (hF.ca0 (by omega) (by omega)).2.symm (hF.ls0 (by omega)).1.symm (hF.ls0 (by omega)).2.symm rfl cmn cmx rfl) (by rw [← hfin])
open Go.RowKit Go.Shelf Go.Lib
set_option maxRecDepth 100000
def rnD (xs : List Nat) (s : Option Nat) (z : Nat) : Nat × Option Nat := ((Go.Proofs.YtbankbehfjogpaaGreat.rn xs s z).2, (Go.Proofs.YtbankbehfjogpaaGreat.rn xs s z).1)
def rfD (xs : List Nat) (s : Option Nat) : Bool × Option Nat := (decide ((rnD xs s 1).1 = 1), (rnD xs s 1).2)
def rdD (xs : List Nat) (s : Option Nat) : Ddy × Option Nat :=
  match s with
  | some q => if dE (xs.drop q) = 0 then (⟨decide (sgOf (xs.drop q) = 1), cntOf (xs.drop q), limOf (xs.drop q), expOf (xs.drop q)⟩, some (q + (4 + 4 * cntOf (xs.drop q)))) else (d0z, none)
  | none => (d0z, none)
def Wdc (xs : List Nat) : Walker (Option Nat) := ⟨fun s _ z => rnD xs s z, fun s _ => rfD xs s, fun s _ => rdD xs s⟩
theorem rn_atD {xs r : List Nat} {p V z : Nat} (h : xs.drop p = be V z ++ r) (hV : V < 256 ^ z) (hz : 0 < z) : rnD xs (some (p)) z = (V, some (p + z)) ∧ xs.drop (p + z) = r := by
  have hd := drop_next h
  have hl := drop_len h (by rw [be_length]; exact hz)
  rw [be_length] at hd hl
  refine ⟨?_, hd⟩
  have hr : Go.Proofs.YtbankbehfjogpaaGreat.rn xs (some p) z = (some (p + z), bn ((xs.drop p).take z)) := by unfold Go.Proofs.YtbankbehfjogpaaGreat.rn; simp only [if_pos hl]
  unfold rnD
  rw [hr, h, List.take_append_of_le_length (by rw [be_length]; exact Nat.le_refl _), List.take_of_length_le (by rw [be_length]; exact Nat.le_refl _), bn_be hV]
theorem rf_atD {xs r : List Nat} {p : Nat} {b : Bool} (h : xs.drop p = be (flg b) 1 ++ r) : rfD xs (some (p)) = (b, some (p + 1)) ∧ xs.drop (p + 1) = r := by
  obtain ⟨h1, h2⟩ := rn_atD h (flg_lt b) (by omega)
  refine ⟨?_, h2⟩
  unfold rfD
  rw [h1]
  cases b <;> rfl
theorem rd_atD {xs r : List Nat} {p : Nat} {D : Ddy} (hf : D.Fit) (hm : DMay D.s D.n D.f (D.x : Int)) (h : xs.drop p = dfx D ++ r) : rdD xs (some (p)) = (D, some (p + (4 + 4 * D.n))) ∧ xs.drop (p + (4 + 4 * D.n)) = r := by
  obtain ⟨h1, h2, h3, h4, h5⟩ := dyad_at hf hm h
  have hd := drop_next h
  have hl : (dfx D).length = 4 + 4 * D.n := by unfold dfx; rw [dtx_length]
  rw [hl] at hd
  refine ⟨?_, hd⟩
  have hr : rdD xs (some p) = (⟨decide (sgOf (xs.drop p) = 1), cntOf (xs.drop p), limOf (xs.drop p), expOf (xs.drop p)⟩, some (p + (4 + 4 * cntOf (xs.drop p)))) := if_pos h1
  rw [hr, h2, h3, h4, h5]
theorem lis_atD {xs r : List Nat} {p : Nat} {l : List De} (hl : LFit l) (h : xs.drop p = lsx l ++ r) : ∀ k, k ≤ l.length → lisP (Wdc xs) [] (some (p)) k = (l.take k, (some (p + 5 * k))) ∧ xs.drop (p + 5 * k) = lsx (l.drop k) ++ r
  | 0, _ => ⟨rfl, h⟩
  | k + 1, hk => by
    obtain ⟨i1, i2⟩ := lis_atD hl h k (by omega)
    have hd := hl _ (List.getElem_mem (show k < l.length by omega))
    rw [List.drop_eq_getElem_cons (show k < l.length by omega)] at i2
    generalize hde : l[k]'(by omega) = d at hd i2
    have i3 : xs.drop (p + 5 * k) = be d.1.toNat 1 ++ (be d.2.toNat 4 ++ (lsx (l.drop (k + 1)) ++ r)) := by
      rw [i2]
      simp [lsx]
    obtain ⟨a1, a2⟩ := rn_atD i3 (by show d.1.toNat < 256; omega) (by omega)
    obtain ⟨b1, b2⟩ := rn_atD a2 (by show d.2.toNat < 4294967296; omega) (by omega)
    have e5 : p + 5 * k + 1 + 4 = p + 5 * (k + 1) := by omega
    rw [e5] at b1 b2
    refine ⟨?_, b2⟩
    show ((lisP (Wdc xs) [] (some (p)) k).1 ++ [(((rnD xs (lisP (Wdc xs) [] (some (p)) k).2 1).1 : Int), ((rnD xs (rnD xs (lisP (Wdc xs) [] (some (p)) k).2 1).2 4).1 : Int))], (rnD xs (rnD xs (lisP (Wdc xs) [] (some (p)) k).2 1).2 4).2) = _
    rw [i1]
    dsimp only
    rw [a1]
    dsimp only
    rw [b1]
    dsimp only
    rw [List.take_add_one, List.getElem?_eq_getElem (show k < l.length by omega), hde]
    have q1 : ((d.1.toNat : Nat) : Int) = d.1 := by omega
    have q2 : ((d.2.toNat : Nat) : Int) = d.2 := by omega
    rw [q1, q2]
    rfl
theorem tgs_atD {xs r : List Nat} {p : Nat} {l : List Nat} (hl : ∀ t ∈ l, t < 4294967296) (h : xs.drop p = tgx l ++ r) : ∀ k, k ≤ l.length → tgsP (Wdc xs) [] (some (p)) k = (l.take k, (some (p + 4 * k))) ∧ xs.drop (p + 4 * k) = tgx (l.drop k) ++ r
  | 0, _ => ⟨rfl, h⟩
  | k + 1, hk => by
    obtain ⟨i1, i2⟩ := tgs_atD hl h k (by omega)
    have hd := hl _ (List.getElem_mem (show k < l.length by omega))
    rw [List.drop_eq_getElem_cons (show k < l.length by omega)] at i2
    generalize hde : l[k]'(by omega) = d at hd i2
    have i3 : xs.drop (p + 4 * k) = be d 4 ++ (tgx (l.drop (k + 1)) ++ r) := by
      rw [i2]
      simp [tgx]
    obtain ⟨a1, a2⟩ := rn_atD i3 (by show d < 4294967296; omega) (by omega)
    have e5 : p + 4 * k + 4 = p + 4 * (k + 1) := by omega
    rw [e5] at a1 a2
    refine ⟨?_, a2⟩
    show ((tgsP (Wdc xs) [] (some (p)) k).1 ++ [(rnD xs (tgsP (Wdc xs) [] (some (p)) k).2 4).1], (rnD xs (tgsP (Wdc xs) [] (some (p)) k).2 4).2) = _
    rw [i1]
    dsimp only
    rw [a1]
    dsimp only
    rw [List.take_add_one, List.getElem?_eq_getElem (show k < l.length by omega), hde]
    rfl
theorem along_atD {M : Ml} (h : FitM M) : alongP (Wdc (cont M)) (some 0) (mz M.kd) = (M, some (cont M).length) := by
  obtain ⟨xs, hxs⟩ : ∃ xs, xs = cont M := ⟨_, rfl⟩
  rw [← hxs]
  have hF := h.fit
  have g1 := hF.fr
  have g2 := hF.tu
  have g3 := hF.ep
  have g4 := hF.nu
  have g5 := hF.ab
  have g6 := hF.lsn
  have g7 := hF.len
  have g8 := hF.ed1
  have e0 : xs.drop 0 = be M.fr.toNat 1 ++ (be M.tu.toNat 1 ++ (be M.ep.toNat 2 ++ (be M.nu.toNat 3 ++ ((if M.kd = 3 ∨ M.kd = 4 then be M.ab.toNat 3 else []) ++ body M)))) := by
    rw [List.drop_zero, hxs]
    unfold cont
    simp only [List.append_assoc]
  obtain ⟨a1, e1⟩ := rn_atD e0 (by show M.fr.toNat < 256; omega) (by omega)
  obtain ⟨a2, e2⟩ := rn_atD e1 (by show M.tu.toNat < 256; omega) (by omega)
  obtain ⟨a3, e3⟩ := rn_atD e2 (by show M.ep.toNat < 65536; omega) (by omega)
  obtain ⟨a4, e4⟩ := rn_atD e3 (by show M.nu.toNat < 16777216; omega) (by omega)
  simp only [Nat.zero_add, Nat.reduceAdd] at a1 a2 a3 a4 e1 e2 e3 e4
  have hh : headP (Wdc xs) (some (0)) (mz M.kd) = ((M.fr.toNat, M.tu.toNat, M.ep.toNat, M.nu.toNat), (some (7))) := by
    show ((( (rnD xs (some (0)) 1).1, (rnD xs (rnD xs (some (0)) 1).2 1).1, (rnD xs (rnD xs (rnD xs (some (0)) 1).2 1).2 2).1, (rnD xs (rnD xs (rnD xs (rnD xs (some (0)) 1).2 1).2 2).2 3).1), (rnD xs (rnD xs (rnD xs (rnD xs (some (0)) 1).2 1).2 2).2 3).2) : (Nat × Nat × Nat × Nat) × Option Nat) = _
    rw [a1]; dsimp only
    rw [a2]; dsimp only
    rw [a3]; dsimp only
    rw [a4]
  have hlen : 7 ≤ xs.length := by
    have := drop_len e3 (by rw [be_length]; omega)
    rw [be_length] at this
    exact this
  have cfr : ((M.fr.toNat : Nat) : Int) = M.fr := by omega
  have ctu : ((M.tu.toNat : Nat) : Int) = M.tu := by omega
  have cep : ((M.ep.toNat : Nat) : Int) = M.ep := by omega
  have cnu : ((M.nu.toNat : Nat) : Int) = M.nu := by omega
  have cab : ((M.ab.toNat : Nat) : Int) = M.ab := by omega
  have cmn : (((M.mn + 2147483648).toNat : Nat) : Int) - 2147483648 = M.mn := by omega
  have cmx : (((M.mx + 2147483648).toNat : Nat) : Int) - 2147483648 = M.mx := by omega
  have hkd := hF.kd
  have nf' : ∀ (s' : Option Nat) V z, (Wdc xs).nf s' V z = rnD xs s' z := fun _ _ _ => rfl
  have ff' : ∀ (s' : Option Nat) b, (Wdc xs).ff s' b = rfD xs s' := fun _ _ => rfl
  have df' : ∀ (s' : Option Nat) d, (Wdc xs).df s' d = rdD xs s' := fun _ _ => rfl
  have hc : M.kd = 1 ∨ M.kd = 2 ∨ M.kd = 3 ∨ M.kd = 4 ∨ M.kd = 5 ∨ M.kd = 6 := by omega
  have bS := dfx_len h.S
  unfold alongP kindP hedP
  rw [hh]
  clear hh a1 a2 a3 a4 e0 e1 e2 e3
  have ek : (mz M.kd).kd = M.kd := rfl
  rw [ek]
  unfold body at e4
  rcases hc with e | e | e | e | e | e
  · rw [if_neg (by omega), if_pos e, List.nil_append] at e4
    rw [if_pos e]
    obtain ⟨d1, e5⟩ := rd_atD hF.dS h.S e4
    obtain ⟨d2, e6⟩ := rd_atD (r := []) hF.dW h.W (by rw [e5, List.append_nil])
    have hp := drop_len (r := []) (p := 7 + (4 + 4 * M.S.n)) (a := dfx M.W) (by rw [e5, List.append_nil]) (by unfold dfx; rw [dtx_length]; omega)
    have hl2 : (dfx M.W).length = 4 + 4 * M.W.n := by unfold dfx; rw [dtx_length]
    have hfin := end_at e6 (by omega)
    simp only [df', d1, d2]
    refine Prod.ext (ml_ext rfl cfr ctu cep cnu (hF.ab0 (by omega) (by omega)).symm rfl rfl (hF.ca0 (by omega) (by omega)).1.symm (hF.ca0 (by omega) (by omega)).2.symm (hF.ls0 (by omega)).1.symm (hF.ls0 (by omega)).2.symm (hF.le0 (by omega)).1.symm (hF.ed (hF.le0 (by omega)).1).1.symm (hF.ed (hF.le0 (by omega)).1).2.symm (hF.le0 (by omega)).2.symm) (by rw [← hfin])
  · rw [if_neg (by omega), if_neg (by omega), if_pos (by omega), List.nil_append] at e4
    rw [if_neg (by omega), if_pos e]
    obtain ⟨d1, e5⟩ := rd_atD hF.dC h.C e4
    obtain ⟨d2, e6⟩ := rd_atD (r := []) hF.dA h.A (by rw [e5, List.append_nil])
    have hp := drop_len (r := []) (p := 7 + (4 + 4 * M.C.n)) (a := dfx M.A) (by rw [e5, List.append_nil]) (by unfold dfx; rw [dtx_length]; omega)
    have hl2 : (dfx M.A).length = 4 + 4 * M.A.n := by unfold dfx; rw [dtx_length]
    have hfin := end_at e6 (by omega)
    simp only [df', d1, d2]
    refine Prod.ext (ml_ext rfl cfr ctu cep cnu (hF.ab0 (by omega) (by omega)).symm (hF.sw0 (by omega)).1.symm (hF.sw0 (by omega)).2.symm rfl rfl (hF.ls0 (by omega)).1.symm (hF.ls0 (by omega)).2.symm (hF.le0 (by omega)).1.symm (hF.ed (hF.le0 (by omega)).1).1.symm (hF.ed (hF.le0 (by omega)).1).2.symm (hF.le0 (by omega)).2.symm) (by rw [← hfin])
  · rw [if_pos (by omega), if_neg (by omega), if_pos (by omega)] at e4
    rw [if_neg (by omega), if_neg (by omega), if_pos e]
    obtain ⟨d0, e4⟩ := rn_atD e4 (by show M.ab.toNat < 16777216; omega) (by omega)
    obtain ⟨d1, e5⟩ := rd_atD hF.dC h.C e4
    obtain ⟨d2, e6⟩ := rd_atD (r := []) hF.dA h.A (by rw [e5, List.append_nil])
    have hp := drop_len (r := []) (p := 7 + 3 + (4 + 4 * M.C.n)) (a := dfx M.A) (by rw [e5, List.append_nil]) (by unfold dfx; rw [dtx_length]; omega)
    have hl2 : (dfx M.A).length = 4 + 4 * M.A.n := by unfold dfx; rw [dtx_length]
    have hfin := end_at e6 (by omega)
    simp only [nf', df', d0, d1, d2]
    refine Prod.ext (ml_ext rfl cfr ctu cep cnu cab (hF.sw0 (by omega)).1.symm (hF.sw0 (by omega)).2.symm rfl rfl (hF.ls0 (by omega)).1.symm (hF.ls0 (by omega)).2.symm (hF.le0 (by omega)).1.symm (hF.ed (hF.le0 (by omega)).1).1.symm (hF.ed (hF.le0 (by omega)).1).2.symm (hF.le0 (by omega)).2.symm) (by rw [← hfin])
  · rw [if_pos (by omega), if_neg (by omega), if_neg (by omega), if_neg (by omega), if_neg (by omega)] at e4
    rw [if_neg (by omega), if_neg (by omega), if_neg (by omega), if_pos e]
    have hp := drop_len e4 (by rw [be_length]; omega)
    rw [be_length] at hp
    obtain ⟨d0, e6⟩ := rn_atD e4 (by show M.ab.toNat < 16777216; omega) (by omega)
    have hfin := end_at e6 hp
    simp only [nf', d0]
    refine Prod.ext (ml_ext rfl cfr ctu cep cnu cab (hF.sw0 (by omega)).1.symm (hF.sw0 (by omega)).2.symm (hF.ca0 (by omega) (by omega)).1.symm (hF.ca0 (by omega) (by omega)).2.symm (hF.ls0 (by omega)).1.symm (hF.ls0 (by omega)).2.symm (hF.le0 (by omega)).1.symm (hF.ed (hF.le0 (by omega)).1).1.symm (hF.ed (hF.le0 (by omega)).1).2.symm (hF.le0 (by omega)).2.symm) (by rw [← hfin])
  · rw [if_neg (by omega), if_neg (by omega), if_neg (by omega), if_pos e, List.nil_append] at e4
    simp only [List.append_assoc] at e4
    rw [if_neg (by omega), if_neg (by omega), if_neg (by omega), if_neg (by omega), if_pos e]
    obtain ⟨d0, e4⟩ := rf_atD e4
    have hp := drop_len e4 (by rw [be_length]; omega)
    rw [be_length] at hp
    obtain ⟨d1, e5⟩ := rn_atD e4 (by show M.ls.length < 256; omega) (by omega)
    obtain ⟨d2, e6⟩ := lis_atD (r := []) hF.ls (by rw [e5, List.append_nil]) M.ls.length (Nat.le_refl _)
    have hl5 := congrArg List.length e5
    rw [List.length_drop, lsx_len5] at hl5
    rw [List.drop_length, List.append_nil, show lsx [] = [] from rfl] at e6
    have hfin := end_at e6 (by omega)
    rw [List.take_length] at d2
    simp only [nf', ff', d0, d1, show (mz M.kd).ls = [] from rfl, d2]
    refine Prod.ext (ml_ext rfl cfr ctu cep cnu (hF.ab0 (by omega) (by omega)).symm (hF.sw0 (by omega)).1.symm (hF.sw0 (by omega)).2.symm (hF.ca0 (by omega) (by omega)).1.symm (hF.ca0 (by omega) (by omega)).2.symm rfl rfl (hF.le0 (by omega)).1.symm (hF.ed (hF.le0 (by omega)).1).1.symm (hF.ed (hF.le0 (by omega)).1).2.symm (hF.le0 (by omega)).2.symm) (by rw [← hfin])
  · rw [if_neg (by omega), if_neg (by omega), if_neg (by omega), if_neg (by omega), if_pos e, List.nil_append] at e4
    simp only [List.append_assoc] at e4
    rw [if_neg (by omega), if_neg (by omega), if_neg (by omega), if_neg (by omega), if_neg (by omega), if_pos e]
    obtain ⟨d0, e4⟩ := rf_atD e4
    obtain ⟨d1, e4⟩ := rn_atD e4 (by show (M.mn + 2147483648).toNat < 4294967296; omega) (by omega)
    obtain ⟨d2, e4⟩ := rn_atD e4 (by show (M.mx + 2147483648).toNat < 4294967296; omega) (by omega)
    have hp := drop_len e4 (by rw [be_length]; omega)
    rw [be_length] at hp
    obtain ⟨d3, e5⟩ := rn_atD e4 (by show M.le.length < 256; omega) (by omega)
    obtain ⟨d4, e6⟩ := tgs_atD (r := []) hF.le (by rw [e5, List.append_nil]) M.le.length (Nat.le_refl _)
    have hl5 := congrArg List.length e5
    rw [List.length_drop, tgx_len4] at hl5
    rw [List.drop_length, List.append_nil, show tgx [] = [] from rfl] at e6
    have hfin := end_at e6 (by omega)
    rw [List.take_length] at d4
    have e0 : ∀ (s' : Option Nat) b p q, edgP (Wdc xs) s' b p q = (((rfD xs s').1, (rnD xs (rfD xs s').2 4).1, (rnD xs (rnD xs (rfD xs s').2 4).2 4).1), (rnD xs (rnD xs (rfD xs s').2 4).2 4).2) := fun _ _ _ _ => rfl
    simp only [nf', e0, d0, d1, d2, d3, show (mz M.kd).le = [] from rfl, d4]
    refine Prod.ext (ml_ext rfl cfr ctu cep cnu (hF.ab0 (by omega) (by omega)).symm (hF.sw0 (by omega)).1.symm (hF.sw0 (by omega)).2.symm (hF.ca0 (by omega) (by omega)).1.symm (hF.ca0 (by omega) (by omega)).2.symm (hF.ls0 (by omega)).1.symm (hF.ls0 (by omega)).2.symm rfl cmn cmx rfl) (by rw [← hfin])
end Go.Proofs.YtbankbehfjogpaaGreat
namespace Go.Proofs.YtbankbehfjogpaaGreat
open Go.RowKit
set_option maxRecDepth 100000
open Go.RowKit
theorem step_app_bytes {ops : Array Oper} {o : Oper} {a : Act} {K : Act → World → Prop} {Q : Exit → Act → World → Prop} {E : Prop} (hgd : o.guard = none) (s x : Operand)
    (ho : o.op = .call { callee := .builtin .append, args := #[s, x], argTypes := #[32, 32] }) {w : World} {B B' m c : Nat} {v : Value} {xs ys : List Nat} {A : Option Addr} (hs : a.eval s = v) (hx : a.eval x = .slice A m c)
    (hown : Ow w B v xs) (hB : B ≤ w.heap.size) (hy : By w B' A m c ys) (hm : 0 < m) (hn : xs.length + m ≤ 17592186044416)
    (h : ∀ v' w', Hid (Ow w' B v' (xs ++ ys)) → Hid (Below B w w') → K (a.put o.dst v') w') : if Region.wanted o (yielded ops a.tmps) = true then Oper.wp Tryz.prog o a w K Q else E := by
  obtain ⟨i, hi, hz, hsz, hby⟩ := info_one u8_info
  obtain ⟨b, off, rfl, -, -⟩ := hy.at_ hm
  refine step_append_lies w hgd s x 32 ho B 5 i (.int .u8 0) 1 1 (by kernel_rfl) hi hz hsz hby rfl (by decide) v xs.length (vals xs) hs hown.1 ⟨b, off, none⟩ m c (vals ys) hx (by rw [vals_length, hy.len, Nat.mul_one]) (hy.cells _ rfl) (fun u hu => vals_one hu) hm (by unfold maxLen; omega) (by omega) hB _ rfl ?_
  intro g cap w' h1 h2 h3 h4
  refine h _ w' (hid ⟨?_, ?_, ?_⟩) (hid ((Below.refl _ _).grown h2 hB ?_))
  · rw [List.length_append, hy.len, vals_append]
    exact h1
  · intro y hy2
    rcases List.mem_append.1 hy2 with h1 | h1
    · exact hown.2.1 y h1
    · exact hy.lt y h1
  · rw [List.length_append, hy.len]
    omega
  · intro k hk
    rcases hown.1 with ⟨_, ⟨rfl, _⟩ | ⟨g', cap', cur, rfl, hg, _⟩⟩
    · cases hk
    · injection hk with hk
      subst hk
      exact hg
open Go.RowKit Go.Shelf Go.Lib
set_option maxRecDepth 100000
def hdr (m : Md) : List Nat := be m.fr.toNat 1 ++ be m.tu.toNat 1 ++ be m.ep.toNat 2 ++ be m.nu.toNat 3
def DgE (V z : Nat) (w : World) (e : Ending) (w' : World) : Prop := ∃ A c, e = .returned (.slice A z c) ∧ Hid (Ow w' w.heap.size (.slice A z c) (be V z)) ∧ Hid (By w' w'.heap.size A z c (be V z)) ∧ Hid (Below w.heap.size w w')
theorem dg_any (V z : Nat) (hz : z ≤ 8) (hV : V ≤ 18446744073709551615) (w : World) : Calls Tryz.prog 97 #[.int .u64 (V : Int), .int .i64 (z : Int)] w (DgE V z w) := rDigits_any hz hV
def Nrow (w : World) (g : Nat) (t : TypeId) (xs : List Value) : Prop := w.heap[g]? = some (.cells xs.toArray t (0, 0))
theorem Nrow.cell {w : World} {g : Nat} {t : TypeId} {xs : List Value} (h : Nrow w g t xs) (j : Nat) : w.cell? ⟨g, j, none⟩ = xs[j]? := by
  rw [cell_of_row w g j _ _ (0, 0) h]
  simp
theorem Nrow.below {w w' : World} {B g : Nat} {t : TypeId} {xs : List Value} (h : Nrow w g t xs) (hb : Below B w w') (hg : g < B) : Nrow w' g t xs := (hb.block g hg).trans h
theorem nat_of {x : Int} (h : 0 ≤ x) : ∃ n : Nat, x = (n : Int) := ⟨x.toNat, by omega⟩
end Go.Proofs.YtbankbehfjogpaaGreat
namespace Go.Proofs.YtbankbehfjogpaaGreat
set_option maxRecDepth 100000
open Go.RowKit
set_option maxRecDepth 100000 in
set_option maxHeartbeats 6400000 in
theorem rTextO_false {w : World} {n c X : Nat} {A : Option Addr} {f : Nat → Nat} (hr : Rd w w.heap.size A n c f) (hn : n ≤ 40) (hX : X ≤ 1024) :
    Calls Tryz.prog 98 #[.agg #[.bool false, .slice A n c, .int .i64 (X : Int)]] w fun e w' => ∃ A' n' c', e = .returned (.slice A' n' c') ∧ Hid (n' = 4 + 4 * n) ∧ Hid (Ow w' w.heap.size (.slice A' n' c') (dtx false n f X)) ∧ Hid (By w' w'.heap.size A' n' c' (dtx false n f X)) ∧ Hid (Below w.heap.size w w') := by
  obtain ⟨W, hW⟩ : ∃ W, W = w.alloc (.cells #[.bool false, .slice A n c, .int .i64 (X : Int)] 24) := ⟨_, rfl⟩
  have B0 := hid (show Below w.heap.size w W from hW ▸ (Below.refl w.heap.size w).alloc (Nat.le_refl _) _)
  have P0 : Hid (Dbox W w.heap.size false (.slice A n c) (X : Int)) := hid (hW ▸ heap_alloc_new w _)
  have R0 := hid ((hr.below B0.out).mono B0.out.size)
  have HW := hid hW
  have hcap := hr.cap
  have b0 := P0.out.c0
  have b1 := P0.out.c1
  have b2 := P0.out.c2
  have hlt := P0.out.lt
  have hwX : IntKind.u64.wrap (X : Int) = (X : Int) := by rw [IntKind.wrap_u64]; omega
  have hwn : IntKind.u64.wrap (n : Int) = (n : Int) := by rw [IntKind.wrap_u64]; omega
  have C1 : Hid (∀ w, Calls Tryz.prog 97 #[.int .u64 0, .int .i64 1] w fun e w' => ∃ A c, e = .returned (.slice A 1 c) ∧ Hid (Ow w' w.heap.size (.slice A 1 c) (be 0 1)) ∧ Hid (By w' w'.heap.size A 1 c (be 0 1)) ∧ Hid (Below w.heap.size w w')) := hid (fun w => rDigits_any (V := 0) (z := 1) (by omega) (by omega))
  have C2 : Hid (∀ w, Calls Tryz.prog 97 #[.int .u64 (X : Int), .int .i64 2] w fun e w' => ∃ A c, e = .returned (.slice A 2 c) ∧ Hid (Ow w' w.heap.size (.slice A 2 c) (be X 2)) ∧ Hid (By w' w'.heap.size A 2 c (be X 2)) ∧ Hid (Below w.heap.size w w')) := hid (fun w => rDigits_any (z := 2) (by omega) (by omega))
  clear hW hr
  go_enter Tryz.func98, Tryz.ntmps98
  go_upto_region 1 with fail
  rw [← HW.out]
  clear HW
  go_upto_region 4 with fail
  go_cut [4] (fun v wx => ∃ A4 c4, v = .slice A4 3 c4 ∧ Hid (Ow wx W.heap.size (.slice A4 3 c4) (be 0 1 ++ be X 2)) ∧ Hid (Below W.heap.size W wx))
  case first =>
    have HBz := hid ((Below.refl W.heap.size W).drew)
    have CF : Hid (∀ w', Below W.heap.size W w' → w'.cell? ⟨w.heap.size, 2, none⟩ = some (.int .i64 (X : Int))) := hid (fun w' hb => (P0.out.below hb hlt).c2)
    have bd2 := CF.out _ HBz.out
    go_region_law (first
      | (refine step_app_bytes rfl (.tmp 9) (.tmp 13) rfl rfl rfl O9.out HBz.out.size Y3.out (by omega) (by simp [be_length]) ?_; intro v' w' hO' hb'; have HBz := hid (HBz.out.trans hb'.out))
      | (go_simp
         go_at_call_of 97 (Value.int IntKind.u64 0)
         with_reducible refine (C1.out _).mono ?_
         rintro e wa ⟨A9, c9, rfl, O9, Y9, hb9⟩
         replace O9 := hid (O9.out.mono HBz.out.size)
         have HBz := hid (HBz.out.trans (hb9.out.mono HBz.out.size))
         have bd2 := CF.out _ HBz.out
         try (replace Y3 := hid ((Y3.out.below hb9.out).mono hb9.out.size)))
      | (go_simp
         go_at_call_of 97 (Value.int IntKind.u64 (X : Int))
         with_reducible refine (C2.out _).mono ?_
         rintro e wb ⟨A3, c3, rfl, O3, Y3, hb3⟩
         have HBz := hid (HBz.out.trans (hb3.out.mono HBz.out.size))
         have bd2 := CF.out _ HBz.out
         try (replace O9 := hid (O9.out.below hb3.out (Nat.le_refl _)))))
    all_goals
      obtain ⟨A4, c4, hv, hY⟩ := hO'.out.shape
      rw [List.length_append, be_length, be_length] at hv
      subst hv
      go_wp2_with fail
      go_meet
      exact ⟨A4, c4, rfl, hO', HBz⟩
  obtain ⟨A4, c4, rfl, hO4, hb4⟩ := hcut
  have Q4 := hid (P0.out.below hb4.out hlt)
  have e0 := Q4.out.c0
  have e1 := Q4.out.c1
  have e2 := Q4.out.c2
  clear b0 b1 b2
  go_wp2_with fail
  refine (rDigits_any (V := n) (z := 1) (by omega) (by omega)).mono ?_
  rintro e w5 ⟨A5, c5, rfl, -, hY5, hb5⟩
  have K5 := hid (hb4.out.trans (hb5.out.mono hb4.out.size))
  have hO5 := hid (hO4.out.below hb5.out (Nat.le_refl _))
  have Q5 := hid (P0.out.below K5.out hlt)
  have b0 := Q5.out.c0
  have b1 := Q5.out.c1
  have b2 := Q5.out.c2
  clear e0 e1 e2
  go_wp2_with (at_builtin; refine app_bytes rfl (.tmp 15) (.tmp 20) rfl rfl rfl hO5.out K5.out.size hY5.out (by simp [be_length]) ?_; intro v6 w6 hO6 hb6; have K6 := hid (K5.out.trans hb6.out); have Q6 := hid (P0.out.below K6.out hlt); have f0 := Q6.out.c0; have f1 := Q6.out.c1; have f2 := Q6.out.c2)
  go_loopw [4, 5] (fun a i wr => ∃ k : Nat, k ≤ n ∧ i = .int .i64 k ∧ Hid (Ow wr W.heap.size a (be 0 1 ++ be X 2 ++ be n 1 ++ lms f k)) ∧ Hid (Below W.heap.size W wr)) (fun _ i _ => n - (intOf i).toNat)
  case atStart => exact ⟨0, by omega, rfl, hid (by rw [show lms f 0 = [] from rfl, List.append_nil]; exact hO6.out), K6⟩
  case round =>
    obtain ⟨k, hk, rfl, hO, hb⟩ := hrel
    have Qr := hid (P0.out.below hb.out hlt)
    have c1 := Qr.out.c1
    clear b0 b1 b2 f0 f1 f2
    by_cases hcon : k < n
    · have hRr := R0.out.below hb.out
      obtain ⟨b, off, rfl, hbB, hc⟩ := hRr.at_ (by omega)
      have hcell := hc k hcon
      have hxl := R0.out.lt k
      have hnext : Hid (be 0 1 ++ be X 2 ++ be n 1 ++ lms f (k + 1) = be 0 1 ++ be X 2 ++ be n 1 ++ lms f k ++ be (f k) 4) := hid (List.append_assoc _ (lms f k) (be (f k) 4)).symm
      generalize f k = x at *
      have hlen : (be 0 1 ++ be X 2 ++ be n 1 ++ lms f k).length ≤ 1000 := by simp only [List.length_append, be_length, lms_length]; omega
      clear hc hRr
      go_wp2_with fail
      refine (rDigits_any (V := x) (z := 4) (by omega) (by omega)).mono ?_
      rintro e w7 ⟨A7, c7, rfl, -, hY7, hb7⟩
      have K7 := hid (hb.out.trans (hb7.out.mono hb.out.size))
      have hO7 := hid (hO.out.below hb7.out (Nat.le_refl _))
      go_wp2_with (at_builtin; refine app_bytes rfl (.tmp 29) (.tmp 36) rfl rfl rfl hO7.out K7.out.size hY7.out (by omega) ?_; intro v8 w8 hO8 hb8)
      go_roundw
      case rel => exact ⟨k + 1, by omega, by go_num, hid (by rw [hnext.out]; exact hO8.out), hid (K7.out.trans hb8.out)⟩
      case measure => simp [intOf]; omega
    · obtain rfl : k = n := by omega
      obtain ⟨A8, c8, hv, hY⟩ := hO.out.shape
      have hl : (be 0 1 ++ be X 2 ++ be k 1 ++ lms f k).length = 4 + 4 * k := by simp only [List.length_append, be_length, lms_length]
      rw [hl] at hv hY
      subst hv
      have HY := hid hY
      have HOO := hid (hO.out.mono B0.out.size)
      clear hY
      go_wp2
      go_ret
      exact ⟨A8, _, c8, rfl, rfl, HOO, HY, hid (B0.out.trans (hb.out.mono B0.out.size))⟩
set_option maxRecDepth 100000 in
set_option maxHeartbeats 6400000 in
theorem rTextO_true {w : World} {n c X : Nat} {A : Option Addr} {f : Nat → Nat} (hr : Rd w w.heap.size A n c f) (hn : n ≤ 40) (hX : X ≤ 1024) :
    Calls Tryz.prog 98 #[.agg #[.bool true, .slice A n c, .int .i64 (X : Int)]] w fun e w' => ∃ A' n' c', e = .returned (.slice A' n' c') ∧ Hid (n' = 4 + 4 * n) ∧ Hid (Ow w' w.heap.size (.slice A' n' c') (dtx true n f X)) ∧ Hid (By w' w'.heap.size A' n' c' (dtx true n f X)) ∧ Hid (Below w.heap.size w w') := by
  obtain ⟨W, hW⟩ : ∃ W, W = w.alloc (.cells #[.bool true, .slice A n c, .int .i64 (X : Int)] 24) := ⟨_, rfl⟩
  have B0 := hid (show Below w.heap.size w W from hW ▸ (Below.refl w.heap.size w).alloc (Nat.le_refl _) _)
  have P0 : Hid (Dbox W w.heap.size true (.slice A n c) (X : Int)) := hid (hW ▸ heap_alloc_new w _)
  have R0 := hid ((hr.below B0.out).mono B0.out.size)
  have HW := hid hW
  have hcap := hr.cap
  have b0 := P0.out.c0
  have b1 := P0.out.c1
  have b2 := P0.out.c2
  have hlt := P0.out.lt
  have hwX : IntKind.u64.wrap (X : Int) = (X : Int) := by rw [IntKind.wrap_u64]; omega
  have hwn : IntKind.u64.wrap (n : Int) = (n : Int) := by rw [IntKind.wrap_u64]; omega
  have C1 : Hid (∀ w, Calls Tryz.prog 97 #[.int .u64 1, .int .i64 1] w fun e w' => ∃ A c, e = .returned (.slice A 1 c) ∧ Hid (Ow w' w.heap.size (.slice A 1 c) (be 1 1)) ∧ Hid (By w' w'.heap.size A 1 c (be 1 1)) ∧ Hid (Below w.heap.size w w')) := hid (fun w => rDigits_any (V := 1) (z := 1) (by omega) (by omega))
  have C2 : Hid (∀ w, Calls Tryz.prog 97 #[.int .u64 (X : Int), .int .i64 2] w fun e w' => ∃ A c, e = .returned (.slice A 2 c) ∧ Hid (Ow w' w.heap.size (.slice A 2 c) (be X 2)) ∧ Hid (By w' w'.heap.size A 2 c (be X 2)) ∧ Hid (Below w.heap.size w w')) := hid (fun w => rDigits_any (z := 2) (by omega) (by omega))
  clear hW hr
  go_enter Tryz.func98, Tryz.ntmps98
  go_upto_region 1 with fail
  rw [← HW.out]
  clear HW
  go_upto_region 4 with fail
  go_cut [4] (fun v wx => ∃ A4 c4, v = .slice A4 3 c4 ∧ Hid (Ow wx W.heap.size (.slice A4 3 c4) (be 1 1 ++ be X 2)) ∧ Hid (Below W.heap.size W wx))
  case first =>
    have HBz := hid ((Below.refl W.heap.size W).drew)
    have CF : Hid (∀ w', Below W.heap.size W w' → w'.cell? ⟨w.heap.size, 2, none⟩ = some (.int .i64 (X : Int))) := hid (fun w' hb => (P0.out.below hb hlt).c2)
    have bd2 := CF.out _ HBz.out
    go_region_law (first
      | (refine step_app_bytes rfl (.tmp 9) (.tmp 13) rfl rfl rfl O9.out HBz.out.size Y3.out (by omega) (by simp [be_length]) ?_; intro v' w' hO' hb'; have HBz := hid (HBz.out.trans hb'.out))
      | (go_simp
         go_at_call_of 97 (Value.int IntKind.u64 1)
         with_reducible refine (C1.out _).mono ?_
         rintro e wa ⟨A9, c9, rfl, O9, Y9, hb9⟩
         replace O9 := hid (O9.out.mono HBz.out.size)
         have HBz := hid (HBz.out.trans (hb9.out.mono HBz.out.size))
         have bd2 := CF.out _ HBz.out
         try (replace Y3 := hid ((Y3.out.below hb9.out).mono hb9.out.size)))
      | (go_simp
         go_at_call_of 97 (Value.int IntKind.u64 (X : Int))
         with_reducible refine (C2.out _).mono ?_
         rintro e wb ⟨A3, c3, rfl, O3, Y3, hb3⟩
         have HBz := hid (HBz.out.trans (hb3.out.mono HBz.out.size))
         have bd2 := CF.out _ HBz.out
         try (replace O9 := hid (O9.out.below hb3.out (Nat.le_refl _)))))
    all_goals
      obtain ⟨A4, c4, hv, hY⟩ := hO'.out.shape
      rw [List.length_append, be_length, be_length] at hv
      subst hv
      go_wp2_with fail
      go_meet
      exact ⟨A4, c4, rfl, hO', HBz⟩
  obtain ⟨A4, c4, rfl, hO4, hb4⟩ := hcut
  have Q4 := hid (P0.out.below hb4.out hlt)
  have e0 := Q4.out.c0
  have e1 := Q4.out.c1
  have e2 := Q4.out.c2
  clear b0 b1 b2
  go_wp2_with fail
  refine (rDigits_any (V := n) (z := 1) (by omega) (by omega)).mono ?_
  rintro e w5 ⟨A5, c5, rfl, -, hY5, hb5⟩
  have K5 := hid (hb4.out.trans (hb5.out.mono hb4.out.size))
  have hO5 := hid (hO4.out.below hb5.out (Nat.le_refl _))
  have Q5 := hid (P0.out.below K5.out hlt)
  have b0 := Q5.out.c0
  have b1 := Q5.out.c1
  have b2 := Q5.out.c2
  clear e0 e1 e2
  go_wp2_with (at_builtin; refine app_bytes rfl (.tmp 15) (.tmp 20) rfl rfl rfl hO5.out K5.out.size hY5.out (by simp [be_length]) ?_; intro v6 w6 hO6 hb6; have K6 := hid (K5.out.trans hb6.out); have Q6 := hid (P0.out.below K6.out hlt); have f0 := Q6.out.c0; have f1 := Q6.out.c1; have f2 := Q6.out.c2)
  go_loopw [4, 5] (fun a i wr => ∃ k : Nat, k ≤ n ∧ i = .int .i64 k ∧ Hid (Ow wr W.heap.size a (be 1 1 ++ be X 2 ++ be n 1 ++ lms f k)) ∧ Hid (Below W.heap.size W wr)) (fun _ i _ => n - (intOf i).toNat)
  case atStart => exact ⟨0, by omega, rfl, hid (by rw [show lms f 0 = [] from rfl, List.append_nil]; exact hO6.out), K6⟩
  case round =>
    obtain ⟨k, hk, rfl, hO, hb⟩ := hrel
    have Qr := hid (P0.out.below hb.out hlt)
    have c1 := Qr.out.c1
    clear b0 b1 b2 f0 f1 f2
    by_cases hcon : k < n
    · have hRr := R0.out.below hb.out
      obtain ⟨b, off, rfl, hbB, hc⟩ := hRr.at_ (by omega)
      have hcell := hc k hcon
      have hxl := R0.out.lt k
      have hnext : Hid (be 1 1 ++ be X 2 ++ be n 1 ++ lms f (k + 1) = be 1 1 ++ be X 2 ++ be n 1 ++ lms f k ++ be (f k) 4) := hid (List.append_assoc _ (lms f k) (be (f k) 4)).symm
      generalize f k = x at *
      have hlen : (be 1 1 ++ be X 2 ++ be n 1 ++ lms f k).length ≤ 1000 := by simp only [List.length_append, be_length, lms_length]; omega
      clear hc hRr
      go_wp2_with fail
      refine (rDigits_any (V := x) (z := 4) (by omega) (by omega)).mono ?_
      rintro e w7 ⟨A7, c7, rfl, -, hY7, hb7⟩
      have K7 := hid (hb.out.trans (hb7.out.mono hb.out.size))
      have hO7 := hid (hO.out.below hb7.out (Nat.le_refl _))
      go_wp2_with (at_builtin; refine app_bytes rfl (.tmp 29) (.tmp 36) rfl rfl rfl hO7.out K7.out.size hY7.out (by omega) ?_; intro v8 w8 hO8 hb8)
      go_roundw
      case rel => exact ⟨k + 1, by omega, by go_num, hid (by rw [hnext.out]; exact hO8.out), hid (K7.out.trans hb8.out)⟩
      case measure => simp [intOf]; omega
    · obtain rfl : k = n := by omega
      obtain ⟨A8, c8, hv, hY⟩ := hO.out.shape
      have hl : (be 1 1 ++ be X 2 ++ be k 1 ++ lms f k).length = 4 + 4 * k := by simp only [List.length_append, be_length, lms_length]
      rw [hl] at hv hY
      subst hv
      have HY := hid hY
      have HOO := hid (hO.out.mono B0.out.size)
      clear hY
      go_wp2
      go_ret
      exact ⟨A8, _, c8, rfl, rfl, HOO, HY, hid (B0.out.trans (hb.out.mono B0.out.size))⟩
theorem rTextO_any {w : World} {n c X : Nat} {A : Option Addr} {f : Nat → Nat} {s : Bool} (hr : Rd w w.heap.size A n c f) (hn : n ≤ 40) (hX : X ≤ 1024) :
    Calls Tryz.prog 98 #[.agg #[.bool s, .slice A n c, .int .i64 (X : Int)]] w fun e w' => ∃ A' n' c', e = .returned (.slice A' n' c') ∧ Hid (n' = 4 + 4 * n) ∧ Hid (Ow w' w.heap.size (.slice A' n' c') (dtx s n f X)) ∧ Hid (By w' w'.heap.size A' n' c' (dtx s n f X)) ∧ Hid (Below w.heap.size w w') := by
  cases s
  · exact rTextO_false hr hn hX
  · exact rTextO_true hr hn hX
theorem step_app_row {ops : Array Oper} {o : Oper} {a : Act} {K : Act → World → Prop} {Q : Exit → Act → World → Prop} {E : Prop} (hgd : o.guard = none) (s x : Operand)
    (ho : o.op = .call { callee := .builtin .append, args := #[s, x], argTypes := #[32, 32] }) {w : World} {B B' m c : Nat} {v : Value} {xs ys : List Nat} {A : Option Addr} (hs : a.eval s = v) (hx : a.eval x = .slice A m c)
    (hown : Ow w B v xs) (hB : B ≤ w.heap.size) (hy : By w B' A m c ys) (hm : 0 < m) (hn : xs.length + m ≤ 17592186044416)
    (h : ∀ v' w', Hid (Ow w' B v' (xs ++ ys)) → Hid (Below B w w') → Hid (w.grownBy w' v.ownBlock) → K (a.put o.dst v') w') : if Region.wanted o (yielded ops a.tmps) = true then Oper.wp Tryz.prog o a w K Q else E := by
  obtain ⟨i, hi, hz, hsz, hby⟩ := info_one u8_info
  obtain ⟨b, off, rfl, -, -⟩ := hy.at_ hm
  refine step_append_lies w hgd s x 32 ho B 5 i (.int .u8 0) 1 1 (by kernel_rfl) hi hz hsz hby rfl (by decide) v xs.length (vals xs) hs hown.1 ⟨b, off, none⟩ m c (vals ys) hx (by rw [vals_length, hy.len, Nat.mul_one]) (hy.cells _ rfl) (fun u hu => vals_one hu) hm (by unfold maxLen; omega) (by omega) hB _ rfl ?_
  intro g cap w' h1 h2 h3 h4
  refine h _ w' (hid ⟨?_, ?_, ?_⟩) (hid ((Below.refl _ _).grown h2 hB ?_)) (hid h2)
  · rw [List.length_append, hy.len, vals_append]
    exact h1
  · intro y hy2
    rcases List.mem_append.1 hy2 with h1 | h1
    · exact hown.2.1 y h1
    · exact hy.lt y h1
  · rw [List.length_append, hy.len]
    omega
  · intro k hk
    rcases hown.1 with ⟨_, ⟨rfl, _⟩ | ⟨g', cap', cur, rfl, hg, _⟩⟩
    · cases hk
    · injection hk with hk
      subst hk
      exact hg
theorem ow_lt {w : World} {B : Nat} {v : Value} {xs : List Nat} (h : Ow w B v xs) : ∀ k, v.ownBlock = some k → B ≤ k ∧ k < w.heap.size := h.1.lt
open Go.RowKit Go.Shelf Go.Lib
set_option maxRecDepth 100000
def dtm (m : Md) (k : Nat) : List Nat := dtx (m.D k).s (m.D k).n (m.D k).f (m.D k).x.toNat
def TxE (s : Bool) (n : Nat) (f : Nat → Nat) (X : Nat) (w : World) (e : Ending) (w' : World) : Prop := ∃ A' n' c', e = .returned (.slice A' n' c') ∧ Hid (n' = 4 + 4 * n) ∧ Hid (Ow w' w.heap.size (.slice A' n' c') (dtx s n f X)) ∧ Hid (By w' w'.heap.size A' n' c' (dtx s n f X)) ∧ Hid (Below w.heap.size w w')
end Go.Proofs.YtbankbehfjogpaaGreat
