/- A mail that may be: its content, as it is written. -/
/- What the reader reads, of which bytes. No program is walked here. -/
/- What was written is read. No program is walked here. -/
/- Package mail: Write. -/
import Derived.Test.YtbankbehfjogpaaVar
import Derived.Test.YtbankbehfjogpaaWchk
import Derived.Test.YtbankbehfjogpaaVan

namespace Go.Proofs.Ytbankbehfjogpaa
open Go.RowKit Go.Shelf Go.Lib

/-- What a mail that may be is. -/
structure FitM (M : Ml) : Prop where
  fit : M.Fit
  S : DMay M.S.s M.S.n M.S.f (M.S.x : Int)
  W : DMay M.W.s M.W.n M.W.f (M.W.x : Int)
  C : DMay M.C.s M.C.n M.C.f (M.C.x : Int)
  A : DMay M.A.s M.A.n M.A.f (M.A.x : Int)
theorem ddy_may {d : Dy} (h : DMay d.s d.n d.f d.x) : DMay (ddy d).s (ddy d).n (ddy d).f ((ddy d).x : Int) := by
  have e : (((ddy d).x : Nat) : Int) = d.x := by have := h.2.1; show (d.x.toNat : Int) = d.x; omega
  rw [e]
  exact h
theorem ddy_fit {w : World} {B : Nat} {d : Dy} (hr : Rd w B d.A d.n d.c d.f) (h : DMay d.s d.n d.f d.x) : (ddy d).Fit :=
  ⟨by have := h.1.1; show d.n < 256; omega, by have := h.2.2.1; show d.x.toNat < 65536; omega, hr.lt, hr.out⟩
theorem fit_of {w : World} {B : Nat} {m : Md} {l : List De} {t : Nat → Nat} (h : Prd w B m l t) (hm : PMay m l t) : FitM (mlOf m l t) := by
  obtain ⟨⟨⟨a0, a1, a2, a3, a4⟩, b1, b2, b3, b4, b5⟩, u1, u2, u3, u4, u5⟩ := (pmay_iff h).1 hm
  obtain ⟨c1, c2⟩ := bad_no b3
  have e : -2147483647 ≤ m.mn ∧ m.mn ≤ 2147483647 ∧ -2147483647 ≤ m.mx ∧ m.mx ≤ 2147483647 := by
    unfold EMay at b4
    split at b4 <;> omega
  have e0 : m.ha = false → m.mn = 0 ∧ m.mx = 0 := by
    intro hf
    unfold EMay at b4
    rw [if_neg (by rw [hf]; decide)] at b4
    exact b4
  have k8 := b5.1
  refine ⟨⟨a0, ⟨a1.1, by show m.fr < 8; omega⟩, ⟨a2.1, by show m.tu < 8; omega⟩, a3, a4, b1, fun h3 h4 => ?_, ddy_fit (h.ms 0 (by omega)) (b2 0 (by omega)), ddy_fit (h.ms 1 (by omega)) (b2 1 (by omega)), ddy_fit (h.ms 2 (by omega)) (b2 2 (by omega)), ddy_fit (h.ms 3 (by omega)) (b2 3 (by omega)),
    fun hk => u2.resolve_left hk, fun h2 h3 => (u3.resolve_left h2).resolve_left h3, c2, c1, fun hk => u4.resolve_left hk, e0, e, fun x hx => ?_, by show ((List.range m.k).map t).length ≤ 8; simp; omega, fun hk => ?_⟩,
    ddy_may (b2 0 (by omega)), ddy_may (b2 1 (by omega)), ddy_may (b2 2 (by omega)), ddy_may (b2 3 (by omega))⟩
  · rcases u1 with u | u | u
    · exact absurd u h3
    · exact absurd u h4
    · exact u
  · obtain ⟨j, _, rfl⟩ := List.mem_map.1 hx
    exact h.tg.lt j
  · obtain ⟨p, _, _, q⟩ := u5.resolve_left hk
    exact ⟨p, q⟩

theorem pn_ok {xs : List Nat} {V z : Nat} (h1 : 1 ≤ z) (h8 : z ≤ 8) (hV : V < 256 ^ z) (hx : xs.length ≤ 3800) : pnR xs V z = xs ++ be V z := if_pos ⟨⟨h1, h8, hV⟩, by omega⟩
theorem pd_ok {xs : List Nat} {d : Ddy} (h : DMay d.s d.n d.f (d.x : Int)) (hx : xs.length ≤ 3700) : pdR xs d = xs ++ dfx d := if_pos ⟨h, by have := h.1.1; omega⟩
theorem dfx_len {d : Ddy} (h : DMay d.s d.n d.f (d.x : Int)) : (dfx d).length ≤ 164 := by
  unfold dfx
  rw [dtx_length]
  have := h.1.1
  omega
theorem lsx_snoc (l : List De) (d : De) : lsx (l ++ [d]) = lsx l ++ (be d.1.toNat 1 ++ be d.2.toNat 4) := by simp [lsx]
theorem tgx_snoc (l : List Nat) (d : Nat) : tgx (l ++ [d]) = tgx l ++ be d 4 := by simp [tgx]
theorem lsx_len5 (l : List De) : (lsx l).length = 5 * l.length := by
  induction l with
  | nil => rfl
  | cons d l ih =>
    unfold lsx at ih ⊢
    rw [List.flatMap_cons, List.length_append, ih, List.length_append, be_length, be_length, List.length_cons]
    omega
theorem tgx_len4 (l : List Nat) : (tgx l).length = 4 * l.length := by
  induction l with
  | nil => rfl
  | cons d l ih =>
    unfold tgx at ih ⊢
    rw [List.flatMap_cons, List.length_append, ih, be_length, List.length_cons]
    omega
theorem lis_wr {l : List De} (h : LFit l) (hl : l.length ≤ 64) {s : List Nat} (hs : s.length ≤ 1000) : ∀ k, k ≤ l.length → (lisP Wwr l s k).2 = s ++ lsx (l.take k)
  | 0, _ => by simp [lisP, lsx]
  | k + 1, hk => by
    show (dscP Wwr (lisP Wwr l s k).2 _).2 = _
    rw [lis_wr h hl hs k (by omega), List.getElem?_eq_getElem (show k < l.length by omega)]
    have hd := h _ (List.getElem_mem (show k < l.length by omega))
    generalize hde : l[k]'(by omega) = d at hd
    have hlen := lsx_len5 (l.take k)
    rw [List.length_take] at hlen
    show pnR (pnR (s ++ lsx (l.take k)) d.1.toNat 1) d.2.toNat 4 = _
    rw [pn_ok (V := d.1.toNat) (by omega) (by omega) (by show d.1.toNat < 256; omega) (by rw [List.length_append]; omega), pn_ok (V := d.2.toNat) (by omega) (by omega) (by show d.2.toNat < 4294967296; omega) (by rw [List.length_append, List.length_append, be_length]; omega)]
    rw [List.take_add_one, List.getElem?_eq_getElem (show k < l.length by omega), hde]
    show _ = s ++ lsx (l.take k ++ [d])
    rw [lsx_snoc]
    simp only [List.append_assoc]
theorem tgs_wr {l : List Nat} (h : ∀ t ∈ l, t < 4294967296) (hl : l.length ≤ 64) {s : List Nat} (hs : s.length ≤ 1000) : ∀ k, k ≤ l.length → (tgsP Wwr l s k).2 = s ++ tgx (l.take k)
  | 0, _ => by simp [tgsP, tgx]
  | k + 1, hk => by
    show pnR (tgsP Wwr l s k).2 ((l[k]?).getD 0) 4 = _
    rw [tgs_wr h hl hs k (by omega), List.getElem?_eq_getElem (show k < l.length by omega)]
    have hd := h _ (List.getElem_mem (show k < l.length by omega))
    generalize hde : l[k]'(by omega) = d at hd
    have hlen := tgx_len4 (l.take k)
    rw [List.length_take] at hlen
    show pnR (s ++ tgx (l.take k)) d 4 = _
    rw [pn_ok (V := d) (by omega) (by omega) (by show d < 4294967296; omega) (by rw [List.length_append]; omega)]
    rw [List.take_add_one, List.getElem?_eq_getElem (show k < l.length by omega), hde]
    show _ = s ++ tgx (l.take k ++ [d])
    rw [tgx_snoc]
    simp only [List.append_assoc]
theorem head_wr {M : Ml} (h : M.Fit) : (headP Wwr [] M).2 = be M.fr.toNat 1 ++ be M.tu.toNat 1 ++ be M.ep.toNat 2 ++ be M.nu.toNat 3 := by
  have := h.fr
  have := h.tu
  have := h.ep
  have := h.nu
  show pnR (pnR (pnR (pnR [] M.fr.toNat 1) M.tu.toNat 1) M.ep.toNat 2) M.nu.toNat 3 = _
  rw [pn_ok (xs := []) (V := M.fr.toNat) (by omega) (by omega) (by show M.fr.toNat < 256; omega) (by simp), pn_ok (V := M.tu.toNat) (by omega) (by omega) (by show M.tu.toNat < 256; omega) (by simp [be_length]), pn_ok (V := M.ep.toNat) (by omega) (by omega) (by show M.ep.toNat < 65536; omega) (by simp [be_length]), pn_ok (V := M.nu.toNat) (by omega) (by omega) (by show M.nu.toNat < 16777216; omega) (by simp [be_length])]
  simp
/-- What the writer writes of a mail that may be is its content. -/
theorem along_wr {M : Ml} (h : FitM M) : (alongP Wwr [] M).2 = cont M := by
  have hh := head_wr h.fit
  have hkd := h.fit.kd
  have hab := h.fit.ab
  have hls := h.fit.lsn
  have hle := h.fit.len
  have hed := h.fit.ed1
  have hc : M.kd = 1 ∨ M.kd = 2 ∨ M.kd = 3 ∨ M.kd = 4 ∨ M.kd = 5 ∨ M.kd = 6 := by omega
  have hl7 : (be M.fr.toNat 1 ++ be M.tu.toNat 1 ++ be M.ep.toNat 2 ++ be M.nu.toNat 3).length = 7 := by simp [be_length]
  unfold alongP kindP cont body
  rw [hh]
  generalize be M.fr.toNat 1 ++ be M.tu.toNat 1 ++ be M.ep.toNat 2 ++ be M.nu.toNat 3 = H at hl7
  have dS := dfx_len h.S
  have dC := dfx_len h.C
  rcases hc with e | e | e | e | e | e
  · rw [if_pos e, if_neg (by omega), if_pos e]
    show pdR (pdR H M.S) M.W = _
    rw [pd_ok h.S (by omega), pd_ok h.W (by rw [List.length_append]; omega)]
    simp
  · rw [if_neg (by omega), if_pos e, if_neg (by omega), if_neg (by omega), if_pos (by omega)]
    show pdR (pdR H M.C) M.A = _
    rw [pd_ok h.C (by omega), pd_ok h.A (by rw [List.length_append]; omega)]
    simp
  · rw [if_neg (by omega), if_neg (by omega), if_pos e, if_pos (by omega), if_neg (by omega), if_pos (by omega)]
    show pdR (pdR (pnR H M.ab.toNat 3) M.C) M.A = _
    rw [pn_ok (V := M.ab.toNat) (by omega) (by omega) (by show M.ab.toNat < 16777216; omega) (by omega), pd_ok h.C (by rw [List.length_append, be_length]; omega), pd_ok h.A (by rw [List.length_append, List.length_append, be_length]; omega)]
    simp
  · rw [if_neg (by omega), if_neg (by omega), if_neg (by omega), if_pos e, if_pos (by omega), if_neg (by omega), if_neg (by omega), if_neg (by omega), if_neg (by omega)]
    show pnR H M.ab.toNat 3 = _
    rw [pn_ok (V := M.ab.toNat) (by omega) (by omega) (by show M.ab.toNat < 16777216; omega) (by omega)]
    simp
  · rw [if_neg (by omega), if_neg (by omega), if_neg (by omega), if_neg (by omega), if_pos e, if_neg (by omega), if_neg (by omega), if_neg (by omega), if_pos e]
    show (lisP Wwr M.ls (pnR (pnR H (flg M.wa) 1) M.ls.length 1) M.ls.length).2 = _
    rw [pn_ok (V := flg M.wa) (by omega) (by omega) (flg_lt _) (by omega), pn_ok (V := M.ls.length) (by omega) (by omega) (by show M.ls.length < 256; omega) (by rw [List.length_append, be_length]; omega)]
    rw [lis_wr h.fit.ls (by omega) (by simp only [List.length_append, be_length]; omega) _ (Nat.le_refl _), List.take_length]
    simp
  · rw [if_neg (by omega), if_neg (by omega), if_neg (by omega), if_neg (by omega), if_neg (by omega), if_pos e, if_neg (by omega), if_neg (by omega), if_neg (by omega), if_neg (by omega), if_pos e]
    show (tgsP Wwr M.le (pnR (pnR (pnR (pnR H (flg M.ha) 1) (M.mn + 2147483648).toNat 4) (M.mx + 2147483648).toNat 4) M.le.length 1) M.le.length).2 = _
    rw [pn_ok (V := flg M.ha) (by omega) (by omega) (flg_lt _) (by omega), pn_ok (V := (M.mn + 2147483648).toNat) (by omega) (by omega) (by show (M.mn + 2147483648).toNat < 4294967296; omega) (by rw [List.length_append, be_length]; omega), pn_ok (V := (M.mx + 2147483648).toNat) (by omega) (by omega) (by show (M.mx + 2147483648).toNat < 4294967296; omega) (by simp only [List.length_append, be_length]; omega), pn_ok (V := M.le.length) (by omega) (by omega) (by show M.le.length < 256; omega) (by simp only [List.length_append, be_length]; omega)]
    rw [tgs_wr h.fit.le (by omega) (by simp only [List.length_append, be_length]; omega) _ (Nat.le_refl _), List.take_length]
    simp
theorem cont_len {M : Ml} (h : FitM M) : (cont M).length ≤ 400 := by
  have dS := dfx_len h.S
  have dW := dfx_len h.W
  have dC := dfx_len h.C
  have dA := dfx_len h.A
  have hls := h.fit.lsn
  have hle := h.fit.len
  have l5 := lsx_len5 M.ls
  have l4 := tgx_len4 M.le
  unfold cont body
  simp only [List.length_append, be_length]
  split <;> (try split) <;> (try split) <;> (try split) <;> (try split) <;> simp only [List.length_append, be_length, List.length_nil] <;> omega
end Go.Proofs.Ytbankbehfjogpaa


namespace Go.Proofs.Ytbankbehfjogpaa
open Go.RowKit Go.Shelf Go.Lib

theorem wlk_rd {g : Nat} (Ba : Nat) (hBa : Ba ≤ g) : Wlk Wrd (fun b => b = g) Ba (g + 1) (Rea g) (fun w D => Mk w 34 (g + 1) D.A D.n D.c D.f) 27 28 29 #[.pointer (some ⟨g, 0, none⟩)] where
  gB := fun b h => by subst h; omega
  ab := by omega
  dz := fun _ => Mk.nil _ _ _
  en := enters_of Try.func27 (by kernel_rfl) rfl
  ef := enters_of Try.func28 (by kernel_rfl) rfl
  ed := enters_of Try.func29 (by kernel_rfl) rfl
  inv := fun s w w' h ha => by
    obtain ⟨A, n, c, hg, hB, hp⟩ := h
    exact ⟨A, n, c, (ha.block g (lt_of_heap hg) (.inl (by omega))).trans hg, hB.blocks fun b hb hbl => ha.block b hbl (.inl (by omega)), hp⟩
  dal := fun w w' D h ha => ⟨h.cap, h.max, h.lt, h.out, h.own.imp id (by rintro ⟨b, cs, hA, hb, hh, hs, hc⟩; exact ⟨b, cs, hA, hb, (ha.block b (lt_of_heap hh) (.inr fun cs' t ht e => by rw [hh] at e; injection e with e; injection e with _ e2; exact wty_u32 (e2 ▸ ht))).trans hh, hs, hc⟩)⟩
  dex := fun w w' D h hx => ⟨h.cap, h.max, h.lt, h.out, h.own.imp id (by rintro ⟨b, cs, hA, hb, hh, hs, hc⟩; exact ⟨b, cs, hA, hb, hx.heap hh (by omega), hs, hc⟩)⟩
  num := fun s w V z h _ _ h1 h4 => (rnum_any h V z h1 h4 z rfl).mono (by rintro e w' ⟨rfl, h2, h3⟩; exact ⟨_, rfl, hid ⟨rfl, rnR_lt s h4⟩, h2, h3⟩)
  flag := fun s w b h _ => (rflag_any h b).mono (by rintro e w' ⟨rfl, h2, h3⟩; exact ⟨_, rfl, hid rfl, h2, h3⟩)
  dyad := fun s w D d h hB _ _ => (rdyad_any h D).mono (by rintro e w' ⟨D', rfl, h1, h2, h3, h4⟩; exact ⟨D', rfl, h1, hid (h2.out.mono hB), h3, h4⟩)

/-- Where there was no fault, what was read stands ahead. -/
def Gd (xs : List Nat) (s : Rst) (H : List Nat) : Prop := s.ft = false → s.xs = xs ∧ xs.take s.p = H ∧ s.p ≤ xs.length
theorem Gd.num {xs H : List Nat} {s : Rst} (hx : ∀ x ∈ xs, x < 256) (h : Gd xs s H) (z : Nat) : Gd xs (rnR s z).2 (H ++ be (rnR s z).1 z) := by
  intro hf
  by_cases hc : s.p + z ≤ s.xs.length
  · have hr : rnR s z = (bn ((s.xs.drop s.p).take z) % 256 ^ z, ⟨s.xs, s.p + z, s.ft⟩) := if_pos hc
    rw [hr] at hf ⊢
    obtain ⟨h1, h2, h3⟩ := h hf
    refine ⟨h1, ?_, by show s.p + z ≤ xs.length; rw [← h1]; exact hc⟩
    show xs.take (s.p + z) = H ++ be (bn ((s.xs.drop s.p).take z) % 256 ^ z) z
    have hl : ((xs.drop s.p).take z).length = z := by rw [List.length_take, List.length_drop, ← h1]; omega
    have hb := be_bn (xs := (xs.drop s.p).take z) fun x hm => hx x (List.mem_of_mem_drop (List.mem_of_mem_take hm))
    have hlt := bn_lt (xs := (xs.drop s.p).take z) fun x hm => hx x (List.mem_of_mem_drop (List.mem_of_mem_take hm))
    rw [hl] at hb hlt
    rw [h1, Nat.mod_eq_of_lt hlt, hb, ← h2, List.take_add]
  · have hr : rnR s z = (0, ⟨[], 0, true⟩) := if_neg hc
    rw [hr] at hf
    cases hf
theorem Gd.flag {xs H : List Nat} {s : Rst} (hx : ∀ x ∈ xs, x < 256) (h : Gd xs s H) : Gd xs (rfR s).2 (H ++ be (flg (rfR s).1) 1) := by
  intro hf
  have hf' : ((rnR s 1).2.ft || decide (1 < (rnR s 1).1)) = false := hf
  rw [Bool.or_eq_false_iff] at hf'
  have h1 := h.num hx 1 hf'.1
  have h2 : ¬ 1 < (rnR s 1).1 := by simpa using hf'.2
  have e : flg (rfR s).1 = (rnR s 1).1 := by
    show flg (decide ((rnR s 1).1 = 1)) = _
    by_cases hq : (rnR s 1).1 = 1
    · rw [decide_eq_true hq, hq]
      rfl
    · rw [decide_eq_false hq]
      show 0 = _
      omega
  rw [e]
  exact h1
theorem dyad_tight {ys : List Nat} (hx : ∀ x ∈ ys, x < 256) (h : dE ys = 0) : dtx (decide (sgOf ys = 1)) (cntOf ys) (limOf ys) (expOf ys) = ys.take (4 + 4 * cntOf ys) ∧ DMay (decide (sgOf ys = 1)) (cntOf ys) (limOf ys) (expOf ys) ∧ 4 + 4 * cntOf ys ≤ ys.length := by
  unfold dE at h
  split at h
  · cases h
  · rename_i hn
    split at h
    · rename_i hm
      refine ⟨?_, hm.2, by omega⟩
      have e1 : be (if decide (sgOf ys = 1) = true then 1 else 0) 1 = ys.take 1 := by
        have hb := be_bn (xs := ys.take 1) fun x hm => hx x (List.mem_of_mem_take hm)
        have hl : (ys.take 1).length = 1 := by rw [List.length_take]; omega
        have h0 := bn_one (xs := ys) (p := 0) (by omega)
        rw [List.drop_zero] at h0
        rw [hl, h0] at hb
        rw [← hb]
        congr 1
        have h1 : sgOf ys ≤ 1 := hm.1
        by_cases hq : sgOf ys = 1
        · rw [if_pos (by simpa using hq)]
          exact hq.symm
        · rw [if_neg (by simpa using hq)]
          show 0 = sgOf ys
          omega
      have e2 : be (expOf ys) 2 = (ys.drop 1).take 2 := by
        have hb := be_bn (xs := (ys.drop 1).take 2) fun x hm => hx x (List.mem_of_mem_drop (List.mem_of_mem_take hm))
        have hl : ((ys.drop 1).take 2).length = 2 := by rw [List.length_take, List.length_drop]; omega
        rw [hl] at hb
        exact hb
      have e3 : be (cntOf ys) 1 = (ys.drop 3).take 1 := by
        have hb := be_bn (xs := (ys.drop 3).take 1) fun x hm => hx x (List.mem_of_mem_drop (List.mem_of_mem_take hm))
        have hl : ((ys.drop 3).take 1).length = 1 := by rw [List.length_take, List.length_drop]; omega
        rw [hl, bn_one (by omega)] at hb
        exact hb
      have e4 : lms (limOf ys) (cntOf ys) = (ys.drop 4).take (4 * cntOf ys) :=
        lms_lof (fun x hm => hx x (List.mem_of_mem_drop hm)) (Nat.le_refl _) (by rw [List.length_drop]; omega)
      unfold dtx
      rw [e1, e2, e3, e4]
      have t1 : ys.take 1 ++ (ys.drop 1).take 2 = ys.take 3 := (List.take_add (i := 1) (j := 2)).symm
      have t2 : ys.take 3 ++ (ys.drop 3).take 1 = ys.take 4 := (List.take_add (i := 3) (j := 1)).symm
      rw [t1, t2, ← List.take_add]
    · cases h
theorem Gd.dyad {xs H : List Nat} {s : Rst} (hx : ∀ x ∈ xs, x < 256) (h : Gd xs s H) : Gd xs (rdR s).2 (H ++ dfx (rdR s).1) := by
  intro hf
  by_cases hc : dE (s.xs.drop s.p) = 0
  · have hr : rdR s = (⟨decide (sgOf (s.xs.drop s.p) = 1), cntOf (s.xs.drop s.p), limOf (s.xs.drop s.p), expOf (s.xs.drop s.p)⟩, ⟨s.xs, s.p + (4 + 4 * cntOf (s.xs.drop s.p)), s.ft⟩) := if_pos hc
    rw [hr] at hf ⊢
    obtain ⟨h1, h2, h3⟩ := h hf
    rw [h1] at hc ⊢
    obtain ⟨t1, _, t3⟩ := dyad_tight (fun x hm => hx x (List.mem_of_mem_drop hm)) hc
    rw [List.length_drop] at t3
    refine ⟨rfl, ?_, by show s.p + (4 + 4 * cntOf (xs.drop s.p)) ≤ xs.length; omega⟩
    show xs.take (s.p + (4 + 4 * cntOf (xs.drop s.p))) = H ++ dfx _
    unfold dfx
    rw [t1, ← h2, List.take_add]
  · have hr : rdR s = (d0z, ⟨[], 0, true⟩) := if_neg hc
    rw [hr] at hf
    cases hf
theorem Gd.lis {xs H : List Nat} {s : Rst} (hx : ∀ x ∈ xs, x < 256) (h : Gd xs s H) (l : List De) : ∀ k, Gd xs (lisP Wrd l s k).2 (H ++ lsx (lisP Wrd l s k).1)
  | 0 => by
    show Gd xs s (H ++ lsx [])
    rw [show lsx [] = [] from rfl, List.append_nil]
    exact h
  | k + 1 => by
    have ih := ((h.lis hx l k).num hx 1).num hx 4
    show Gd xs (rnR (rnR (lisP Wrd l s k).2 1).2 4).2 (H ++ lsx ((lisP Wrd l s k).1 ++ [(((rnR (lisP Wrd l s k).2 1).1 : Int), ((rnR (rnR (lisP Wrd l s k).2 1).2 4).1 : Int))]))
    rw [lsx_snoc, Int.toNat_natCast, Int.toNat_natCast]
    simp only [List.append_assoc] at ih ⊢
    exact ih
theorem Gd.tgs {xs H : List Nat} {s : Rst} (hx : ∀ x ∈ xs, x < 256) (h : Gd xs s H) (l : List Nat) : ∀ k, Gd xs (tgsP Wrd l s k).2 (H ++ tgx (tgsP Wrd l s k).1)
  | 0 => by
    show Gd xs s (H ++ tgx [])
    rw [show tgx [] = [] from rfl, List.append_nil]
    exact h
  | k + 1 => by
    have ih := (h.tgs hx l k).num hx 4
    show Gd xs (rnR (tgsP Wrd l s k).2 4).2 (H ++ tgx ((tgsP Wrd l s k).1 ++ [(rnR (tgsP Wrd l s k).2 4).1]))
    rw [tgx_snoc]
    simp only [List.append_assoc] at ih ⊢
    exact ih
/-- What was read without a fault was written so. -/
theorem along_good {xs : List Nat} (hx : ∀ x ∈ xs, x < 256) (k : Nat) : Gd xs (alongP Wrd ⟨xs, 0, false⟩ (mz k)).2 (cont (alongP Wrd ⟨xs, 0, false⟩ (mz k)).1) := by
  have h0 : Gd xs ⟨xs, 0, false⟩ [] := fun _ => ⟨rfl, rfl, Nat.zero_le _⟩
  have h1 := (((h0.num hx 1).num hx 1).num hx 2).num hx 3
  have hs : (headP Wrd ⟨xs, 0, false⟩ (mz k)).2 = (rnR (rnR (rnR (rnR ⟨xs, 0, false⟩ 1).2 1).2 2).2 3).2 := rfl
  have hu : (headP Wrd ⟨xs, 0, false⟩ (mz k)).1 = ((rnR ⟨xs, 0, false⟩ 1).1, (rnR (rnR ⟨xs, 0, false⟩ 1).2 1).1, (rnR (rnR (rnR ⟨xs, 0, false⟩ 1).2 1).2 2).1, (rnR (rnR (rnR (rnR ⟨xs, 0, false⟩ 1).2 1).2 2).2 3).1) := rfl
  unfold alongP
  rw [hs]
  have hh : hedP Wrd ⟨xs, 0, false⟩ (mz k) = { mz k with fr := ((rnR ⟨xs, 0, false⟩ 1).1 : Int), tu := ((rnR (rnR ⟨xs, 0, false⟩ 1).2 1).1 : Int), ep := ((rnR (rnR (rnR ⟨xs, 0, false⟩ 1).2 1).2 2).1 : Int), nu := ((rnR (rnR (rnR (rnR ⟨xs, 0, false⟩ 1).2 1).2 2).2 3).1 : Int) } := rfl
  rw [hh]
  generalize (rnR (rnR (rnR (rnR ⟨xs, 0, false⟩ 1).2 1).2 2).2 3).2 = s4 at *
  generalize (rnR ⟨xs, 0, false⟩ 1).1 = U1 at *
  generalize (rnR (rnR ⟨xs, 0, false⟩ 1).2 1).1 = U2 at *
  generalize (rnR (rnR (rnR ⟨xs, 0, false⟩ 1).2 1).2 2).1 = U3 at *
  generalize (rnR (rnR (rnR (rnR ⟨xs, 0, false⟩ 1).2 1).2 2).2 3).1 = U4 at *
  clear hs hu hh h0
  simp only [List.nil_append] at h1
  have ek : (mz k).kd = k := rfl
  have el : ∀ (r : List De), be r.length 1 = be r.length 1 := fun _ => rfl
  unfold kindP cont body
  by_cases k1 : k = 1
  · subst k1
    have h2 := (h1.dyad hx).dyad hx
    simp only [List.append_assoc] at h2
    simpa [mz, Wrd] using h2
  by_cases k2 : k = 2
  · subst k2
    have h2 := (h1.dyad hx).dyad hx
    simp only [List.append_assoc] at h2
    simpa [mz, Wrd] using h2
  by_cases k3 : k = 3
  · subst k3
    have h2 := ((h1.num hx 3).dyad hx).dyad hx
    simp only [List.append_assoc] at h2
    simpa [mz, Wrd] using h2
  by_cases k4 : k = 4
  · subst k4
    have h2 := h1.num hx 3
    simp only [List.append_assoc] at h2
    simpa [mz, Wrd] using h2
  by_cases k5 : k = 5
  · subst k5
    have h2 := ((h1.flag hx).num hx 1).lis hx [] (rnR (rfR s4).2 1).1
    have hl := lisP_length Wrd [] (rnR (rfR s4).2 1).2 (rnR (rfR s4).2 1).1
    simp only [List.append_assoc] at h2
    have e1 : ∀ s' : Rst, Wrd.ff s' (mz 5).wa = rfR s' := fun _ => rfl
    have e2 : ∀ (s' : Rst) V z, Wrd.nf s' V z = rnR s' z := fun _ _ _ => rfl
    simp only [e1, e2, show (mz 5).ls = [] from rfl]
    simp only [mz] at *
    simpa [hl] using h2
  by_cases k6 : k = 6
  · subst k6
    have h2 := ((((h1.flag hx).num hx 4).num hx 4).num hx 1).tgs hx [] (rnR (rnR (rnR (rfR s4).2 4).2 4).2 1).1
    have hl := tgsP_length Wrd [] (rnR (rnR (rnR (rfR s4).2 4).2 4).2 1).2 (rnR (rnR (rnR (rfR s4).2 4).2 4).2 1).1
    simp only [List.append_assoc] at h2
    have e0 : ∀ (s' : Rst) b p q, edgP Wrd s' b p q = (((rfR s').1, (rnR (rfR s').2 4).1, (rnR (rnR (rfR s').2 4).2 4).1), (rnR (rnR (rfR s').2 4).2 4).2) := fun _ _ _ _ => rfl
    have e2 : ∀ (s' : Rst) V z, Wrd.nf s' V z = rnR s' z := fun _ _ _ => rfl
    simp only [e0, e2, show (mz 6).le = [] from rfl]
    simp only [mz] at *
    have c1 : ∀ U : Nat, (((U : Int) - 2147483648) + 2147483648).toNat = U := fun U => by omega
    simpa [hl, c1] using h2
  · have n1 : ¬ (mz k).kd = 1 := k1
    simp [mz, k1, k2, k3, k4, k5, k6]
    simpa using h1
end Go.Proofs.Ytbankbehfjogpaa


namespace Go.Proofs.Ytbankbehfjogpaa
open Go.RowKit Go.Shelf Go.Lib

theorem drop_next {xs a r : List Nat} {p : Nat} (h : xs.drop p = a ++ r) : xs.drop (p + a.length) = r := by
  rw [← List.drop_drop, h, List.drop_left]
theorem drop_len {xs a r : List Nat} {p : Nat} (h : xs.drop p = a ++ r) (ha : 0 < a.length) : p + a.length ≤ xs.length := by
  have := congrArg List.length h
  rw [List.length_drop, List.length_append] at this
  omega
theorem rn_at {xs r : List Nat} {p V z : Nat} (h : xs.drop p = be V z ++ r) (hV : V < 256 ^ z) (hz : 0 < z) : rnR ⟨xs, p, false⟩ z = (V, ⟨xs, p + z, false⟩) ∧ xs.drop (p + z) = r := by
  have h1 := drop_len h (by rw [be_length]; exact hz)
  have h2 := drop_next h
  rw [be_length] at h1 h2
  have hr : rnR ⟨xs, p, false⟩ z = (bn ((xs.drop p).take z) % 256 ^ z, ⟨xs, p + z, false⟩) := if_pos h1
  refine ⟨?_, h2⟩
  rw [hr, h, List.take_left' (be_length V z), bn_be hV, Nat.mod_eq_of_lt hV]
theorem rf_at {xs r : List Nat} {p : Nat} {b : Bool} (h : xs.drop p = be (flg b) 1 ++ r) : rfR ⟨xs, p, false⟩ = (b, ⟨xs, p + 1, false⟩) ∧ xs.drop (p + 1) = r := by
  obtain ⟨h1, h2⟩ := rn_at h (flg_lt b) (by omega)
  refine ⟨?_, h2⟩
  unfold rfR
  rw [h1]
  cases b <;> rfl
theorem dyad_at {ys r : List Nat} {D : Ddy} (hf : D.Fit) (hm : DMay D.s D.n D.f (D.x : Int)) (h : ys = dfx D ++ r) : dE ys = 0 ∧ decide (sgOf ys = 1) = D.s ∧ cntOf ys = D.n ∧ limOf ys = D.f ∧ expOf ys = D.x := by
  obtain ⟨f1, f2, f3, f4⟩ := hf
  have hl : ys.length = (4 + 4 * D.n) + r.length := by rw [h, List.length_append]; unfold dfx; rw [dtx_length]
  unfold dfx dtx at h
  simp only [List.append_assoc] at h
  have e0 : ys.drop 0 = be (if D.s = true then 1 else 0) 1 ++ (be D.x 2 ++ (be D.n 1 ++ (lms D.f D.n ++ r))) := by rw [List.drop_zero]; exact h
  have e1 := drop_next e0
  rw [be_length] at e1
  have e2 := drop_next e1
  rw [be_length] at e2
  have e3 := drop_next e2
  rw [be_length] at e3
  have hsg : sgOf ys = if D.s = true then 1 else 0 := by
    have := bn_one (xs := ys) (p := 0) (by omega)
    rw [e0, List.take_left' (be_length _ _), bn_be (sg_lt _)] at this
    exact this.symm
  have hx : expOf ys = D.x := by
    unfold expOf
    rw [show (1 : Nat) = 0 + 1 from rfl, e1, List.take_left' (be_length _ _), bn_be (Nat.lt_of_lt_of_le f2 (by decide))]
  have hc : cntOf ys = D.n := by
    have := bn_one (xs := ys) (p := 3) (by omega)
    rw [show (3 : Nat) = 0 + 1 + 2 from rfl, e2, List.take_left' (be_length _ _), bn_be (Nat.lt_of_lt_of_le f1 (by decide))] at this
    exact this.symm
  have hlm : limOf ys = D.f := by
    funext j
    unfold limOf
    rw [hc, show (4 : Nat) = 0 + 1 + 2 + 1 from rfl, e3]
    exact lof_lms r f3 f4 j
  have hs1 : decide (sgOf ys = 1) = D.s := by rw [hsg]; cases D.s <;> rfl
  refine ⟨?_, hs1, hc, hlm, hx⟩
  unfold dE
  rw [hs1, hc, hlm, hx, hsg, if_neg (by omega), if_pos ⟨by split <;> omega, hm⟩]
theorem rd_at {xs r : List Nat} {p : Nat} {D : Ddy} (hf : D.Fit) (hm : DMay D.s D.n D.f (D.x : Int)) (h : xs.drop p = dfx D ++ r) : rdR ⟨xs, p, false⟩ = (D, ⟨xs, p + (4 + 4 * D.n), false⟩) ∧ xs.drop (p + (4 + 4 * D.n)) = r := by
  obtain ⟨h1, h2, h3, h4, h5⟩ := dyad_at hf hm h
  have hd := drop_next h
  have hl : (dfx D).length = 4 + 4 * D.n := by unfold dfx; rw [dtx_length]
  rw [hl] at hd
  refine ⟨?_, hd⟩
  have hr : rdR ⟨xs, p, false⟩ = (⟨decide (sgOf (xs.drop p) = 1), cntOf (xs.drop p), limOf (xs.drop p), expOf (xs.drop p)⟩, ⟨xs, p + (4 + 4 * cntOf (xs.drop p)), false⟩) := if_pos h1
  rw [hr, h2, h3, h4, h5]
theorem lis_at {xs r : List Nat} {p : Nat} {l : List De} (hl : LFit l) (h : xs.drop p = lsx l ++ r) : ∀ k, k ≤ l.length → lisP Wrd [] ⟨xs, p, false⟩ k = (l.take k, ⟨xs, p + 5 * k, false⟩) ∧ xs.drop (p + 5 * k) = lsx (l.drop k) ++ r
  | 0, _ => ⟨rfl, h⟩
  | k + 1, hk => by
    obtain ⟨i1, i2⟩ := lis_at hl h k (by omega)
    have hd := hl _ (List.getElem_mem (show k < l.length by omega))
    rw [List.drop_eq_getElem_cons (show k < l.length by omega)] at i2
    generalize hde : l[k]'(by omega) = d at hd i2
    have i3 : xs.drop (p + 5 * k) = be d.1.toNat 1 ++ (be d.2.toNat 4 ++ (lsx (l.drop (k + 1)) ++ r)) := by
      rw [i2]
      simp [lsx]
    obtain ⟨a1, a2⟩ := rn_at i3 (by show d.1.toNat < 256; omega) (by omega)
    obtain ⟨b1, b2⟩ := rn_at a2 (by show d.2.toNat < 4294967296; omega) (by omega)
    have e5 : p + 5 * k + 1 + 4 = p + 5 * (k + 1) := by omega
    rw [e5] at b1 b2
    refine ⟨?_, b2⟩
    show ((lisP Wrd [] ⟨xs, p, false⟩ k).1 ++ [(((rnR (lisP Wrd [] ⟨xs, p, false⟩ k).2 1).1 : Int), ((rnR (rnR (lisP Wrd [] ⟨xs, p, false⟩ k).2 1).2 4).1 : Int))], (rnR (rnR (lisP Wrd [] ⟨xs, p, false⟩ k).2 1).2 4).2) = _
    rw [i1]
    dsimp only
    rw [a1]
    dsimp only
    rw [b1]
    dsimp only
    rw [List.take_add_one, List.getElem?_eq_getElem (show k < l.length by omega), hde]
    have q1 : ((d.1.toNat : Nat) : Int) = d.1 := by omega
    have q2 : ((d.2.toNat : Nat) : Int) = d.2 := by omega
    rw [q1, q2]
    rfl
theorem tgs_at {xs r : List Nat} {p : Nat} {l : List Nat} (hl : ∀ t ∈ l, t < 4294967296) (h : xs.drop p = tgx l ++ r) : ∀ k, k ≤ l.length → tgsP Wrd [] ⟨xs, p, false⟩ k = (l.take k, ⟨xs, p + 4 * k, false⟩) ∧ xs.drop (p + 4 * k) = tgx (l.drop k) ++ r
  | 0, _ => ⟨rfl, h⟩
  | k + 1, hk => by
    obtain ⟨i1, i2⟩ := tgs_at hl h k (by omega)
    have hd := hl _ (List.getElem_mem (show k < l.length by omega))
    rw [List.drop_eq_getElem_cons (show k < l.length by omega)] at i2
    generalize hde : l[k]'(by omega) = d at hd i2
    have i3 : xs.drop (p + 4 * k) = be d 4 ++ (tgx (l.drop (k + 1)) ++ r) := by
      rw [i2]
      simp [tgx]
    obtain ⟨a1, a2⟩ := rn_at i3 (by show d < 4294967296; omega) (by omega)
    have e5 : p + 4 * k + 4 = p + 4 * (k + 1) := by omega
    rw [e5] at a1 a2
    refine ⟨?_, a2⟩
    show ((tgsP Wrd [] ⟨xs, p, false⟩ k).1 ++ [(rnR (tgsP Wrd [] ⟨xs, p, false⟩ k).2 4).1], (rnR (tgsP Wrd [] ⟨xs, p, false⟩ k).2 4).2) = _
    rw [i1]
    dsimp only
    rw [a1]
    dsimp only
    rw [List.take_add_one, List.getElem?_eq_getElem (show k < l.length by omega), hde]
    rfl
theorem end_at {xs : List Nat} {p : Nat} (h : xs.drop p = []) (hp : p ≤ xs.length) : p = xs.length := by
  have := congrArg List.length h
  rw [List.length_drop] at this
  simp at this
  omega
theorem ml_ext {M N : Ml} (h1 : M.kd = N.kd) (h2 : M.fr = N.fr) (h3 : M.tu = N.tu) (h4 : M.ep = N.ep) (h5 : M.nu = N.nu) (h6 : M.ab = N.ab) (h7 : M.S = N.S) (h8 : M.W = N.W) (h9 : M.C = N.C) (h10 : M.A = N.A) (h11 : M.wa = N.wa) (h12 : M.ls = N.ls) (h13 : M.ha = N.ha) (h14 : M.mn = N.mn) (h15 : M.mx = N.mx) (h16 : M.le = N.le) : M = N := by
  obtain ⟨_, _, _, _, _, _, _, _, _, _, _, _, _, _, _, _⟩ := M
  obtain ⟨_, _, _, _, _, _, _, _, _, _, _, _, _, _, _, _⟩ := N
  dsimp only at *
  subst h1 h2 h3 h4 h5 h6 h7 h8 h9 h10 h11 h12 h13 h14 h15 h16
  rfl
/-- What was written is read. -/
theorem along_at {M : Ml} (h : FitM M) : alongP Wrd ⟨cont M, 0, false⟩ (mz M.kd) = (M, ⟨cont M, (cont M).length, false⟩) := by
  obtain ⟨xs, hxs⟩ : ∃ xs, xs = cont M := ⟨_, rfl⟩
  rw [← hxs]
  have hF := h.fit
  have g1 := hF.fr
  have g2 := hF.tu
  have g3 := hF.ep
  have g4 := hF.nu
  have g5 := hF.ab
  have g6 := hF.lsn
  have g7 := hF.len
  have g8 := hF.ed1
  have e0 : xs.drop 0 = be M.fr.toNat 1 ++ (be M.tu.toNat 1 ++ (be M.ep.toNat 2 ++ (be M.nu.toNat 3 ++ ((if M.kd = 3 ∨ M.kd = 4 then be M.ab.toNat 3 else []) ++ body M)))) := by
    rw [List.drop_zero, hxs]
    unfold cont
    simp only [List.append_assoc]
  obtain ⟨a1, e1⟩ := rn_at e0 (by show M.fr.toNat < 256; omega) (by omega)
  obtain ⟨a2, e2⟩ := rn_at e1 (by show M.tu.toNat < 256; omega) (by omega)
  obtain ⟨a3, e3⟩ := rn_at e2 (by show M.ep.toNat < 65536; omega) (by omega)
  obtain ⟨a4, e4⟩ := rn_at e3 (by show M.nu.toNat < 16777216; omega) (by omega)
  simp only [Nat.zero_add, Nat.reduceAdd] at a1 a2 a3 a4 e1 e2 e3 e4
  have hh : headP Wrd ⟨xs, 0, false⟩ (mz M.kd) = ((M.fr.toNat, M.tu.toNat, M.ep.toNat, M.nu.toNat), ⟨xs, 7, false⟩) := by
    show ((( (rnR ⟨xs, 0, false⟩ 1).1, (rnR (rnR ⟨xs, 0, false⟩ 1).2 1).1, (rnR (rnR (rnR ⟨xs, 0, false⟩ 1).2 1).2 2).1, (rnR (rnR (rnR (rnR ⟨xs, 0, false⟩ 1).2 1).2 2).2 3).1), (rnR (rnR (rnR (rnR ⟨xs, 0, false⟩ 1).2 1).2 2).2 3).2) : (Nat × Nat × Nat × Nat) × Rst) = _
    rw [a1]; dsimp only
    rw [a2]; dsimp only
    rw [a3]; dsimp only
    rw [a4]
  have hlen : 7 ≤ xs.length := by
    have := drop_len e3 (by rw [be_length]; omega)
    rw [be_length] at this
    exact this
  have cfr : ((M.fr.toNat : Nat) : Int) = M.fr := by omega
  have ctu : ((M.tu.toNat : Nat) : Int) = M.tu := by omega
  have cep : ((M.ep.toNat : Nat) : Int) = M.ep := by omega
  have cnu : ((M.nu.toNat : Nat) : Int) = M.nu := by omega
  have cab : ((M.ab.toNat : Nat) : Int) = M.ab := by omega
  have cmn : (((M.mn + 2147483648).toNat : Nat) : Int) - 2147483648 = M.mn := by omega
  have cmx : (((M.mx + 2147483648).toNat : Nat) : Int) - 2147483648 = M.mx := by omega
  have hkd := hF.kd
  have nf' : ∀ (s' : Rst) V z, Wrd.nf s' V z = rnR s' z := fun _ _ _ => rfl
  have ff' : ∀ (s' : Rst) b, Wrd.ff s' b = rfR s' := fun _ _ => rfl
  have df' : ∀ (s' : Rst) d, Wrd.df s' d = rdR s' := fun _ _ => rfl
  have hc : M.kd = 1 ∨ M.kd = 2 ∨ M.kd = 3 ∨ M.kd = 4 ∨ M.kd = 5 ∨ M.kd = 6 := by omega
  have bS := dfx_len h.S
  unfold alongP kindP hedP
  rw [hh]
  clear hh a1 a2 a3 a4 e0 e1 e2 e3
  have ek : (mz M.kd).kd = M.kd := rfl
  rw [ek]
  unfold body at e4
  rcases hc with e | e | e | e | e | e
  · rw [if_neg (by omega), if_pos e, List.nil_append] at e4
    rw [if_pos e]
    obtain ⟨d1, e5⟩ := rd_at hF.dS h.S e4
    obtain ⟨d2, e6⟩ := rd_at (r := []) hF.dW h.W (by rw [e5, List.append_nil])
    have hp := drop_len (r := []) (p := 7 + (4 + 4 * M.S.n)) (a := dfx M.W) (by rw [e5, List.append_nil]) (by unfold dfx; rw [dtx_length]; omega)
    have hl2 : (dfx M.W).length = 4 + 4 * M.W.n := by unfold dfx; rw [dtx_length]
    have hfin := end_at e6 (by omega)
    simp only [df', d1, d2]
    refine Prod.ext (ml_ext rfl cfr ctu cep cnu (hF.ab0 (by omega) (by omega)).symm rfl rfl (hF.ca0 (by omega) (by omega)).1.symm (hF.ca0 (by omega) (by omega)).2.symm (hF.ls0 (by omega)).1.symm (hF.ls0 (by omega)).2.symm (hF.le0 (by omega)).1.symm (hF.ed (hF.le0 (by omega)).1).1.symm (hF.ed (hF.le0 (by omega)).1).2.symm (hF.le0 (by omega)).2.symm) (by rw [← hfin])
  · rw [if_neg (by omega), if_neg (by omega), if_pos (by omega), List.nil_append] at e4
    rw [if_neg (by omega), if_pos e]
    obtain ⟨d1, e5⟩ := rd_at hF.dC h.C e4
    obtain ⟨d2, e6⟩ := rd_at (r := []) hF.dA h.A (by rw [e5, List.append_nil])
    have hp := drop_len (r := []) (p := 7 + (4 + 4 * M.C.n)) (a := dfx M.A) (by rw [e5, List.append_nil]) (by unfold dfx; rw [dtx_length]; omega)
    have hl2 : (dfx M.A).length = 4 + 4 * M.A.n := by unfold dfx; rw [dtx_length]
    have hfin := end_at e6 (by omega)
    simp only [df', d1, d2]
    refine Prod.ext (ml_ext rfl cfr ctu cep cnu (hF.ab0 (by omega) (by omega)).symm (hF.sw0 (by omega)).1.symm (hF.sw0 (by omega)).2.symm rfl rfl (hF.ls0 (by omega)).1.symm (hF.ls0 (by omega)).2.symm (hF.le0 (by omega)).1.symm (hF.ed (hF.le0 (by omega)).1).1.symm (hF.ed (hF.le0 (by omega)).1).2.symm (hF.le0 (by omega)).2.symm) (by rw [← hfin])
  · rw [if_pos (by omega), if_neg (by omega), if_pos (by omega)] at e4
    rw [if_neg (by omega), if_neg (by omega), if_pos e]
    obtain ⟨d0, e4⟩ := rn_at e4 (by show M.ab.toNat < 16777216; omega) (by omega)
    obtain ⟨d1, e5⟩ := rd_at hF.dC h.C e4
    obtain ⟨d2, e6⟩ := rd_at (r := []) hF.dA h.A (by rw [e5, List.append_nil])
    have hp := drop_len (r := []) (p := 7 + 3 + (4 + 4 * M.C.n)) (a := dfx M.A) (by rw [e5, List.append_nil]) (by unfold dfx; rw [dtx_length]; omega)
    have hl2 : (dfx M.A).length = 4 + 4 * M.A.n := by unfold dfx; rw [dtx_length]
    have hfin := end_at e6 (by omega)
    simp only [nf', df', d0, d1, d2]
    refine Prod.ext (ml_ext rfl cfr ctu cep cnu cab (hF.sw0 (by omega)).1.symm (hF.sw0 (by omega)).2.symm rfl rfl (hF.ls0 (by omega)).1.symm (hF.ls0 (by omega)).2.symm (hF.le0 (by omega)).1.symm (hF.ed (hF.le0 (by omega)).1).1.symm (hF.ed (hF.le0 (by omega)).1).2.symm (hF.le0 (by omega)).2.symm) (by rw [← hfin])
  · rw [if_pos (by omega), if_neg (by omega), if_neg (by omega), if_neg (by omega), if_neg (by omega)] at e4
    rw [if_neg (by omega), if_neg (by omega), if_neg (by omega), if_pos e]
    have hp := drop_len e4 (by rw [be_length]; omega)
    rw [be_length] at hp
    obtain ⟨d0, e6⟩ := rn_at e4 (by show M.ab.toNat < 16777216; omega) (by omega)
    have hfin := end_at e6 hp
    simp only [nf', d0]
    refine Prod.ext (ml_ext rfl cfr ctu cep cnu cab (hF.sw0 (by omega)).1.symm (hF.sw0 (by omega)).2.symm (hF.ca0 (by omega) (by omega)).1.symm (hF.ca0 (by omega) (by omega)).2.symm (hF.ls0 (by omega)).1.symm (hF.ls0 (by omega)).2.symm (hF.le0 (by omega)).1.symm (hF.ed (hF.le0 (by omega)).1).1.symm (hF.ed (hF.le0 (by omega)).1).2.symm (hF.le0 (by omega)).2.symm) (by rw [← hfin])
  · rw [if_neg (by omega), if_neg (by omega), if_neg (by omega), if_pos e, List.nil_append] at e4
    simp only [List.append_assoc] at e4
    rw [if_neg (by omega), if_neg (by omega), if_neg (by omega), if_neg (by omega), if_pos e]
    obtain ⟨d0, e4⟩ := rf_at e4
    have hp := drop_len e4 (by rw [be_length]; omega)
    rw [be_length] at hp
    obtain ⟨d1, e5⟩ := rn_at e4 (by show M.ls.length < 256; omega) (by omega)
    obtain ⟨d2, e6⟩ := lis_at (r := []) hF.ls (by rw [e5, List.append_nil]) M.ls.length (Nat.le_refl _)
    have hl5 := congrArg List.length e5
    rw [List.length_drop, lsx_len5] at hl5
    rw [List.drop_length, List.append_nil, show lsx [] = [] from rfl] at e6
    have hfin := end_at e6 (by omega)
    rw [List.take_length] at d2
    simp only [nf', ff', d0, d1, show (mz M.kd).ls = [] from rfl, d2]
    refine Prod.ext (ml_ext rfl cfr ctu cep cnu (hF.ab0 (by omega) (by omega)).symm (hF.sw0 (by omega)).1.symm (hF.sw0 (by omega)).2.symm (hF.ca0 (by omega) (by omega)).1.symm (hF.ca0 (by omega) (by omega)).2.symm rfl rfl (hF.le0 (by omega)).1.symm (hF.ed (hF.le0 (by omega)).1).1.symm (hF.ed (hF.le0 (by omega)).1).2.symm (hF.le0 (by omega)).2.symm) (by rw [← hfin])
  · rw [if_neg (by omega), if_neg (by omega), if_neg (by omega), if_neg (by omega), if_pos e, List.nil_append] at e4
    simp only [List.append_assoc] at e4
    rw [if_neg (by omega), if_neg (by omega), if_neg (by omega), if_neg (by omega), if_neg (by omega), if_pos e]
    obtain ⟨d0, e4⟩ := rf_at e4
    obtain ⟨d1, e4⟩ := rn_at e4 (by show (M.mn + 2147483648).toNat < 4294967296; omega) (by omega)
    obtain ⟨d2, e4⟩ := rn_at e4 (by show (M.mx + 2147483648).toNat < 4294967296; omega) (by omega)
    have hp := drop_len e4 (by rw [be_length]; omega)
    rw [be_length] at hp
    obtain ⟨d3, e5⟩ := rn_at e4 (by show M.le.length < 256; omega) (by omega)
    obtain ⟨d4, e6⟩ := tgs_at (r := []) hF.le (by rw [e5, List.append_nil]) M.le.length (Nat.le_refl _)
    have hl5 := congrArg List.length e5
    rw [List.length_drop, tgx_len4] at hl5
    rw [List.drop_length, List.append_nil, show tgx [] = [] from rfl] at e6
    have hfin := end_at e6 (by omega)
    rw [List.take_length] at d4
    have e0 : ∀ (s' : Rst) b p q, edgP Wrd s' b p q = (((rfR s').1, (rnR (rfR s').2 4).1, (rnR (rnR (rfR s').2 4).2 4).1), (rnR (rnR (rfR s').2 4).2 4).2) := fun _ _ _ _ => rfl
    simp only [nf', e0, d0, d1, d2, d3, show (mz M.kd).le = [] from rfl, d4]
    refine Prod.ext (ml_ext rfl cfr ctu cep cnu (hF.ab0 (by omega) (by omega)).symm (hF.sw0 (by omega)).1.symm (hF.sw0 (by omega)).2.symm (hF.ca0 (by omega) (by omega)).1.symm (hF.ca0 (by omega) (by omega)).2.symm (hF.ls0 (by omega)).1.symm (hF.ls0 (by omega)).2.symm rfl cmn cmx rfl) (by rw [← hfin])
end Go.Proofs.Ytbankbehfjogpaa


namespace Go.Proofs.Ytbankbehfjogpaa
open Go.RowKit Go.Shelf Go.Lib
set_option maxRecDepth 100000

theorem alok_wr {M : Ml} (h : AlOk Wid () M) (s : List Nat) : AlOk Wwr s M := ⟨h.kd, h.fr, h.tu, h.ep, h.nu, h.ab, h.ls, h.lsn, h.mn, h.mx, h.len, fun _ _ hn => hn⟩
theorem check_yes {w : World} {m : Md} {l : List De} {t : Nat → Nat} (h : Prd w w.heap.size m l t) (hm : PMay m l t) : Calls Try.prog 9 #[.agg (mdc m)] w fun e w' => e = .returned (.int .i64 0) ∧ Hid (Below w.heap.size w w') :=
  (mcheck (P := True) h (hid ⟨fun _ => hm, fun _ => trivial⟩)).mono fun _ _ ⟨r, he, hr, hb⟩ => ⟨by rw [he, hr.out.1 trivial], hb⟩
theorem check_no {w : World} {m : Md} {l : List De} {t : Nat → Nat} (h : Prd w w.heap.size m l t) (hm : ¬ PMay m l t) : Calls Try.prog 9 #[.agg (mdc m)] w fun e w' => e = .returned (.int .i64 100) ∧ Hid (Below w.heap.size w w') :=
  (mcheck (P := False) h (hid ⟨fun h => h.elim, fun h => hm h⟩)).mono fun _ _ ⟨r, he, hr, hb⟩ => ⟨by rw [he, hr.out.2 (fun h => h)], hb⟩

set_option maxHeartbeats 6400000 in
theorem write_bad {w : World} {m : Md} {l : List De} {t : Nat → Nat} (h : Prd w w.heap.size m l t) (hm : ¬ PMay m l t) :
    Calls Try.prog 10 #[.agg (mdc m)] w fun e w' => e = .returned (.tuple #[.slice none 0 0, .int .i64 100]) ∧ Hid (Below w.heap.size w w') := by
  obtain ⟨w1, hw1⟩ : ∃ w1, w1 = w.alloc (.cells (mdc m) 31) := ⟨_, rfl⟩
  have B0 := hid (show Below w.heap.size w w1 from hw1 ▸ (Below.refl _ w).alloc (Nat.le_refl _) _)
  have P0 := hid (show Pbox w1 w.heap.size m from hw1 ▸ heap_alloc_new w _)
  have CC := hid (check_no (h.on B0.out) hm)
  have HW := hid hw1
  clear hw1 h hm
  go_enter Try.func10, Try.ntmps10
  go_upto_region 1 with fail
  rw [← HW.out]
  clear HW
  go_wp2_with (first | (refine wp_pload rfl (.tmp 1) (by with_reducible rfl) w.heap.size m (by rfl) P0.out ?_) | fail)
  refine CC.out.mono ?_
  rintro e w2 ⟨rfl, hb⟩
  go_wp2
  go_ret2
  exact ⟨rfl, hid (B0.out.trans (hb.out.mono B0.out.size))⟩

set_option maxHeartbeats 12800000 in
theorem write_good {w : World} {m : Md} {l : List De} {t : Nat → Nat} (h : Prd w w.heap.size m l t) (hm : PMay m l t) :
    Calls Try.prog 10 #[.agg (mdc m)] w fun e w' => ∃ v, e = .returned (.tuple #[v, .int .i64 0]) ∧ Hid (Ow w' w.heap.size v (frm m.kd (cont (mlOf m l t)))) ∧ Hid (Below w.heap.size w w') := by
  obtain ⟨w1, hw1⟩ : ∃ w1, w1 = w.alloc (.cells (mdc m) 31) := ⟨_, rfl⟩
  have B0 := hid (show Below w.heap.size w w1 from hw1 ▸ (Below.refl _ w).alloc (Nat.le_refl _) _)
  have P0 := hid (show Pbox w1 w.heap.size m from hw1 ▸ heap_alloc_new w _)
  have CC := hid (check_yes (h.on B0.out) hm)
  have HW := hid hw1
  have hU := (pmay_iff h).1 hm
  have HAL := hid (alok_wr (alok_of h.kd hU.1.1 hU.1.2) [])
  have HF := hid (fit_of h hm)
  have HX := hid (show ∀ k, k < 4 → 0 ≤ (m.D k).x from fun k hk => (hU.1.2.2.1 k hk).2.1)
  have HKd := hid h.kd
  have H := hid h
  clear hw1 h hm hU
  go_enter Try.func10, Try.ntmps10
  go_upto_region 1 with fail
  rw [← HW.out]
  clear HW
  go_upto_region 4 with (first | (refine wp_pload rfl (.tmp 1) (by with_reducible rfl) w.heap.size m (by rfl) P0.out ?_) | (go_at_call 9; refine CC.out.mono ?_; rintro e w2 ⟨rfl, hb⟩) | fail)
  have P2 := hid (P0.out.below hb.out P0.out.lt)
  have B2 := hid (B0.out.trans (hb.out.mono B0.out.size))
  clear hb CC
  go_upto_region 5 with fail
  obtain ⟨w3, hw3⟩ : ∃ w3, w3 = w2.alloc (.cells #[.slice none 0 0] 55) := ⟨_, rfl⟩
  rw [← hw3]
  have B3 := hid (show Below w.heap.size w w3 from B2.out.trans (hw3 ▸ (Below.refl _ w2).alloc B2.out.size _))
  have W3 := hid (show Wri w2.heap.size [] w3 from ⟨.slice none 0 0, hw3 ▸ heap_alloc_new w2 _, Ow.nil _ _⟩)
  have P3 := hid (show Pbox w3 w.heap.size m from hw3 ▸ P2.out.alloc _)
  have S3 := hid (show w3.heap.size = w2.heap.size + 1 by rw [hw3]; simp)
  have CA := hid (along_any (wlk_wr (g := w2.heap.size) w.heap.size B2.out.size) (s := []) (w := w3) ⟨W3.out, B3.out.size⟩ (Nat.le_of_eq S3.out.symm) (Arg.of (H.out.below B3.out) HX.out) HAL.out)
  have CW := hid (along_wr HF.out)
  have CL := hid (cont_len HF.out)
  rw [CW.out] at CA
  obtain ⟨xs, hxs⟩ : ∃ xs, xs = cont (mlOf m l t) := ⟨_, rfl⟩
  rw [← hxs] at CA CL
  have HXS := hid hxs
  clear hxs
  clear hw3 W3 CW HF
  go_wp2_with (first | (refine wp_pload rfl (.tmp 1) (by with_reducible rfl) w.heap.size m (by rfl) P3.out ?_) | fail)
  refine CA.out.mono ?_
  rintro e w4 ⟨m', rfl, _, hI, hE⟩
  obtain ⟨⟨v, hg, hO⟩, _⟩ := hI.out
  obtain ⟨A, c, rfl, hB⟩ := hO.shape
  have hlt2 := P2.out.lt
  have hx := hE.out.heap P3.out (show ¬ w.heap.size = w2.heap.size by omega)
  have P4 := hid (show Pbox w4 w.heap.size m from hx)
  have x0 := P4.out.c0
  have y0 := row_c hg 0
  have hkd := HKd.out
  have hcl := CL.out
  have CP := hid (Put_fits hB hkd (by omega))
  have B4 := hid (B3.out.trans (hE.out.below B3.out.size (fun b hb => by subst hb; exact B2.out.size)))
  clear hg hO hB hx hE hI hkd CA
  go_wp2_with fail
  refine CP.out.mono ?_
  rintro e w5 ⟨u, rfl, hO5, hb5⟩
  go_wp2
  go_ret2
  exact ⟨u, rfl, hid (HXS.out ▸ hO5.out.mono B4.out.size), hid (B4.out.trans (hb5.out.mono B4.out.size))⟩
end Go.Proofs.Ytbankbehfjogpaa

