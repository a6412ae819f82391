/- What a walk along a mail keeps, and what comes of the mail. -/
/- A walk along a mail: its beginning. -/
/- A walk along a mail of a kind. -/
/- A walk along a mail of a kind. -/
/- A walk along a mail of a kind. -/
import Derived.Test.YtbankbehfjogpaaGreatVaj
namespace Go.Proofs.YtbankbehfjogpaaGreat
open Go.RowKit Go.Shelf Go.Lib
set_option maxRecDepth 100000
def Mz (k : Nat) : Md := ⟨k, 0, 0, 0, 0, 0, D0, false, none, 0, 0, false, 0, 0, none, 0, 0⟩
def mz (k : Nat) : Ml := ⟨k, 0, 0, 0, 0, 0, d0z, d0z, d0z, d0z, false, [], false, 0, 0, []⟩
def headP {σ : Type} (W : Walker σ) (s : σ) (M : Ml) : (Nat × Nat × Nat × Nat) × σ :=
  let a := W.nf s M.fr.toNat 1
  let b := W.nf a.2 M.tu.toNat 1
  let c := W.nf b.2 M.ep.toNat 2
  let d := W.nf c.2 M.nu.toNat 3
  ((a.1, b.1, c.1, d.1), d.2)
def hedP {σ : Type} (W : Walker σ) (s : σ) (M : Ml) : Ml := { mz M.kd with fr := (headP W s M).1.1, tu := (headP W s M).1.2.1, ep := (headP W s M).1.2.2.1, nu := (headP W s M).1.2.2.2 }
def kindP {σ : Type} (W : Walker σ) (h : Ml) (s : σ) (M : Ml) : Ml × σ :=
  if M.kd = 1 then ({ h with S := (W.df s M.S).1, W := (W.df (W.df s M.S).2 M.W).1 }, (W.df (W.df s M.S).2 M.W).2)
  else if M.kd = 2 then ({ h with C := (W.df s M.C).1, A := (W.df (W.df s M.C).2 M.A).1 }, (W.df (W.df s M.C).2 M.A).2)
  else if M.kd = 3 then
    let p := W.nf s M.ab.toNat 3
    ({ h with ab := p.1, C := (W.df p.2 M.C).1, A := (W.df (W.df p.2 M.C).2 M.A).1 }, (W.df (W.df p.2 M.C).2 M.A).2)
  else if M.kd = 4 then ({ h with ab := (W.nf s M.ab.toNat 3).1 }, (W.nf s M.ab.toNat 3).2)
  else if M.kd = 5 then
    let f := W.ff s M.wa
    let p := W.nf f.2 M.ls.length 1
    ({ h with wa := f.1, ls := (lisP W M.ls p.2 p.1).1 }, (lisP W M.ls p.2 p.1).2)
  else if M.kd = 6 then
    let e := edgP W s M.ha (M.mn + 2147483648).toNat (M.mx + 2147483648).toNat
    let p := W.nf e.2 M.le.length 1
    ({ h with ha := e.1.1, mn := (e.1.2.1 : Int) - 2147483648, mx := (e.1.2.2 : Int) - 2147483648, le := (tgsP W M.le p.2 p.1).1 }, (tgsP W M.le p.2 p.1).2)
  else (h, s)
def alongP {σ : Type} (W : Walker σ) (s : σ) (M : Ml) : Ml × σ := kindP W (hedP W s M) (headP W s M).2 M
structure AlOk {σ : Type} (W : Walker σ) (s : σ) (M : Ml) : Prop where
  kd : M.kd < 256
  fr : 0 ≤ M.fr ∧ M.fr < 4294967296
  tu : 0 ≤ M.tu ∧ M.tu < 4294967296
  ep : 0 ≤ M.ep ∧ M.ep < 4294967296
  nu : 0 ≤ M.nu ∧ M.nu < 4294967296
  ab : 0 ≤ M.ab ∧ M.ab < 4294967296
  ls : ∀ d ∈ M.ls, 0 ≤ d.1 ∧ d.1 < 4294967296 ∧ 0 ≤ d.2 ∧ d.2 < 4294967296
  lsn : M.ls.length ≤ 1000
  mn : -2147483648 ≤ M.mn ∧ M.mn < 2147483648
  mx : -2147483648 ≤ M.mx ∧ M.mx < 2147483648
  len : M.le.length ≤ 1000
  nfl : ∀ s (n : Nat), n ≤ 1000 → (W.nf s n 1).1 ≤ 1000
structure Arg (w : World) (Ba : Nat) (m : Md) (M : Ml) : Prop where
  kd : m.kd = M.kd
  fr : m.fr = M.fr
  tu : m.tu = M.tu
  ep : m.ep = M.ep
  nu : m.nu = M.nu
  ab : m.ab = M.ab
  rd : ∀ k, k < 4 → Rd w Ba (m.D k).A (m.D k).n (m.D k).c (m.D k).f
  S : DV (m.D 0) M.S
  W : DV (m.D 1) M.W
  C : DV (m.D 2) M.C
  A : DV (m.D 3) M.A
  wa : m.wa = M.wa
  ls : Ds w Ba m.A m.n m.c M.ls
  ha : m.ha = M.ha
  mn : m.mn = M.mn
  mx : m.mx = M.mx
  tg : ∃ t : Nat → Nat, Rd w Ba m.T m.k m.d t ∧ ∀ j, t j = (M.le[j]?).getD 0
  tn : M.le.length = m.k
structure Out (Dv : World → Dy → Prop) (w : World) (B : Nat) (m : Md) (M : Ml) : Prop where
  kd : m.kd = M.kd
  fr : m.fr = M.fr
  tu : m.tu = M.tu
  ep : m.ep = M.ep
  nu : m.nu = M.nu
  ab : m.ab = M.ab
  dv : ∀ k, k < 4 → Dv w (m.D k)
  S : DV (m.D 0) M.S
  W : DV (m.D 1) M.W
  C : DV (m.D 2) M.C
  A : DV (m.D 3) M.A
  wa : m.wa = M.wa
  ls : Od w B (.slice m.A m.n m.c) M.ls
  ha : m.ha = M.ha
  mn : m.mn = M.mn
  mx : m.mx = M.mx
  tg : Ot w B (.slice m.T m.k m.d) M.le
structure Alg {σ : Type} (G : Nat → Prop) (I : σ → World → Prop) (Dv : World → Dy → Prop) (fn ff fd : Nat) (bd : Array Value) (w : World) (m : Md) (o : Md) (O : Ml) (s : σ) (X : World) : Prop where
  wk : Wbx X w.heap.size fn ff fd bd
  ar : Pbox X (w.heap.size + 1) m
  zr : Pbox X (w.heap.size + 1 + 1) (Mz 0)
  ou : Pbox X (w.heap.size + 1 + 1 + 1) o
  st : I s X
  ex : Ex G w X
  sz : w.heap.size + 4 ≤ X.heap.size
  rp : Out Dv X (w.heap.size + 4) o O
section
variable {σ : Type} {W : Walker σ} {G : Nat → Prop} {Ba B : Nat} {I : σ → World → Prop} {Dv : World → Dy → Prop} {fn ff fd : Nat} {bd : Array Value}
theorem Out.ex {w w' : World} {C : Nat} {m : Md} {M : Ml} (K : Wlk W G Ba B I Dv fn ff fd bd) (h : Out Dv w C m M) (hx : Ex G w w') (hC : B ≤ C) : Out Dv w' C m M :=
  ⟨h.kd, h.fr, h.tu, h.ep, h.nu, h.ab, fun k hk => K.dex _ _ _ (h.dv k hk) hx, h.S, h.W, h.C, h.A, h.wa, h.ls.ex hx (fun b hb => Nat.lt_of_lt_of_le (K.gB b hb).2 hC), h.ha, h.mn, h.mx, h.tg.ex hx (fun b hb => Nat.lt_of_lt_of_le (K.gB b hb).2 hC)⟩
theorem Alg.call {w : World} {m o : Md} {O : Ml} {s s' : σ} {X X' : World} (K : Wlk W G Ba B I Dv fn ff fd bd) (hB : B ≤ w.heap.size) (h : Alg G I Dv fn ff fd bd w m o O s X) (hi : I s' X') (hx : Ex G X X') : Alg G I Dv fn ff fd bd w m o O s' X' :=
  have gl : ∀ b, w.heap.size ≤ b → ¬ G b := fun b hb hg => by have := (K.gB b hg).2; omega
  ⟨h.wk.ex hx (gl _ (by omega)), hx.heap h.ar (gl _ (by omega)), hx.heap h.zr (gl _ (by omega)), hx.heap h.ou (gl _ (by omega)), hi, h.ex.trans hx, Nat.le_trans h.sz hx.size, h.rp.ex K hx (by omega)⟩
structure Wr (g : Nat) (X X' : World) : Prop where
  os : X'.os = X.os
  tape : X'.tape = X.tape
  output : X'.output = X.output
  size : X.heap.size = X'.heap.size
  block : ∀ b, b ≠ g → X'.heap[b]? = X.heap[b]?
theorem Wr.set (g : Nat) (X : World) (j : Nat) (v : Value) : Wr g X (X.setCell ⟨g, j, none⟩ v) := ⟨rfl, rfl, rfl, by simp [World.setCell], fun b hb => Below.heap_setCell _ _ _ b hb⟩
theorem Wr.trans {g : Nat} {X Y Z : World} (h : Wr g X Y) (k : Wr g Y Z) : Wr g X Z := ⟨k.os.trans h.os, k.tape.trans h.tape, k.output.trans h.output, h.size.trans k.size, fun b hb => (k.block b hb).trans (h.block b hb)⟩
theorem Wr.al {T : TypeId → Prop} {g : Nat} {X Y : World} {m : Md} (h : Wr g X Y) (hg : B ≤ g) (hp : Pbox X g m) (ht : T 31) : Al T B X Y :=
  ⟨Nat.le_of_eq h.size, fun b hb hn => h.block b (by rintro rfl; rcases hn with hn | hn; exact absurd hn (by omega); exact hn _ _ ht hp)⟩
theorem Wr.ex {g : Nat} {w X Y : World} (h : Wr g X Y) (hx : Ex G w X) (hg : w.heap.size ≤ g) : Ex G w Y :=
  ⟨h.os.trans hx.os, h.tape.trans hx.tape, h.output.trans hx.output, Nat.le_trans hx.size (Nat.le_of_eq h.size), fun b hb hn => (h.block b (by omega)).trans (hx.block b hb hn)⟩
theorem Od.wr {g : Nat} {X Y : World} {C : Nat} {v : Value} {l : List De} (h : Od X C v l) (hw : Wr g X Y) (hg : g < C) : Od Y C v l := by
  refine ⟨⟨h.own.1, ?_⟩, h.max⟩
  rcases h.own.2 with h0 | ⟨k, cap, cur, e, hk, hh, hr⟩
  · exact .inl h0
  · exact .inr ⟨k, cap, cur, e, hk, (hw.block k (by omega)).trans hh, hr⟩
theorem Ot.wr {g : Nat} {X Y : World} {C : Nat} {v : Value} {l : List Nat} (h : Ot X C v l) (hw : Wr g X Y) (hg : g < C) : Ot Y C v l := by
  refine ⟨⟨h.own.1, ?_⟩, h.max, h.fit⟩
  rcases h.own.2 with h0 | ⟨k, cap, cur, e, hk, hh, hr⟩
  · exact .inl h0
  · exact .inr ⟨k, cap, cur, e, hk, (hw.block k (by omega)).trans hh, hr⟩
theorem Out.wr {g : Nat} {X Y : World} {C : Nat} {p o : Md} {M : Ml} (K : Wlk W G Ba B I Dv fn ff fd bd) (h : Out Dv X C o M) (hw : Wr g X Y) (hg : g < C) (hB : B ≤ g) (hp : Pbox X g p) : Out Dv Y C o M :=
  ⟨h.kd, h.fr, h.tu, h.ep, h.nu, h.ab, fun k hk => K.dal _ _ _ (h.dv k hk) (hw.al hB hp (.inl rfl)), h.S, h.W, h.C, h.A, h.wa, h.ls.wr hw hg, h.ha, h.mn, h.mx, h.tg.wr hw hg⟩
theorem Alg.put {w : World} {m o o' : Md} {O O' : Ml} {s : σ} {X X' : World} (K : Wlk W G Ba B I Dv fn ff fd bd) (hB : B ≤ w.heap.size) (h : Alg G I Dv fn ff fd bd w m o O s X) (hw : Wr (w.heap.size + 1 + 1 + 1) X X') (hp : Pbox X' (w.heap.size + 1 + 1 + 1) o') (hr : Out Dv X (w.heap.size + 4) o' O') : Alg G I Dv fn ff fd bd w m o' O' s X' :=
  ⟨(hw.block _ (by omega)).trans h.wk, (hw.block _ (by omega)).trans h.ar, (hw.block _ (by omega)).trans h.zr, hp, K.inv _ _ _ h.st (hw.al (by omega) h.ou (.inl (.inl rfl))), hw.ex h.ex (by omega), by rw [← hw.size]; exact h.sz, hr.wr K hw (by omega) (by omega) h.ou⟩
end
theorem Pbox.put1 {w : World} {g : Nat} {o : Md} (h : Pbox w g o) (j : Nat) (v : Value) (o' : Md) (e : (mdc o).setIfInBounds j v = mdc o') : Pbox (w.setCell ⟨g, j, none⟩ v) g o' := by
  have := heap_setCell_same w g j _ _ v h
  rw [e] at this
  exact this
theorem Pbox.put3 {w : World} {g : Nat} {o : Md} (h : Pbox w g o) (i j k : Nat) (u v x : Value) (o' : Md) (e : (((mdc o).setIfInBounds i u).setIfInBounds j v).setIfInBounds k x = mdc o') : Pbox (((w.setCell ⟨g, i, none⟩ u).setCell ⟨g, j, none⟩ v).setCell ⟨g, k, none⟩ x) g o' := by
  have := heap_setCell_same _ g k _ _ x (heap_setCell_same _ g j _ _ v (heap_setCell_same w g i _ _ u h))
  rw [e] at this
  exact this
def pstore (w : World) (g : Nat) (m : Md) : World := w.setCells g 0 (mdc m).toList
theorem Pbox.store {w : World} {g : Nat} {o : Md} (h : Pbox w g o) (m : Md) : Pbox (pstore w g m) g m := by
  obtain ⟨cs', h1, h2, h3⟩ := heap_setCells g _ (mdc m).toList 0 w _ h
  have e : cs' = mdc m := by
    apply Array.ext_getElem?
    intro j
    have h12 : (mdc o).size = 24 := rfl
    by_cases hj : j < 24
    · rw [h3 j (by omega), if_pos ⟨Nat.zero_le _, by show j < 0 + 24; omega⟩, Nat.sub_zero, Array.getElem?_toList]
    · rw [Array.getElem?_eq_none (by omega), Array.getElem?_eq_none (by show 24 ≤ j; omega)]
  rw [e] at h1
  exact h1
theorem Pbox.there {w : World} {g : Nat} {o : Md} (h : Pbox w g o) (m : Md) : w.there g 0 (mdc m).size := fun j hj => by
  rw [Nat.zero_add]
  refine ⟨?_, h.frozen j⟩
  rw [cell_of_row w g j _ _ (0, 0) h]
  have h1 : j < (mdc o).size := hj
  simp [h1]
theorem mdc_one (m : Md) : (mdc m).all (·.oneCell') = true := by
  refine all_oneCell_toArray (cs := (mdc m).toList) ?_
  intro v hv
  have hv2 : v ∈ [Value.int .u8 (m.kd : Int), .int .i64 m.fr, .int .i64 m.tu, .int .i64 m.ep, .int .i64 m.nu, .int .i64 m.ab, .bool (m.D 0).s, .slice (m.D 0).A (m.D 0).n (m.D 0).c, .int .i64 (m.D 0).x, .bool (m.D 1).s, .slice (m.D 1).A (m.D 1).n (m.D 1).c, .int .i64 (m.D 1).x, .bool (m.D 2).s, .slice (m.D 2).A (m.D 2).n (m.D 2).c, .int .i64 (m.D 2).x, .bool (m.D 3).s, .slice (m.D 3).A (m.D 3).n (m.D 3).c, .int .i64 (m.D 3).x, .bool m.wa, .slice m.A m.n m.c, .bool m.ha, .int .i64 m.mn, .int .i64 m.mx, .slice m.T m.k m.d] := hv
  simp only [List.mem_cons, List.not_mem_nil, or_false] at hv2
  rcases hv2 with rfl | rfl | rfl | rfl | rfl | rfl | rfl | rfl | rfl | rfl | rfl | rfl | rfl | rfl | rfl | rfl | rfl | rfl | rfl | rfl | rfl | rfl | rfl | rfl <;> rfl
theorem wr_setCells (g : Nat) : ∀ (vs : List Value) (o : Nat) (w : World), Wr g w (w.setCells g o vs)
  | [], _, _ => ⟨rfl, rfl, rfl, rfl, fun _ _ => rfl⟩
  | v :: vs, o, w => (Wr.set g w o v).trans (wr_setCells g vs (o + 1) _)
theorem wr_pstore (w : World) (g : Nat) (m : Md) : Wr g w (pstore w g m) := wr_setCells g _ 0 w
theorem mail_size_ (m : Md) : (Tryz.prog.info? 31).map (·.size) = some (mdc m).size := mail_size
theorem wp_pload {ops : Array Oper} {rest : List Oper} {o : Oper} {a : Act} {w : World} {Q : Exit → Act → World → Prop} (hgd : o.guard = none) (x : Operand) (ho : o.op = .load 31 x)
    (g : Nat) (m : Md) (hx : a.eval x = .pointer (some ⟨g, 0, none⟩)) (hg : Pbox w g m) (h : wpList Tryz.prog ops Q rest (a.put o.dst (.agg (mdc m))) w) : wpList Tryz.prog ops Q (o :: rest) a w :=
  wpList_load_row hgd _ x ho g hx _ _ _ _ hg Tryz.underlying31 rfl (mail_size_ m) h
theorem wp_pstore {ops : Array Oper} {rest : List Oper} {o : Oper} {a : Act} {w : World} {Q : Exit → Act → World → Prop} (hgd : o.guard = none) (x y : Operand) (ho : o.op = .store 31 x y)
    (g : Nat) (p m : Md) (hx : a.eval x = .pointer (some ⟨g, 0, none⟩)) (hy : a.eval y = .agg (mdc m)) (hg : Pbox w g p) (h : wpList Tryz.prog ops Q rest (a.put o.dst undef) (pstore w g m)) : wpList Tryz.prog ops Q (o :: rest) a w :=
  wpList_store_mid hgd _ x y ho g 0 (mdc m) hx hy (hg.there m) (mail_size_ m) (mdc_one m) h
theorem ret_mail1 {fn : Func} {R : Ending → World → Prop} {a : Act} {w : World} {p : Tmp} {g : Nat} {m : Md} (h : fn.results = #[.cell p 31]) (hp : a.tmps.getD p undef = .pointer (some ⟨g, 0, none⟩))
    (hd : a.defers = []) (hg : Pbox w g m) (hR : R (.returned (.agg (mdc m))) w) : bodyPost Tryz.prog fn R .ret a w :=
  bodyPost_ret (cells_agg h a.tmps w g _ _ _ _ hp hg Tryz.underlying31 rfl (mail_size_ m)) hd hR
theorem ret_mail2 {fn : Func} {R : Ending → World → Prop} {a : Act} {w : World} {p u : Tmp} {g : Nat} {m : Md} {er : Value} (h : fn.results = #[.cell p 31, .tmp u]) (hp : a.tmps.getD p undef = .pointer (some ⟨g, 0, none⟩)) (hu : a.tmps.getD u undef = er)
    (hd : a.defers = []) (hg : Pbox w g m) (hR : R (.returned (.tuple #[.agg (mdc m), er])) w) : bodyPost Tryz.prog fn R .ret a w := by
  refine bodyPost_ret ?_ hd hR
  rw [← hu]
  exact cells_agg_tmp h a.tmps w g _ _ _ _ hp hg Tryz.underlying31 rfl (mail_size_ m)
theorem Od.mono' {w : World} {B C : Nat} {v : Value} {l : List De} (h : Od w B v l) (hC : C ≤ B) : Od w C v l := by
  refine ⟨⟨h.own.1, ?_⟩, h.max⟩
  rcases h.own.2 with h0 | ⟨g, cap, cur, e, hg, hh⟩
  · exact .inl h0
  · exact .inr ⟨g, cap, cur, e, Nat.le_trans hC hg, hh⟩
theorem Out.mono {Dv : World → Dy → Prop} {w : World} {B C : Nat} {m : Md} {M : Ml} (h : Out Dv w B m M) (hC : C ≤ B) : Out Dv w C m M :=
  ⟨h.kd, h.fr, h.tu, h.ep, h.nu, h.ab, h.dv, h.S, h.W, h.C, h.A, h.wa, h.ls.mono' hC, h.ha, h.mn, h.mx, h.tg.mono hC⟩
theorem Alg.done {σ : Type} {W : Walker σ} {G : Nat → Prop} {Ba B : Nat} {I : σ → World → Prop} {Dv : World → Dy → Prop} {fn ff fd : Nat} {bd : Array Value} {w : World} {m o : Md} {O : Ml} {s : σ} {X : World}
    (K : Wlk W G Ba B I Dv fn ff fd bd) (hB : B ≤ w.heap.size) (h : Alg G I Dv fn ff fd bd w m o O s X) :
    Pbox (pstore X (w.heap.size + 1 + 1) o) (w.heap.size + 1 + 1) o ∧ Out Dv (pstore X (w.heap.size + 1 + 1) o) w.heap.size o O ∧ I s (pstore X (w.heap.size + 1 + 1) o) ∧ Ex G w (pstore X (w.heap.size + 1 + 1) o) :=
  have hw := wr_pstore X (w.heap.size + 1 + 1) o
  ⟨h.zr.store o, (h.rp.wr K hw (by omega) (by omega) h.zr).mono (by omega), K.inv _ _ _ h.st (hw.al (by omega) h.zr (.inl (.inl rfl))), hw.ex h.ex (by omega)⟩
theorem headP_eq {σ : Type} {W : Walker σ} {s s1 s2 s3 s4 : σ} {M : Ml} {n1 n2 n3 n4 U1 U2 U3 U4 : Nat} (h1 : n1 = M.fr.toNat) (h2 : n2 = M.tu.toNat) (h3 : n3 = M.ep.toNat) (h4 : n4 = M.nu.toNat)
    (u1 : U1 = (W.nf s n1 1).1) (t1 : s1 = (W.nf s n1 1).2) (u2 : U2 = (W.nf s1 n2 1).1) (t2 : s2 = (W.nf s1 n2 1).2) (u3 : U3 = (W.nf s2 n3 2).1) (t3 : s3 = (W.nf s2 n3 2).2) (u4 : U4 = (W.nf s3 n4 3).1) (t4 : s4 = (W.nf s3 n4 3).2) :
    headP W s M = ((U1, U2, U3, U4), s4) := by
  subst h1 h2 h3 h4 u1 t1 u2 t2 u3 t3 u4 t4
  rfl
theorem wty_u8 : ¬ Wtu 5 := by unfold Wtu Wty; decide
theorem wty_u32 : ¬ Wty 75 := by unfold Wty; decide
open Go.RowKit Go.Shelf Go.Lib
set_option maxRecDepth 100000
theorem along_head {σ : Type} {W : Walker σ} {G : Nat → Prop} {Ba B : Nat} {I : σ → World → Prop} {Dv : World → Dy → Prop} {fn ff fd : Nat} {bd : Array Value} (K : Wlk W G Ba B I Dv fn ff fd bd)
    {s : σ} {w w1 w2 : World} (hs : I s w) (hB : B ≤ w.heap.size) {m : Md} {M : Ml} (ha : Arg w Ba m M) (hw1 : w1 = ((w.alloc (.cells #[.func (.func fn) bd #[], .func (.func ff) bd #[], .func (.func fd) bd #[]] 57)).alloc (.cells (mdc m) 31)).alloc (.cells (mdc (Mz 0)) 31)) (hw2 : w2 = pstore (w1.alloc (.cells (mdc (Mz 0)) 31)) (w.heap.size + 1 + 1 + 1) (Mz m.kd)) :
    Alg G I Dv fn ff fd bd w m (Mz m.kd) (mz M.kd) s w2 := by
  have hs1 : w1.heap.size = w.heap.size + 1 + 1 + 1 := by rw [hw1]; simp
  have a : Wbx w1 w.heap.size fn ff fd bd := hw1 ▸ new30 w _ _ _
  have b : Pbox w1 (w.heap.size + 1) m := hw1 ▸ new31 w _ _ _
  have c : Pbox w1 (w.heap.size + 1 + 1) (Mz 0) := hw1 ▸ new32 w _ _ _
  obtain ⟨w3, hw3⟩ : ∃ w3, w3 = w1.alloc (.cells (mdc (Mz 0)) 31) := ⟨_, rfl⟩
  rw [← hw3] at hw2
  have hsz : w3.heap.size = w.heap.size + 4 := by rw [hw3, World.alloc]; simp [hs1]
  have hA : Alg G I Dv fn ff fd bd w m (Mz 0) (mz 0) s w3 := by
    refine ⟨hw3 ▸ a.alloc _, hw3 ▸ b.alloc _, hw3 ▸ c.alloc _, ?_, ?_, ?_, by omega, ?_⟩
    · have := new0 w1 (.cells (mdc (Mz 0)) 31)
      rw [hs1] at this
      exact hw3 ▸ this
    · exact K.inv _ _ _ hs (hw3 ▸ hw1 ▸ (al3 w _ _ _).trans (Al.alloc _))
    · exact hw3 ▸ hw1 ▸ (ex3 G w _ _ _).alloc _
    · exact ⟨rfl, rfl, rfl, rfl, rfl, rfl, fun k _ => K.dz _, ⟨rfl, rfl, rfl, rfl⟩, ⟨rfl, rfl, rfl, rfl⟩, ⟨rfl, rfl, rfl, rfl⟩, ⟨rfl, rfl, rfl, rfl⟩, rfl, Od.nil _ _, rfl, rfl, rfl, Ot.nil _ _⟩
  have hp := hA.ou.store (Mz m.kd)
  rw [← hw2] at hp
  exact hA.put K hB (hw2 ▸ wr_pstore _ _ _) hp ⟨ha.kd, rfl, rfl, rfl, rfl, rfl, fun k _ => K.dz _, ⟨rfl, rfl, rfl, rfl⟩, ⟨rfl, rfl, rfl, rfl⟩, ⟨rfl, rfl, rfl, rfl⟩, ⟨rfl, rfl, rfl, rfl⟩, rfl, Od.nil _ _, rfl, rfl, rfl, Ot.nil _ _⟩
theorem dv_upd {w : World} {Dv : World → Dy → Prop} {D : Nat → Dy} {k : Nat} {d : Dy} (h : ∀ j, j < 4 → Dv w (D j)) (hd : Dv w d) : ∀ j, j < 4 → Dv w (updD D k d j) := fun j hj => by
  unfold updD
  split
  · exact hd
  · exact h j hj
open Go.RowKit Go.Shelf Go.Lib
set_option maxRecDepth 100000
set_option maxHeartbeats 64000000 in
theorem along_k0 {σ : Type} {W : Walker σ} {G : Nat → Prop} {Ba B : Nat} {I : σ → World → Prop} {Dv : World → Dy → Prop} {fn ff fd : Nat} {bd : Array Value} (K : Wlk W G Ba B I Dv fn ff fd bd)
    {s : σ} {w : World} (hs : I s w) (hB : B ≤ w.heap.size) {m : Md} {M : Ml} (ha : Arg w Ba m M) (hk : AlOk W s M) (hkk : M.kd = 0 ∨ 6 < M.kd) :
    Calls Tryz.prog 21 #[wkv fn ff fd bd, .agg (mdc m)] w fun e w' =>
      ∃ m', e = .returned (.agg (mdc m')) ∧ Hid (Out Dv w' w.heap.size m' (alongP W s M).1) ∧ Hid (I (alongP W s M).2 w') ∧ Hid (Ex G w w') := by
  obtain ⟨w1, hw1⟩ : ∃ w1, w1 = ((w.alloc (.cells #[.func (.func fn) bd #[], .func (.func ff) bd #[], .func (.func fd) bd #[]] 57)).alloc (.cells (mdc m) 31)).alloc (.cells (mdc (Mz 0)) 31) := ⟨_, rfl⟩
  obtain ⟨w2, hw2⟩ : ∃ w2, w2 = pstore (w1.alloc (.cells (mdc (Mz 0)) 31)) (w.heap.size + 1 + 1 + 1) (Mz m.kd) := ⟨_, rfl⟩
  have hs1 : w1.heap.size = w.heap.size + 1 + 1 + 1 := by rw [hw1]; simp
  have HA0 := hid (along_head K hs hB ha hw1 hw2)
  have x1 : Pbox w1 (w.heap.size + 1) m := hw1 ▸ new31 w _ _ _
  have C0 := hid x1.c0
  have HM := hid ha
  have HK := hid hk
  have CW := hid (show ∀ (o : Md) (O : Ml) (s1 : σ) (X : World), Hid (Alg G I Dv fn ff fd bd w m o O s1 X) → ∀ (n z : Nat) (zi : Int), (z : Int) = zi → n < 4294967296 → 1 ≤ z → z ≤ 4 → _ from fun o O s1 X h n z zi hzi hn h1 h4 => whole_any K h.out.st (Nat.le_trans hB (Nat.le_trans (by omega) h.out.sz)) n z zi hzi hn h1 h4)
  have XN := hid (show Pbox (w1.alloc (.cells (mdc (Mz 0)) 31)) (w.heap.size + 1 + 1 + 1) (Mz 0) from hs1 ▸ new0 w1 _)
  have HW1 := hid hw1
  have HW2 := hid hw2
  have HS1 := hid hs1
  have en := K.en
  have ef := K.ef
  have ed := K.ed
  have efr : m.fr = ((M.fr.toNat : Nat) : Int) := by have := ha.fr; have := hk.fr; omega
  have etu : m.tu = ((M.tu.toNat : Nat) : Int) := by have := ha.tu; have := hk.tu; omega
  have eep : m.ep = ((M.ep.toNat : Nat) : Int) := by have := ha.ep; have := hk.ep; omega
  have enu : m.nu = ((M.nu.toNat : Nat) : Int) := by have := ha.nu; have := hk.nu; omega
  have eab : m.ab = ((M.ab.toNat : Nat) : Int) := by have := ha.ab; have := hk.ab; omega
  have lfr : M.fr.toNat < 4294967296 := by have := hk.fr; omega
  have ltu : M.tu.toNat < 4294967296 := by have := hk.tu; omega
  have lep : M.ep.toNat < 4294967296 := by have := hk.ep; omega
  have lnu : M.nu.toNat < 4294967296 := by have := hk.nu; omega
  have lab : M.ab.toNat < 4294967296 := by have := hk.ab; omega
  have EFR := hid efr
  have ETU := hid etu
  have EEP := hid eep
  have ENU := hid enu
  have EAB := hid eab
  have HKD := hid ha.kd
  have hkd := hk.kd
  clear hw1 hw2 hs ha hk hs1 x1 efr etu eep enu eab
  go_enter Tryz.func21, Tryz.ntmps21
  go_upto_region 1 with fail
  change Code.wp _ _ _ _ (((w.alloc (.cells #[.func (.func fn) bd #[], .func (.func ff) bd #[], .func (.func fd) bd #[]] 57)).alloc (.cells (mdc m) 31)).alloc (.cells (mdc (Mz 0)) 31))
  rw [← HW1.out]
  have c0 := C0.out
  have hs1 := HS1.out
  go_upto_region 2 with (first | (refine wp_pstore rfl (.tmp 5) (.tmp 8) (by with_reducible rfl) (w.heap.size + 1 + 1 + 1) (Mz 0) (Mz m.kd) (by rfl) (by rfl) XN.out ?_) | fail)
  change Code.wp _ _ _ _ (pstore (w1.alloc (.cells (mdc (Mz 0)) 31)) (w.heap.size + 1 + 1 + 1) (Mz m.kd))
  rw [← HW2.out]
  clear c0 C0 HW1 HW2 hs1 XN
  have CD := hid (show ∀ (o : Md) (O : Ml) (s1 : σ) (X : World), Hid (Alg G I Dv fn ff fd bd w m o O s1 X) → ∀ (k : Nat), k < 4 → ∀ d, DV (m.D k) d → _ from fun o O s1 X h k hk4 d hd => K.dyad s1 X (m.D k) d h.out.st (Nat.le_trans hB (Nat.le_trans (by omega) h.out.sz)) hd ((HM.out.rd k hk4).below (h.out.ex.below (Nat.le_trans K.ab hB) (fun b hb => (K.gB b hb).1))))
  obtain ⟨n1, hn1⟩ : ∃ n1, n1 = M.fr.toNat := ⟨_, rfl⟩
  obtain ⟨n2, hn2⟩ : ∃ n2, n2 = M.tu.toNat := ⟨_, rfl⟩
  obtain ⟨n3, hn3⟩ : ∃ n3, n3 = M.ep.toNat := ⟨_, rfl⟩
  obtain ⟨n4, hn4⟩ : ∃ n4, n4 = M.nu.toNat := ⟨_, rfl⟩
  obtain ⟨n5, hn5⟩ : ∃ n5, n5 = M.ab.toNat := ⟨_, rfl⟩
  rw [← hn1] at EFR lfr
  rw [← hn2] at ETU ltu
  rw [← hn3] at EEP lep
  rw [← hn4] at ENU lnu
  rw [← hn5] at EAB lab
  have ln1 := lfr
  have ln2 := ltu
  have ln3 := lep
  have ln4 := lnu
  have ln5 := lab
  have HN1 := hid hn1
  have HN2 := hid hn2
  have HN3 := hid hn3
  have HN4 := hid hn4
  have HN5 := hid hn5
  clear hn1 hn2 hn3 hn4 hn5 lfr ltu lep lnu lab
  have x0 := HA0.out.wk.c0
  have x1 := HA0.out.wk.c1
  have x2 := HA0.out.wk.c2
  have m1 := HA0.out.ar.c1
  rw [EFR.out] at m1
  go_wp2_with fail
  refine (CW.out _ _ _ _ HA0 n1 1 1 rfl ln1 (by decide) (by decide)).mono ?_
  rintro e X1 ⟨U1, rfl, hU1, hI1, hE1⟩
  obtain ⟨s1, hs1⟩ : ∃ s1, s1 = (W.nf s n1 1).2 := ⟨_, rfl⟩
  rw [← hs1] at hI1
  have HS1 := hid hs1
  have HU1 := hid hU1.out.1
  clear hs1 hU1
  have HB1 := hid (HA0.out.call K hB hI1.out hE1.out)
  have HA1 := hid (HB1.out.put K hB (Wr.set _ _ 1 (.int .i64 (U1 : Int))) (o' := (⟨m.kd, U1, 0, 0, 0, 0, D0, false, none, 0, 0, false, 0, 0, none, 0, 0⟩ : Md)) (O' := (⟨M.kd, U1, 0, 0, 0, 0, d0z, d0z, d0z, d0z, false, [], false, 0, 0, []⟩ : Ml)) (HB1.out.ou.put1 1 _ _ rfl) { HB1.out.rp with fr := rfl })
  clear hI1 hE1
  clear x0 x1 x2 m1
  have x0 := HB1.out.wk.c0
  have x1 := HB1.out.wk.c1
  have x2 := HB1.out.wk.c2
  have z1 := HB1.out.ou.frozen 1
  have y1 := HB1.out.ou.c1
  have m2 := HB1.out.ar.c2
  rw [ETU.out] at m2
  go_wp2_with fail
  refine (CW.out _ _ _ _ HA1 n2 1 1 rfl ln2 (by decide) (by decide)).mono ?_
  rintro e X2 ⟨U2, rfl, hU2, hI2, hE2⟩
  obtain ⟨s2, hs2⟩ : ∃ s2, s2 = (W.nf s1 n2 1).2 := ⟨_, rfl⟩
  rw [← hs2] at hI2
  have HS2 := hid hs2
  have HU2 := hid hU2.out.1
  clear hs2 hU2
  have HB2 := hid (HA1.out.call K hB hI2.out hE2.out)
  have HA2 := hid (HB2.out.put K hB (Wr.set _ _ 2 (.int .i64 (U2 : Int))) (o' := (⟨m.kd, U1, U2, 0, 0, 0, D0, false, none, 0, 0, false, 0, 0, none, 0, 0⟩ : Md)) (O' := (⟨M.kd, U1, U2, 0, 0, 0, d0z, d0z, d0z, d0z, false, [], false, 0, 0, []⟩ : Ml)) (HB2.out.ou.put1 2 _ _ rfl) { HB2.out.rp with tu := rfl })
  clear hI2 hE2
  clear x0 x1 x2 z1 y1 m2
  have x0 := HB2.out.wk.c0
  have x1 := HB2.out.wk.c1
  have x2 := HB2.out.wk.c2
  have z2 := HB2.out.ou.frozen 2
  have y2 := HB2.out.ou.c2
  have m3 := HB2.out.ar.c3
  rw [EEP.out] at m3
  go_wp2_with fail
  refine (CW.out _ _ _ _ HA2 n3 2 2 rfl ln3 (by decide) (by decide)).mono ?_
  rintro e X3 ⟨U3, rfl, hU3, hI3, hE3⟩
  obtain ⟨s3, hs3⟩ : ∃ s3, s3 = (W.nf s2 n3 2).2 := ⟨_, rfl⟩
  rw [← hs3] at hI3
  have HS3 := hid hs3
  have HU3 := hid hU3.out.1
  clear hs3 hU3
  have HB3 := hid (HA2.out.call K hB hI3.out hE3.out)
  have HA3 := hid (HB3.out.put K hB (Wr.set _ _ 3 (.int .i64 (U3 : Int))) (o' := (⟨m.kd, U1, U2, U3, 0, 0, D0, false, none, 0, 0, false, 0, 0, none, 0, 0⟩ : Md)) (O' := (⟨M.kd, U1, U2, U3, 0, 0, d0z, d0z, d0z, d0z, false, [], false, 0, 0, []⟩ : Ml)) (HB3.out.ou.put1 3 _ _ rfl) { HB3.out.rp with ep := rfl })
  clear hI3 hE3
  clear x0 x1 x2 z2 y2 m3
  have x0 := HB3.out.wk.c0
  have x1 := HB3.out.wk.c1
  have x2 := HB3.out.wk.c2
  have z3 := HB3.out.ou.frozen 3
  have y3 := HB3.out.ou.c3
  have m4 := HB3.out.ar.c4
  rw [ENU.out] at m4
  go_wp2_with fail
  refine (CW.out _ _ _ _ HA3 n4 3 3 rfl ln4 (by decide) (by decide)).mono ?_
  rintro e X4 ⟨U4, rfl, hU4, hI4, hE4⟩
  obtain ⟨s4, hs4⟩ : ∃ s4, s4 = (W.nf s3 n4 3).2 := ⟨_, rfl⟩
  rw [← hs4] at hI4
  have HS4 := hid hs4
  have HU4 := hid hU4.out.1
  clear hs4 hU4
  have HB4 := hid (HA3.out.call K hB hI4.out hE4.out)
  have HA4 := hid (HB4.out.put K hB (Wr.set _ _ 4 (.int .i64 (U4 : Int))) (o' := (⟨m.kd, U1, U2, U3, U4, 0, D0, false, none, 0, 0, false, 0, 0, none, 0, 0⟩ : Md)) (O' := (⟨M.kd, U1, U2, U3, U4, 0, d0z, d0z, d0z, d0z, false, [], false, 0, 0, []⟩ : Ml)) (HB4.out.ou.put1 4 _ _ rfl) { HB4.out.rp with nu := rfl })
  clear hI4 hE4
  clear x0 x1 x2 z3 y3 m4
  have x0 := HB4.out.wk.c0
  have x1 := HB4.out.wk.c1
  have x2 := HB4.out.wk.c2
  have z4 := HB4.out.ou.frozen 4
  have y4 := HB4.out.ou.c4
  have m0 := HB4.out.ar.c0
  have hk6 := HKD.out
  have b1 : ((m.kd : Int) == 1) = false := by simp; omega
  have b2 : ((m.kd : Int) == 2) = false := by simp; omega
  have b3 : ((m.kd : Int) == 3) = false := by simp; omega
  have b4 : ((m.kd : Int) == 4) = false := by simp; omega
  have b5 : ((m.kd : Int) == 5) = false := by simp; omega
  have b6 : ((m.kd : Int) == 6) = false := by simp; omega
  clear hk6
  go_upto_region 23 with fail
  have HD := hid (HA4.out.done K hB)
  have HP := hid HA4.out.ou
  have HZ := hid HA4.out.zr
  clear x0 x1 x2 z4 y4 m0
  go_wp2_with (first | (refine wp_pload rfl (.tmp 5) (by with_reducible rfl) (w.heap.size + 1 + 1 + 1) _ (by rfl) HP.out ?_) | (refine wp_pstore rfl (.tmp 4) (.tmp 110) (by with_reducible rfl) (w.heap.size + 1 + 1) (Mz 0) _ (by rfl) (by rfl) HZ.out ?_) | fail)
  obtain ⟨q1, q2, q3, q4⟩ := HD.out
  have hh := headP_eq (M := M) HN1.out HN2.out HN3.out HN4.out HU1.out HS1.out HU2.out HS2.out HU3.out HS3.out HU4.out HS4.out
  have HQ : alongP W s M = ((⟨M.kd, U1, U2, U3, U4, 0, d0z, d0z, d0z, d0z, false, [], false, 0, 0, []⟩ : Ml), s4) := by
    unfold alongP kindP hedP
    rw [hh, if_neg (by omega), if_neg (by omega), if_neg (by omega), if_neg (by omega), if_neg (by omega), if_neg (by omega)]
    skip
    try rfl
  refine ret_mail1 rfl (by rfl) rfl q1 ⟨_, rfl, hid ?_, hid ?_, hid q4⟩
  · rw [HQ]
    exact q2
  · rw [HQ]
    exact q3
open Go.RowKit Go.Shelf Go.Lib
set_option maxRecDepth 100000
set_option maxHeartbeats 64000000 in
theorem along_k1 {σ : Type} {W : Walker σ} {G : Nat → Prop} {Ba B : Nat} {I : σ → World → Prop} {Dv : World → Dy → Prop} {fn ff fd : Nat} {bd : Array Value} (K : Wlk W G Ba B I Dv fn ff fd bd)
    {s : σ} {w : World} (hs : I s w) (hB : B ≤ w.heap.size) {m : Md} {M : Ml} (ha : Arg w Ba m M) (hk : AlOk W s M) (hkk : M.kd = 1) :
    Calls Tryz.prog 21 #[wkv fn ff fd bd, .agg (mdc m)] w fun e w' =>
      ∃ m', e = .returned (.agg (mdc m')) ∧ Hid (Out Dv w' w.heap.size m' (alongP W s M).1) ∧ Hid (I (alongP W s M).2 w') ∧ Hid (Ex G w w') := by
  obtain ⟨w1, hw1⟩ : ∃ w1, w1 = ((w.alloc (.cells #[.func (.func fn) bd #[], .func (.func ff) bd #[], .func (.func fd) bd #[]] 57)).alloc (.cells (mdc m) 31)).alloc (.cells (mdc (Mz 0)) 31) := ⟨_, rfl⟩
  obtain ⟨w2, hw2⟩ : ∃ w2, w2 = pstore (w1.alloc (.cells (mdc (Mz 0)) 31)) (w.heap.size + 1 + 1 + 1) (Mz m.kd) := ⟨_, rfl⟩
  have hs1 : w1.heap.size = w.heap.size + 1 + 1 + 1 := by rw [hw1]; simp
  have HA0 := hid (along_head K hs hB ha hw1 hw2)
  have x1 : Pbox w1 (w.heap.size + 1) m := hw1 ▸ new31 w _ _ _
  have C0 := hid x1.c0
  have HM := hid ha
  have HK := hid hk
  have CW := hid (show ∀ (o : Md) (O : Ml) (s1 : σ) (X : World), Hid (Alg G I Dv fn ff fd bd w m o O s1 X) → ∀ (n z : Nat) (zi : Int), (z : Int) = zi → n < 4294967296 → 1 ≤ z → z ≤ 4 → _ from fun o O s1 X h n z zi hzi hn h1 h4 => whole_any K h.out.st (Nat.le_trans hB (Nat.le_trans (by omega) h.out.sz)) n z zi hzi hn h1 h4)
  have XN := hid (show Pbox (w1.alloc (.cells (mdc (Mz 0)) 31)) (w.heap.size + 1 + 1 + 1) (Mz 0) from hs1 ▸ new0 w1 _)
  have HW1 := hid hw1
  have HW2 := hid hw2
  have HS1 := hid hs1
  have en := K.en
  have ef := K.ef
  have ed := K.ed
  have efr : m.fr = ((M.fr.toNat : Nat) : Int) := by have := ha.fr; have := hk.fr; omega
  have etu : m.tu = ((M.tu.toNat : Nat) : Int) := by have := ha.tu; have := hk.tu; omega
  have eep : m.ep = ((M.ep.toNat : Nat) : Int) := by have := ha.ep; have := hk.ep; omega
  have enu : m.nu = ((M.nu.toNat : Nat) : Int) := by have := ha.nu; have := hk.nu; omega
  have eab : m.ab = ((M.ab.toNat : Nat) : Int) := by have := ha.ab; have := hk.ab; omega
  have lfr : M.fr.toNat < 4294967296 := by have := hk.fr; omega
  have ltu : M.tu.toNat < 4294967296 := by have := hk.tu; omega
  have lep : M.ep.toNat < 4294967296 := by have := hk.ep; omega
  have lnu : M.nu.toNat < 4294967296 := by have := hk.nu; omega
  have lab : M.ab.toNat < 4294967296 := by have := hk.ab; omega
  have EFR := hid efr
  have ETU := hid etu
  have EEP := hid eep
  have ENU := hid enu
  have EAB := hid eab
  have HKD := hid ha.kd
  have hkd := hk.kd
  clear hw1 hw2 hs ha hk hs1 x1 efr etu eep enu eab
  go_enter Tryz.func21, Tryz.ntmps21
  go_upto_region 1 with fail
  change Code.wp _ _ _ _ (((w.alloc (.cells #[.func (.func fn) bd #[], .func (.func ff) bd #[], .func (.func fd) bd #[]] 57)).alloc (.cells (mdc m) 31)).alloc (.cells (mdc (Mz 0)) 31))
  rw [← HW1.out]
  have c0 := C0.out
  have hs1 := HS1.out
  go_upto_region 2 with (first | (refine wp_pstore rfl (.tmp 5) (.tmp 8) (by with_reducible rfl) (w.heap.size + 1 + 1 + 1) (Mz 0) (Mz m.kd) (by rfl) (by rfl) XN.out ?_) | fail)
  change Code.wp _ _ _ _ (pstore (w1.alloc (.cells (mdc (Mz 0)) 31)) (w.heap.size + 1 + 1 + 1) (Mz m.kd))
  rw [← HW2.out]
  clear c0 C0 HW1 HW2 hs1 XN
  have CD := hid (show ∀ (o : Md) (O : Ml) (s1 : σ) (X : World), Hid (Alg G I Dv fn ff fd bd w m o O s1 X) → ∀ (k : Nat), k < 4 → ∀ d, DV (m.D k) d → _ from fun o O s1 X h k hk4 d hd => K.dyad s1 X (m.D k) d h.out.st (Nat.le_trans hB (Nat.le_trans (by omega) h.out.sz)) hd ((HM.out.rd k hk4).below (h.out.ex.below (Nat.le_trans K.ab hB) (fun b hb => (K.gB b hb).1))))
  obtain ⟨n1, hn1⟩ : ∃ n1, n1 = M.fr.toNat := ⟨_, rfl⟩
  obtain ⟨n2, hn2⟩ : ∃ n2, n2 = M.tu.toNat := ⟨_, rfl⟩
  obtain ⟨n3, hn3⟩ : ∃ n3, n3 = M.ep.toNat := ⟨_, rfl⟩
  obtain ⟨n4, hn4⟩ : ∃ n4, n4 = M.nu.toNat := ⟨_, rfl⟩
  obtain ⟨n5, hn5⟩ : ∃ n5, n5 = M.ab.toNat := ⟨_, rfl⟩
  rw [← hn1] at EFR lfr
  rw [← hn2] at ETU ltu
  rw [← hn3] at EEP lep
  rw [← hn4] at ENU lnu
  rw [← hn5] at EAB lab
  have ln1 := lfr
  have ln2 := ltu
  have ln3 := lep
  have ln4 := lnu
  have ln5 := lab
  have HN1 := hid hn1
  have HN2 := hid hn2
  have HN3 := hid hn3
  have HN4 := hid hn4
  have HN5 := hid hn5
  clear hn1 hn2 hn3 hn4 hn5 lfr ltu lep lnu lab
  have x0 := HA0.out.wk.c0
  have x1 := HA0.out.wk.c1
  have x2 := HA0.out.wk.c2
  have m1 := HA0.out.ar.c1
  rw [EFR.out] at m1
  go_wp2_with fail
  refine (CW.out _ _ _ _ HA0 n1 1 1 rfl ln1 (by decide) (by decide)).mono ?_
  rintro e X1 ⟨U1, rfl, hU1, hI1, hE1⟩
  obtain ⟨s1, hs1⟩ : ∃ s1, s1 = (W.nf s n1 1).2 := ⟨_, rfl⟩
  rw [← hs1] at hI1
  have HS1 := hid hs1
  have HU1 := hid hU1.out.1
  clear hs1 hU1
  have HB1 := hid (HA0.out.call K hB hI1.out hE1.out)
  have HA1 := hid (HB1.out.put K hB (Wr.set _ _ 1 (.int .i64 (U1 : Int))) (o' := (⟨m.kd, U1, 0, 0, 0, 0, D0, false, none, 0, 0, false, 0, 0, none, 0, 0⟩ : Md)) (O' := (⟨M.kd, U1, 0, 0, 0, 0, d0z, d0z, d0z, d0z, false, [], false, 0, 0, []⟩ : Ml)) (HB1.out.ou.put1 1 _ _ rfl) { HB1.out.rp with fr := rfl })
  clear hI1 hE1
  clear x0 x1 x2 m1
  have x0 := HB1.out.wk.c0
  have x1 := HB1.out.wk.c1
  have x2 := HB1.out.wk.c2
  have z1 := HB1.out.ou.frozen 1
  have y1 := HB1.out.ou.c1
  have m2 := HB1.out.ar.c2
  rw [ETU.out] at m2
  go_wp2_with fail
  refine (CW.out _ _ _ _ HA1 n2 1 1 rfl ln2 (by decide) (by decide)).mono ?_
  rintro e X2 ⟨U2, rfl, hU2, hI2, hE2⟩
  obtain ⟨s2, hs2⟩ : ∃ s2, s2 = (W.nf s1 n2 1).2 := ⟨_, rfl⟩
  rw [← hs2] at hI2
  have HS2 := hid hs2
  have HU2 := hid hU2.out.1
  clear hs2 hU2
  have HB2 := hid (HA1.out.call K hB hI2.out hE2.out)
  have HA2 := hid (HB2.out.put K hB (Wr.set _ _ 2 (.int .i64 (U2 : Int))) (o' := (⟨m.kd, U1, U2, 0, 0, 0, D0, false, none, 0, 0, false, 0, 0, none, 0, 0⟩ : Md)) (O' := (⟨M.kd, U1, U2, 0, 0, 0, d0z, d0z, d0z, d0z, false, [], false, 0, 0, []⟩ : Ml)) (HB2.out.ou.put1 2 _ _ rfl) { HB2.out.rp with tu := rfl })
  clear hI2 hE2
  clear x0 x1 x2 z1 y1 m2
  have x0 := HB2.out.wk.c0
  have x1 := HB2.out.wk.c1
  have x2 := HB2.out.wk.c2
  have z2 := HB2.out.ou.frozen 2
  have y2 := HB2.out.ou.c2
  have m3 := HB2.out.ar.c3
  rw [EEP.out] at m3
  go_wp2_with fail
  refine (CW.out _ _ _ _ HA2 n3 2 2 rfl ln3 (by decide) (by decide)).mono ?_
  rintro e X3 ⟨U3, rfl, hU3, hI3, hE3⟩
  obtain ⟨s3, hs3⟩ : ∃ s3, s3 = (W.nf s2 n3 2).2 := ⟨_, rfl⟩
  rw [← hs3] at hI3
  have HS3 := hid hs3
  have HU3 := hid hU3.out.1
  clear hs3 hU3
  have HB3 := hid (HA2.out.call K hB hI3.out hE3.out)
  have HA3 := hid (HB3.out.put K hB (Wr.set _ _ 3 (.int .i64 (U3 : Int))) (o' := (⟨m.kd, U1, U2, U3, 0, 0, D0, false, none, 0, 0, false, 0, 0, none, 0, 0⟩ : Md)) (O' := (⟨M.kd, U1, U2, U3, 0, 0, d0z, d0z, d0z, d0z, false, [], false, 0, 0, []⟩ : Ml)) (HB3.out.ou.put1 3 _ _ rfl) { HB3.out.rp with ep := rfl })
  clear hI3 hE3
  clear x0 x1 x2 z2 y2 m3
  have x0 := HB3.out.wk.c0
  have x1 := HB3.out.wk.c1
  have x2 := HB3.out.wk.c2
  have z3 := HB3.out.ou.frozen 3
  have y3 := HB3.out.ou.c3
  have m4 := HB3.out.ar.c4
  rw [ENU.out] at m4
  go_wp2_with fail
  refine (CW.out _ _ _ _ HA3 n4 3 3 rfl ln4 (by decide) (by decide)).mono ?_
  rintro e X4 ⟨U4, rfl, hU4, hI4, hE4⟩
  obtain ⟨s4, hs4⟩ : ∃ s4, s4 = (W.nf s3 n4 3).2 := ⟨_, rfl⟩
  rw [← hs4] at hI4
  have HS4 := hid hs4
  have HU4 := hid hU4.out.1
  clear hs4 hU4
  have HB4 := hid (HA3.out.call K hB hI4.out hE4.out)
  have HA4 := hid (HB4.out.put K hB (Wr.set _ _ 4 (.int .i64 (U4 : Int))) (o' := (⟨m.kd, U1, U2, U3, U4, 0, D0, false, none, 0, 0, false, 0, 0, none, 0, 0⟩ : Md)) (O' := (⟨M.kd, U1, U2, U3, U4, 0, d0z, d0z, d0z, d0z, false, [], false, 0, 0, []⟩ : Ml)) (HB4.out.ou.put1 4 _ _ rfl) { HB4.out.rp with nu := rfl })
  clear hI4 hE4
  clear x0 x1 x2 z3 y3 m4
  have x0 := HB4.out.wk.c0
  have x1 := HB4.out.wk.c1
  have x2 := HB4.out.wk.c2
  have z4 := HB4.out.ou.frozen 4
  have y4 := HB4.out.ou.c4
  have m0 := HB4.out.ar.c0
  rw [HKD.out, hkk] at m0
  have m6 := HB4.out.ar.c6
  have m7 := HB4.out.ar.c7
  have m8 := HB4.out.ar.c8
  go_wp2_with fail
  refine (CD.out _ _ _ _ HA4 0 (by decide) _ HM.out.S).mono ?_
  rintro e X5 ⟨E5, rfl, hU5, hD5, hI5, hE5⟩
  obtain ⟨s5, hs5⟩ : ∃ s5, s5 = (W.df s4 M.S).2 := ⟨_, rfl⟩
  rw [← hs5] at hI5
  have HS5 := hid hs5
  obtain ⟨d5, hd5⟩ : ∃ d5, d5 = (W.df s4 M.S).1 := ⟨_, rfl⟩
  rw [← hd5] at hU5
  have HU5 := hid hd5
  clear hs5 hd5
  have HB5 := hid (HA4.out.call K hB hI5.out hE5.out)
  have HA5 := hid (HB5.out.put K hB (((Wr.set _ _ 6 _).trans (Wr.set _ _ 7 _)).trans (Wr.set _ _ 8 _)) (o' := (⟨m.kd, U1, U2, U3, U4, 0, (updD D0 0 E5), false, none, 0, 0, false, 0, 0, none, 0, 0⟩ : Md)) (O' := (⟨M.kd, U1, U2, U3, U4, 0, d5, d0z, d0z, d0z, false, [], false, 0, 0, []⟩ : Ml)) (HB5.out.ou.put3 6 7 8 _ _ _ _ rfl) { HB5.out.rp with S := hU5.out, dv := dv_upd HB5.out.rp.dv hD5.out })
  clear hI5 hE5
  clear x0 x1 x2 z4 y4 m0 m6 m7 m8
  have x0 := HB5.out.wk.c0
  have x1 := HB5.out.wk.c1
  have x2 := HB5.out.wk.c2
  have z6 := HB5.out.ou.frozen 6
  have y6 := HB5.out.ou.c6
  have z7 := HB5.out.ou.frozen 7
  have y7 := HB5.out.ou.c7
  have z8 := HB5.out.ou.frozen 8
  have y8 := HB5.out.ou.c8
  have m9 := HB5.out.ar.c9
  have m10 := HB5.out.ar.c10
  have m11 := HB5.out.ar.c11
  go_wp2_with fail
  refine (CD.out _ _ _ _ HA5 1 (by decide) _ HM.out.W).mono ?_
  rintro e X6 ⟨E6, rfl, hU6, hD6, hI6, hE6⟩
  obtain ⟨s6, hs6⟩ : ∃ s6, s6 = (W.df s5 M.W).2 := ⟨_, rfl⟩
  rw [← hs6] at hI6
  have HS6 := hid hs6
  obtain ⟨d6, hd6⟩ : ∃ d6, d6 = (W.df s5 M.W).1 := ⟨_, rfl⟩
  rw [← hd6] at hU6
  have HU6 := hid hd6
  clear hs6 hd6
  have HB6 := hid (HA5.out.call K hB hI6.out hE6.out)
  have HA6 := hid (HB6.out.put K hB (((Wr.set _ _ 9 _).trans (Wr.set _ _ 10 _)).trans (Wr.set _ _ 11 _)) (o' := (⟨m.kd, U1, U2, U3, U4, 0, (updD (updD D0 0 E5) 1 E6), false, none, 0, 0, false, 0, 0, none, 0, 0⟩ : Md)) (O' := (⟨M.kd, U1, U2, U3, U4, 0, d5, d6, d0z, d0z, false, [], false, 0, 0, []⟩ : Ml)) (HB6.out.ou.put3 9 10 11 _ _ _ _ rfl) { HB6.out.rp with W := hU6.out, dv := dv_upd HB6.out.rp.dv hD6.out })
  clear hI6 hE6
  clear x0 x1 x2 z6 y6 z7 y7 z8 y8 m9 m10 m11
  have x0 := HB6.out.wk.c0
  have x1 := HB6.out.wk.c1
  have x2 := HB6.out.wk.c2
  have z9 := HB6.out.ou.frozen 9
  have y9 := HB6.out.ou.c9
  have z10 := HB6.out.ou.frozen 10
  have y10 := HB6.out.ou.c10
  have z11 := HB6.out.ou.frozen 11
  have y11 := HB6.out.ou.c11
  go_upto_region 23 with fail
  have HD := hid (HA6.out.done K hB)
  have HP := hid HA6.out.ou
  have HZ := hid HA6.out.zr
  clear x0 x1 x2 z9 y9 z10 y10 z11 y11
  go_wp2_with (first | (refine wp_pload rfl (.tmp 5) (by with_reducible rfl) (w.heap.size + 1 + 1 + 1) _ (by rfl) HP.out ?_) | (refine wp_pstore rfl (.tmp 4) (.tmp 110) (by with_reducible rfl) (w.heap.size + 1 + 1) (Mz 0) _ (by rfl) (by rfl) HZ.out ?_) | fail)
  obtain ⟨q1, q2, q3, q4⟩ := HD.out
  have hh := headP_eq (M := M) HN1.out HN2.out HN3.out HN4.out HU1.out HS1.out HU2.out HS2.out HU3.out HS3.out HU4.out HS4.out
  have HQ : alongP W s M = ((⟨M.kd, U1, U2, U3, U4, 0, d5, d6, d0z, d0z, false, [], false, 0, 0, []⟩ : Ml), s6) := by
    unfold alongP kindP hedP
    rw [hh, if_pos hkk]
    rw [HS6.out, HU6.out, HS5.out, HU5.out]
    try rfl
  refine ret_mail1 rfl (by rfl) rfl q1 ⟨_, rfl, hid ?_, hid ?_, hid q4⟩
  · rw [HQ]
    exact q2
  · rw [HQ]
    exact q3
open Go.RowKit Go.Shelf Go.Lib
set_option maxRecDepth 100000
set_option maxHeartbeats 64000000 in
theorem along_k2 {σ : Type} {W : Walker σ} {G : Nat → Prop} {Ba B : Nat} {I : σ → World → Prop} {Dv : World → Dy → Prop} {fn ff fd : Nat} {bd : Array Value} (K : Wlk W G Ba B I Dv fn ff fd bd)
    {s : σ} {w : World} (hs : I s w) (hB : B ≤ w.heap.size) {m : Md} {M : Ml} (ha : Arg w Ba m M) (hk : AlOk W s M) (hkk : M.kd = 2) :
    Calls Tryz.prog 21 #[wkv fn ff fd bd, .agg (mdc m)] w fun e w' =>
      ∃ m', e = .returned (.agg (mdc m')) ∧ Hid (Out Dv w' w.heap.size m' (alongP W s M).1) ∧ Hid (I (alongP W s M).2 w') ∧ Hid (Ex G w w') := by
  obtain ⟨w1, hw1⟩ : ∃ w1, w1 = ((w.alloc (.cells #[.func (.func fn) bd #[], .func (.func ff) bd #[], .func (.func fd) bd #[]] 57)).alloc (.cells (mdc m) 31)).alloc (.cells (mdc (Mz 0)) 31) := ⟨_, rfl⟩
  obtain ⟨w2, hw2⟩ : ∃ w2, w2 = pstore (w1.alloc (.cells (mdc (Mz 0)) 31)) (w.heap.size + 1 + 1 + 1) (Mz m.kd) := ⟨_, rfl⟩
  have hs1 : w1.heap.size = w.heap.size + 1 + 1 + 1 := by rw [hw1]; simp
  have HA0 := hid (along_head K hs hB ha hw1 hw2)
  have x1 : Pbox w1 (w.heap.size + 1) m := hw1 ▸ new31 w _ _ _
  have C0 := hid x1.c0
  have HM := hid ha
  have HK := hid hk
  have CW := hid (show ∀ (o : Md) (O : Ml) (s1 : σ) (X : World), Hid (Alg G I Dv fn ff fd bd w m o O s1 X) → ∀ (n z : Nat) (zi : Int), (z : Int) = zi → n < 4294967296 → 1 ≤ z → z ≤ 4 → _ from fun o O s1 X h n z zi hzi hn h1 h4 => whole_any K h.out.st (Nat.le_trans hB (Nat.le_trans (by omega) h.out.sz)) n z zi hzi hn h1 h4)
  have XN := hid (show Pbox (w1.alloc (.cells (mdc (Mz 0)) 31)) (w.heap.size + 1 + 1 + 1) (Mz 0) from hs1 ▸ new0 w1 _)
  have HW1 := hid hw1
  have HW2 := hid hw2
  have HS1 := hid hs1
  have en := K.en
  have ef := K.ef
  have ed := K.ed
  have efr : m.fr = ((M.fr.toNat : Nat) : Int) := by have := ha.fr; have := hk.fr; omega
  have etu : m.tu = ((M.tu.toNat : Nat) : Int) := by have := ha.tu; have := hk.tu; omega
  have eep : m.ep = ((M.ep.toNat : Nat) : Int) := by have := ha.ep; have := hk.ep; omega
  have enu : m.nu = ((M.nu.toNat : Nat) : Int) := by have := ha.nu; have := hk.nu; omega
  have eab : m.ab = ((M.ab.toNat : Nat) : Int) := by have := ha.ab; have := hk.ab; omega
  have lfr : M.fr.toNat < 4294967296 := by have := hk.fr; omega
  have ltu : M.tu.toNat < 4294967296 := by have := hk.tu; omega
  have lep : M.ep.toNat < 4294967296 := by have := hk.ep; omega
  have lnu : M.nu.toNat < 4294967296 := by have := hk.nu; omega
  have lab : M.ab.toNat < 4294967296 := by have := hk.ab; omega
  have EFR := hid efr
  have ETU := hid etu
  have EEP := hid eep
  have ENU := hid enu
  have EAB := hid eab
  have HKD := hid ha.kd
  have hkd := hk.kd
  clear hw1 hw2 hs ha hk hs1 x1 efr etu eep enu eab
  go_enter Tryz.func21, Tryz.ntmps21
  go_upto_region 1 with fail
  change Code.wp _ _ _ _ (((w.alloc (.cells #[.func (.func fn) bd #[], .func (.func ff) bd #[], .func (.func fd) bd #[]] 57)).alloc (.cells (mdc m) 31)).alloc (.cells (mdc (Mz 0)) 31))
  rw [← HW1.out]
  have c0 := C0.out
  have hs1 := HS1.out
  go_upto_region 2 with (first | (refine wp_pstore rfl (.tmp 5) (.tmp 8) (by with_reducible rfl) (w.heap.size + 1 + 1 + 1) (Mz 0) (Mz m.kd) (by rfl) (by rfl) XN.out ?_) | fail)
  change Code.wp _ _ _ _ (pstore (w1.alloc (.cells (mdc (Mz 0)) 31)) (w.heap.size + 1 + 1 + 1) (Mz m.kd))
  rw [← HW2.out]
  clear c0 C0 HW1 HW2 hs1 XN
  have CD := hid (show ∀ (o : Md) (O : Ml) (s1 : σ) (X : World), Hid (Alg G I Dv fn ff fd bd w m o O s1 X) → ∀ (k : Nat), k < 4 → ∀ d, DV (m.D k) d → _ from fun o O s1 X h k hk4 d hd => K.dyad s1 X (m.D k) d h.out.st (Nat.le_trans hB (Nat.le_trans (by omega) h.out.sz)) hd ((HM.out.rd k hk4).below (h.out.ex.below (Nat.le_trans K.ab hB) (fun b hb => (K.gB b hb).1))))
  obtain ⟨n1, hn1⟩ : ∃ n1, n1 = M.fr.toNat := ⟨_, rfl⟩
  obtain ⟨n2, hn2⟩ : ∃ n2, n2 = M.tu.toNat := ⟨_, rfl⟩
  obtain ⟨n3, hn3⟩ : ∃ n3, n3 = M.ep.toNat := ⟨_, rfl⟩
  obtain ⟨n4, hn4⟩ : ∃ n4, n4 = M.nu.toNat := ⟨_, rfl⟩
  obtain ⟨n5, hn5⟩ : ∃ n5, n5 = M.ab.toNat := ⟨_, rfl⟩
  rw [← hn1] at EFR lfr
  rw [← hn2] at ETU ltu
  rw [← hn3] at EEP lep
  rw [← hn4] at ENU lnu
  rw [← hn5] at EAB lab
  have ln1 := lfr
  have ln2 := ltu
  have ln3 := lep
  have ln4 := lnu
  have ln5 := lab
  have HN1 := hid hn1
  have HN2 := hid hn2
  have HN3 := hid hn3
  have HN4 := hid hn4
  have HN5 := hid hn5
  clear hn1 hn2 hn3 hn4 hn5 lfr ltu lep lnu lab
  have x0 := HA0.out.wk.c0
  have x1 := HA0.out.wk.c1
  have x2 := HA0.out.wk.c2
  have m1 := HA0.out.ar.c1
  rw [EFR.out] at m1
  go_wp2_with fail
  refine (CW.out _ _ _ _ HA0 n1 1 1 rfl ln1 (by decide) (by decide)).mono ?_
  rintro e X1 ⟨U1, rfl, hU1, hI1, hE1⟩
  obtain ⟨s1, hs1⟩ : ∃ s1, s1 = (W.nf s n1 1).2 := ⟨_, rfl⟩
  rw [← hs1] at hI1
  have HS1 := hid hs1
  have HU1 := hid hU1.out.1
  clear hs1 hU1
  have HB1 := hid (HA0.out.call K hB hI1.out hE1.out)
  have HA1 := hid (HB1.out.put K hB (Wr.set _ _ 1 (.int .i64 (U1 : Int))) (o' := (⟨m.kd, U1, 0, 0, 0, 0, D0, false, none, 0, 0, false, 0, 0, none, 0, 0⟩ : Md)) (O' := (⟨M.kd, U1, 0, 0, 0, 0, d0z, d0z, d0z, d0z, false, [], false, 0, 0, []⟩ : Ml)) (HB1.out.ou.put1 1 _ _ rfl) { HB1.out.rp with fr := rfl })
  clear hI1 hE1
  clear x0 x1 x2 m1
  have x0 := HB1.out.wk.c0
  have x1 := HB1.out.wk.c1
  have x2 := HB1.out.wk.c2
  have z1 := HB1.out.ou.frozen 1
  have y1 := HB1.out.ou.c1
  have m2 := HB1.out.ar.c2
  rw [ETU.out] at m2
  go_wp2_with fail
  refine (CW.out _ _ _ _ HA1 n2 1 1 rfl ln2 (by decide) (by decide)).mono ?_
  rintro e X2 ⟨U2, rfl, hU2, hI2, hE2⟩
  obtain ⟨s2, hs2⟩ : ∃ s2, s2 = (W.nf s1 n2 1).2 := ⟨_, rfl⟩
  rw [← hs2] at hI2
  have HS2 := hid hs2
  have HU2 := hid hU2.out.1
  clear hs2 hU2
  have HB2 := hid (HA1.out.call K hB hI2.out hE2.out)
  have HA2 := hid (HB2.out.put K hB (Wr.set _ _ 2 (.int .i64 (U2 : Int))) (o' := (⟨m.kd, U1, U2, 0, 0, 0, D0, false, none, 0, 0, false, 0, 0, none, 0, 0⟩ : Md)) (O' := (⟨M.kd, U1, U2, 0, 0, 0, d0z, d0z, d0z, d0z, false, [], false, 0, 0, []⟩ : Ml)) (HB2.out.ou.put1 2 _ _ rfl) { HB2.out.rp with tu := rfl })
  clear hI2 hE2
  clear x0 x1 x2 z1 y1 m2
  have x0 := HB2.out.wk.c0
  have x1 := HB2.out.wk.c1
  have x2 := HB2.out.wk.c2
  have z2 := HB2.out.ou.frozen 2
  have y2 := HB2.out.ou.c2
  have m3 := HB2.out.ar.c3
  rw [EEP.out] at m3
  go_wp2_with fail
  refine (CW.out _ _ _ _ HA2 n3 2 2 rfl ln3 (by decide) (by decide)).mono ?_
  rintro e X3 ⟨U3, rfl, hU3, hI3, hE3⟩
  obtain ⟨s3, hs3⟩ : ∃ s3, s3 = (W.nf s2 n3 2).2 := ⟨_, rfl⟩
  rw [← hs3] at hI3
  have HS3 := hid hs3
  have HU3 := hid hU3.out.1
  clear hs3 hU3
  have HB3 := hid (HA2.out.call K hB hI3.out hE3.out)
  have HA3 := hid (HB3.out.put K hB (Wr.set _ _ 3 (.int .i64 (U3 : Int))) (o' := (⟨m.kd, U1, U2, U3, 0, 0, D0, false, none, 0, 0, false, 0, 0, none, 0, 0⟩ : Md)) (O' := (⟨M.kd, U1, U2, U3, 0, 0, d0z, d0z, d0z, d0z, false, [], false, 0, 0, []⟩ : Ml)) (HB3.out.ou.put1 3 _ _ rfl) { HB3.out.rp with ep := rfl })
  clear hI3 hE3
  clear x0 x1 x2 z2 y2 m3
  have x0 := HB3.out.wk.c0
  have x1 := HB3.out.wk.c1
  have x2 := HB3.out.wk.c2
  have z3 := HB3.out.ou.frozen 3
  have y3 := HB3.out.ou.c3
  have m4 := HB3.out.ar.c4
  rw [ENU.out] at m4
  go_wp2_with fail
  refine (CW.out _ _ _ _ HA3 n4 3 3 rfl ln4 (by decide) (by decide)).mono ?_
  rintro e X4 ⟨U4, rfl, hU4, hI4, hE4⟩
  obtain ⟨s4, hs4⟩ : ∃ s4, s4 = (W.nf s3 n4 3).2 := ⟨_, rfl⟩
  rw [← hs4] at hI4
  have HS4 := hid hs4
  have HU4 := hid hU4.out.1
  clear hs4 hU4
  have HB4 := hid (HA3.out.call K hB hI4.out hE4.out)
  have HA4 := hid (HB4.out.put K hB (Wr.set _ _ 4 (.int .i64 (U4 : Int))) (o' := (⟨m.kd, U1, U2, U3, U4, 0, D0, false, none, 0, 0, false, 0, 0, none, 0, 0⟩ : Md)) (O' := (⟨M.kd, U1, U2, U3, U4, 0, d0z, d0z, d0z, d0z, false, [], false, 0, 0, []⟩ : Ml)) (HB4.out.ou.put1 4 _ _ rfl) { HB4.out.rp with nu := rfl })
  clear hI4 hE4
  clear x0 x1 x2 z3 y3 m4
  have x0 := HB4.out.wk.c0
  have x1 := HB4.out.wk.c1
  have x2 := HB4.out.wk.c2
  have z4 := HB4.out.ou.frozen 4
  have y4 := HB4.out.ou.c4
  have m0 := HB4.out.ar.c0
  rw [HKD.out, hkk] at m0
  have m12 := HB4.out.ar.c12
  have m13 := HB4.out.ar.c13
  have m14 := HB4.out.ar.c14
  go_wp2_with fail
  refine (CD.out _ _ _ _ HA4 2 (by decide) _ HM.out.C).mono ?_
  rintro e X5 ⟨E5, rfl, hU5, hD5, hI5, hE5⟩
  obtain ⟨s5, hs5⟩ : ∃ s5, s5 = (W.df s4 M.C).2 := ⟨_, rfl⟩
  rw [← hs5] at hI5
  have HS5 := hid hs5
  obtain ⟨d5, hd5⟩ : ∃ d5, d5 = (W.df s4 M.C).1 := ⟨_, rfl⟩
  rw [← hd5] at hU5
  have HU5 := hid hd5
  clear hs5 hd5
  have HB5 := hid (HA4.out.call K hB hI5.out hE5.out)
  have HA5 := hid (HB5.out.put K hB (((Wr.set _ _ 12 _).trans (Wr.set _ _ 13 _)).trans (Wr.set _ _ 14 _)) (o' := (⟨m.kd, U1, U2, U3, U4, 0, (updD D0 2 E5), false, none, 0, 0, false, 0, 0, none, 0, 0⟩ : Md)) (O' := (⟨M.kd, U1, U2, U3, U4, 0, d0z, d0z, d5, d0z, false, [], false, 0, 0, []⟩ : Ml)) (HB5.out.ou.put3 12 13 14 _ _ _ _ rfl) { HB5.out.rp with C := hU5.out, dv := dv_upd HB5.out.rp.dv hD5.out })
  clear hI5 hE5
  clear x0 x1 x2 z4 y4 m0 m12 m13 m14
  have x0 := HB5.out.wk.c0
  have x1 := HB5.out.wk.c1
  have x2 := HB5.out.wk.c2
  have z12 := HB5.out.ou.frozen 12
  have y12 := HB5.out.ou.c12
  have z13 := HB5.out.ou.frozen 13
  have y13 := HB5.out.ou.c13
  have z14 := HB5.out.ou.frozen 14
  have y14 := HB5.out.ou.c14
  have m15 := HB5.out.ar.c15
  have m16 := HB5.out.ar.c16
  have m17 := HB5.out.ar.c17
  go_wp2_with fail
  refine (CD.out _ _ _ _ HA5 3 (by decide) _ HM.out.A).mono ?_
  rintro e X6 ⟨E6, rfl, hU6, hD6, hI6, hE6⟩
  obtain ⟨s6, hs6⟩ : ∃ s6, s6 = (W.df s5 M.A).2 := ⟨_, rfl⟩
  rw [← hs6] at hI6
  have HS6 := hid hs6
  obtain ⟨d6, hd6⟩ : ∃ d6, d6 = (W.df s5 M.A).1 := ⟨_, rfl⟩
  rw [← hd6] at hU6
  have HU6 := hid hd6
  clear hs6 hd6
  have HB6 := hid (HA5.out.call K hB hI6.out hE6.out)
  have HA6 := hid (HB6.out.put K hB (((Wr.set _ _ 15 _).trans (Wr.set _ _ 16 _)).trans (Wr.set _ _ 17 _)) (o' := (⟨m.kd, U1, U2, U3, U4, 0, (updD (updD D0 2 E5) 3 E6), false, none, 0, 0, false, 0, 0, none, 0, 0⟩ : Md)) (O' := (⟨M.kd, U1, U2, U3, U4, 0, d0z, d0z, d5, d6, false, [], false, 0, 0, []⟩ : Ml)) (HB6.out.ou.put3 15 16 17 _ _ _ _ rfl) { HB6.out.rp with A := hU6.out, dv := dv_upd HB6.out.rp.dv hD6.out })
  clear hI6 hE6
  clear x0 x1 x2 z12 y12 z13 y13 z14 y14 m15 m16 m17
  have x0 := HB6.out.wk.c0
  have x1 := HB6.out.wk.c1
  have x2 := HB6.out.wk.c2
  have z15 := HB6.out.ou.frozen 15
  have y15 := HB6.out.ou.c15
  have z16 := HB6.out.ou.frozen 16
  have y16 := HB6.out.ou.c16
  have z17 := HB6.out.ou.frozen 17
  have y17 := HB6.out.ou.c17
  go_upto_region 23 with fail
  have HD := hid (HA6.out.done K hB)
  have HP := hid HA6.out.ou
  have HZ := hid HA6.out.zr
  clear x0 x1 x2 z15 y15 z16 y16 z17 y17
  go_wp2_with (first | (refine wp_pload rfl (.tmp 5) (by with_reducible rfl) (w.heap.size + 1 + 1 + 1) _ (by rfl) HP.out ?_) | (refine wp_pstore rfl (.tmp 4) (.tmp 110) (by with_reducible rfl) (w.heap.size + 1 + 1) (Mz 0) _ (by rfl) (by rfl) HZ.out ?_) | fail)
  obtain ⟨q1, q2, q3, q4⟩ := HD.out
  have hh := headP_eq (M := M) HN1.out HN2.out HN3.out HN4.out HU1.out HS1.out HU2.out HS2.out HU3.out HS3.out HU4.out HS4.out
  have HQ : alongP W s M = ((⟨M.kd, U1, U2, U3, U4, 0, d0z, d0z, d5, d6, false, [], false, 0, 0, []⟩ : Ml), s6) := by
    unfold alongP kindP hedP
    rw [hh, if_neg (by omega), if_pos hkk]
    rw [HS6.out, HU6.out, HS5.out, HU5.out]
    try rfl
  refine ret_mail1 rfl (by rfl) rfl q1 ⟨_, rfl, hid ?_, hid ?_, hid q4⟩
  · rw [HQ]
    exact q2
  · rw [HQ]
    exact q3
end Go.Proofs.YtbankbehfjogpaaGreat
