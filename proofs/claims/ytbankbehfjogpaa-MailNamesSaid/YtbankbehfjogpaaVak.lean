/- A walk's lists of tags. -/
/- What a walk along a mail keeps, and what comes of the mail. -/
/- A walk along a mail: its beginning. -/
/- A walk along a mail of a kind. -/
import Derived.Test.YtbankbehfjogpaaVaj

namespace Go.Proofs.Ytbankbehfjogpaa
open Go.RowKit Go.Shelf Go.Lib
set_option maxRecDepth 100000

theorem Ot.ex {G : Nat → Prop} {w w' : World} {B : Nat} {v : Value} {l : List Nat} (h : Ot w B v l) (hx : Ex G w w') (hG : ∀ b, G b → b < B) : Ot w' B v l := by
  refine ⟨⟨h.own.1, ?_⟩, h.max, h.fit⟩
  rcases h.own.2 with h0 | ⟨g, cap, cur, e, hg, hh, hr⟩
  · exact .inl h0
  · exact .inr ⟨g, cap, cur, e, hg, hx.heap hh (fun hb => by have := hG g hb; omega), hr⟩
theorem TurnT.ex {G : Nat → Prop} {B' : Nat} {W w w' : World} {v v' : Value} {l r : List Nat} (h : TurnT w w' B' v v' l) (ho : Ot w B' v r) (hB : W.heap.size ≤ B') (hx : Ex G W w) : Ex G W w' := by
  refine ⟨h.grown.os.trans hx.os, h.grown.tape.trans hx.tape, h.grown.output.trans hx.output, Nat.le_trans hx.size h.grown.size, fun b hb hg => (h.grown.block b (Nat.lt_of_lt_of_le hb hx.size) fun e => ?_).trans (hx.block b hb hg)⟩
  have := (ot_lt ho b e.symm).1
  omega
theorem TurnT.al {B B' : Nat} {w w' : World} {v v' : Value} {l r : List Nat} (h : TurnT w w' B' v v' l) (ho : Ot w B' v r) (hB : B ≤ B') : Al Wtu B w w' := by
  refine ⟨h.grown.size, fun b hb hn => h.grown.block b hb fun e => ?_⟩
  rcases ho.own.2 with ⟨rfl, _⟩ | ⟨g, cap, cur, rfl, hg, hh, _⟩
  · simp [Value.ownBlock] at e
  · simp [Value.ownBlock] at e
    subst e
    rcases hn with hn | hn
    · omega
    · exact hn _ _ (.inr rfl) hh
/-- What stands behind a round. -/
theorem round_t {σ : Type} {W : Walker σ} {G : Nat → Prop} {Ba B : Nat} {I : σ → World → Prop} {Dv : World → Dy → Prop} {fn ff fd : Nat} {bd : Array Value} (K : Wlk W G Ba B I Dv fn ff fd bd) {w w3 w4 : World} (hB : B ≤ w.heap.size)
    {s : σ} {v v' : Value} {out : List Nat} {V : Nat} (hO : Ot (w3.alloc (.cells #[.int .u32 (V : Int)] 34)) w.heap.size v out) (hI : I s w3) (hX : Ex G w w3)
    (hT : TurnT (w3.alloc (.cells #[.int .u32 (V : Int)] 34)) w4 w.heap.size v v' (out ++ [V])) : Ot w4 w.heap.size v' (out ++ [V]) ∧ I s w4 ∧ Ex G w w4 :=
  ⟨hT.own, K.inv _ _ _ hI ((Al.alloc _).trans (hT.al hO hB)), hT.ex hO (Nat.le_refl _) (hX.alloc _)⟩
set_option maxHeartbeats 12800000 in
theorem weachT_any {σ : Type} {W : Walker σ} {G : Nat → Prop} {Ba B : Nat} {I : σ → World → Prop} {Dv : World → Dy → Prop} {fn ff fd : Nat} {bd : Array Value} (K : Wlk W G Ba B I Dv fn ff fd bd)
    {s : σ} {w : World} (hs : I s w) (hB : B ≤ w.heap.size) {A : Option Addr} {n c N : Nat} {l : List Nat} {t : Nat → Nat} (hl : Rd w Ba A n c t) (hlen : l.length = n) (ht : ∀ j, t j = (l[j]?).getD 0) (hn : n ≤ 1000) (hN : N = (W.nf s n 1).1) (hN2 : N ≤ 1000) :
    Calls Try.prog 52 #[wkv fn ff fd bd, .slice A n c, .func (.func 53) #[wkv fn ff fd bd] #[]] w fun e w' =>
      ∃ v, e = .returned v ∧ Hid (Ot w' w.heap.size v (tgsP W l (W.nf s n 1).2 N).1) ∧ Hid (I (tgsP W l (W.nf s n 1).2 N).2 w') ∧ Hid (Ex G w w') := by
  obtain ⟨w1, hw1⟩ : ∃ w1, w1 = w.alloc (.cells #[.func (.func fn) bd #[], .func (.func ff) bd #[], .func (.func fd) bd #[]] 60) := ⟨_, rfl⟩
  have E0 := hid (show Ex G w w1 from hw1 ▸ (Ex.refl G w).alloc _)
  have I0 := K.inv s w w1 hs (hw1 ▸ Al.alloc _)
  have X0 : Hid (Wbx w1 w.heap.size fn ff fd bd) := hid (hw1 ▸ heap_alloc_new w _)
  have hcap := hl.cap
  have CN := hid (K.num s w1 n 1 I0 (Nat.le_trans hB E0.out.size) (by omega) (by omega) (by omega))
  have HW := hid hw1
  have HL := hid hl
  have HLen := hid hlen
  have HN := hid hN
  have HT := hid ht
  have en := K.en
  have c0 := X0.out.c0
  have hc : IntKind.u64.wrap (n : Int) = (n : Int) := IntWalk.u64_in _ (by omega)
  have hGB : ∀ b, G b → Ba ≤ b := fun b hb => (K.gB b hb).1
  have HGB := hid hGB
  have HG := hid (show ∀ b, G b → b < w.heap.size from fun b hb => Nat.lt_of_lt_of_le (K.gB b hb).2 hB)
  have hBa : Ba ≤ w.heap.size := Nat.le_trans K.ab hB
  clear hw1 hs I0 hl hlen hN ht hGB
  generalize (W.nf s n 1).2 = s1 at CN ⊢
  go_enter Try.func52, Try.ntmps52
  go_upto_region 1 with fail
  rw [← HW.out]
  clear HW
  go_wp2_with fail
  refine CN.out.mono ?_
  rintro e w2 ⟨U, rfl, hU, hI, hE⟩
  have hU2 := hU.out.2
  obtain rfl : U = N := hU.out.1.trans HN.out.symm
  have EE := hid (E0.out.trans hE.out)
  clear CN c0 X0
  go_wp2
  go_loopg [7, 16] U (fun gg s7 s16 wr => ∃ k : Nat, k ≤ U ∧ U - k ≤ gg ∧ s16 = .int .u64 (k : Int) ∧ Hid (Ot wr w.heap.size s7 (tgsP W l s1 k).1) ∧ Hid (I (tgsP W l s1 k).2 wr) ∧ Hid (Ex G w wr))
  case atStart => exact ⟨0, Nat.zero_le _, by omega, rfl, hid (Ot.nil _ _), hI, EE⟩
  case round =>
    obtain ⟨k, hk, hg, rfl, HO, HI, HX⟩ := hrel
    by_cases hlt : k < U
    · have hltz : decide ((k : Int) < (U : Int)) = true := decide_eq_true (by omega)
      have hw16 : IntKind.u64.wrap ((k : Int) + 1) = (k : Int) + 1 := IntWalk.u64_in _ (by omega)
      have hsz := HX.out.size
      obtain ⟨out, hout⟩ : ∃ out, out = (tgsP W l s1 k).1 := ⟨_, rfl⟩
      obtain ⟨sk, hsk⟩ : ∃ sk, sk = (tgsP W l s1 k).2 := ⟨_, rfl⟩
      have HS1 := hid (show tgsP W l s1 (k + 1) = (out ++ [(W.nf sk (t k) 4).1], (W.nf sk (t k) 4).2) from by rw [hout, hsk, HT.out k]; rfl)
      have hol : out.length = k := by rw [hout]; exact tgsP_length W l s1 k
      rw [← hout] at HO
      rw [← hsk] at HI
      have HOL := hid hol
      clear hout hsk hol
      have hp := HL.out.lt k
      have CD := hid (fun X (hX : Hid (I sk X)) (hE : Hid (Ex G w X)) => tag_any K hX.out (Nat.le_trans hB hE.out.size) (t k) hp)
      by_cases hin : k < n
      · have hinz : decide ((k : Int) < (n : Int)) = true := decide_eq_true (by omega)
        obtain ⟨b, off, rfl, hbB, hcc⟩ := HL.out.at_ (by omega)
        have HBL := hid (HX.out.below hBa HGB.out)
        have d1 := (HBL.out.cell (p := ⟨b, off + k, none⟩) hbB).trans (hcc k hin)
        generalize t k = p at *
        have hbw : b < wr.heap.size := by omega
        clear hcc
        go_wp2_with fail
        refine (CD.out _ HI HX).mono ?_
        rintro e w3 ⟨V1, rfl, hV, hI3, hE3⟩
        have HX3 := hid (HX.out.trans hE3.out)
        have HO3 := hid ((HO.out.ex hE3.out HG.out).ex (Ex.of_below ((Below.refl _ w3).alloc (Nat.le_refl _) (.cells #[.int .u32 (V1 : Int)] 34))) HG.out)
        have hs3 := HX3.out.size
        have hfit : ∀ d, d ∈ [V1] → d < 4294967296 := by intro d hd; simp at hd; rw [hd]; exact hV.out.2
        have HF1 := hid hfit
        clear hfit
        go_wp2_with (at_builtin; refine list_appT rfl (.tmp 28) (.tmp 32) rfl (v := u7) (B := w.heap.size) (l := out) (r := [V1]) rfl rfl HO3.out (ut_row (heap_alloc_new w3 _) (by simp) HF1.out) (by have := HOL.out; omega) (by simp; omega) ?_; intro v4 w4 HT4)
        have HR := hid (round_t K hB HO3.out hI3.out HX3.out HT4.out)
        have HP := hid (show tgsP W l s1 (k + 1) = (out ++ [V1], (W.nf sk p 4).2) from by rw [HS1.out, ← hV.out.1])
        go_roundg (U - (k + 1))
        case measure => omega
        case rel => exact ⟨k + 1, by omega, by omega, by go_num, hid (by rw [HP.out]; exact HR.out.1), hid (by rw [HP.out]; exact HR.out.2.1), hid HR.out.2.2⟩
      · have hinz : decide ((k : Int) < (n : Int)) = false := decide_eq_false (by omega)
        have hz := HL.out.out k (by omega)
        rw [hz] at CD HS1
        clear hz hp
        go_wp2_with fail
        refine (CD.out _ HI HX).mono ?_
        rintro e w3 ⟨V1, rfl, hV, hI3, hE3⟩
        have HX3 := hid (HX.out.trans hE3.out)
        have HO3 := hid ((HO.out.ex hE3.out HG.out).ex (Ex.of_below ((Below.refl _ w3).alloc (Nat.le_refl _) (.cells #[.int .u32 (V1 : Int)] 34))) HG.out)
        have hs3 := HX3.out.size
        have hfit : ∀ d, d ∈ [V1] → d < 4294967296 := by intro d hd; simp at hd; rw [hd]; exact hV.out.2
        have HF1 := hid hfit
        clear hfit
        go_wp2_with (at_builtin; refine list_appT rfl (.tmp 28) (.tmp 32) rfl (v := u7) (B := w.heap.size) (l := out) (r := [V1]) rfl rfl HO3.out (ut_row (heap_alloc_new w3 _) (by simp) HF1.out) (by have := HOL.out; omega) (by simp; omega) ?_; intro v4 w4 HT4)
        have HR := hid (round_t K hB HO3.out hI3.out HX3.out HT4.out)
        have HP := hid (show tgsP W l s1 (k + 1) = (out ++ [V1], (W.nf sk 0 4).2) from by rw [HS1.out, ← hV.out.1])
        go_roundg (U - (k + 1))
        case measure => omega
        case rel => exact ⟨k + 1, by omega, by omega, by go_num, hid (by rw [HP.out]; exact HR.out.1), hid (by rw [HP.out]; exact HR.out.2.1), hid HR.out.2.2⟩
    · have hltz : decide ((k : Int) < (U : Int)) = false := decide_eq_false (by omega)
      obtain rfl : k = U := by omega
      go_wp2
      go_ret
      exact ⟨_, rfl, HO, HI, HX⟩
end Go.Proofs.Ytbankbehfjogpaa


namespace Go.Proofs.Ytbankbehfjogpaa
open Go.RowKit Go.Shelf Go.Lib
set_option maxRecDepth 100000

/-- A mail of a kind, and no more. -/
def Mz (k : Nat) : Md := ⟨k, 0, 0, 0, 0, 0, D0, false, none, 0, 0, false, 0, 0, none, 0, 0⟩
def mz (k : Nat) : Ml := ⟨k, 0, 0, 0, 0, 0, d0z, d0z, d0z, d0z, false, [], false, 0, 0, []⟩
/-- The head of what comes. -/
def headP {σ : Type} (W : Walker σ) (s : σ) (M : Ml) : (Nat × Nat × Nat × Nat) × σ :=
  let a := W.nf s M.fr.toNat 1
  let b := W.nf a.2 M.tu.toNat 1
  let c := W.nf b.2 M.ep.toNat 2
  let d := W.nf c.2 M.nu.toNat 3
  ((a.1, b.1, c.1, d.1), d.2)
def hedP {σ : Type} (W : Walker σ) (s : σ) (M : Ml) : Ml := { mz M.kd with fr := (headP W s M).1.1, tu := (headP W s M).1.2.1, ep := (headP W s M).1.2.2.1, nu := (headP W s M).1.2.2.2 }
/-- What comes of the parts that a kind uses alone. -/
def kindP {σ : Type} (W : Walker σ) (h : Ml) (s : σ) (M : Ml) : Ml × σ :=
  if M.kd = 1 then ({ h with S := (W.df s M.S).1, W := (W.df (W.df s M.S).2 M.W).1 }, (W.df (W.df s M.S).2 M.W).2)
  else if M.kd = 2 then ({ h with C := (W.df s M.C).1, A := (W.df (W.df s M.C).2 M.A).1 }, (W.df (W.df s M.C).2 M.A).2)
  else if M.kd = 3 then
    let p := W.nf s M.ab.toNat 3
    ({ h with ab := p.1, C := (W.df p.2 M.C).1, A := (W.df (W.df p.2 M.C).2 M.A).1 }, (W.df (W.df p.2 M.C).2 M.A).2)
  else if M.kd = 4 then ({ h with ab := (W.nf s M.ab.toNat 3).1 }, (W.nf s M.ab.toNat 3).2)
  else if M.kd = 5 then
    let f := W.ff s M.wa
    let p := W.nf f.2 M.ls.length 1
    ({ h with wa := f.1, ls := (lisP W M.ls p.2 p.1).1 }, (lisP W M.ls p.2 p.1).2)
  else if M.kd = 6 then
    let e := edgP W s M.ha (M.mn + 2147483648).toNat (M.mx + 2147483648).toNat
    let p := W.nf e.2 M.le.length 1
    ({ h with ha := e.1.1, mn := (e.1.2.1 : Int) - 2147483648, mx := (e.1.2.2 : Int) - 2147483648, le := (tgsP W M.le p.2 p.1).1 }, (tgsP W M.le p.2 p.1).2)
  else (h, s)
def alongP {σ : Type} (W : Walker σ) (s : σ) (M : Ml) : Ml × σ := kindP W (hedP W s M) (headP W s M).2 M
/-- A walk can be gone: its numbers are none too great. -/
structure AlOk {σ : Type} (W : Walker σ) (s : σ) (M : Ml) : Prop where
  kd : M.kd < 256
  fr : 0 ≤ M.fr ∧ M.fr < 4294967296
  tu : 0 ≤ M.tu ∧ M.tu < 4294967296
  ep : 0 ≤ M.ep ∧ M.ep < 4294967296
  nu : 0 ≤ M.nu ∧ M.nu < 4294967296
  ab : 0 ≤ M.ab ∧ M.ab < 4294967296
  ls : ∀ d ∈ M.ls, 0 ≤ d.1 ∧ d.1 < 4294967296 ∧ 0 ≤ d.2 ∧ d.2 < 4294967296
  lsn : M.ls.length ≤ 1000
  mn : -2147483648 ≤ M.mn ∧ M.mn < 2147483648
  mx : -2147483648 ≤ M.mx ∧ M.mx < 2147483648
  len : M.le.length ≤ 1000
  nfl : ∀ s (n : Nat), n ≤ 1000 → (W.nf s n 1).1 ≤ 1000
/-- A mail as an argument, and what it is. -/
structure Arg (w : World) (Ba : Nat) (m : Md) (M : Ml) : Prop where
  kd : m.kd = M.kd
  fr : m.fr = M.fr
  tu : m.tu = M.tu
  ep : m.ep = M.ep
  nu : m.nu = M.nu
  ab : m.ab = M.ab
  rd : ∀ k, k < 4 → Rd w Ba (m.D k).A (m.D k).n (m.D k).c (m.D k).f
  S : DV (m.D 0) M.S
  W : DV (m.D 1) M.W
  C : DV (m.D 2) M.C
  A : DV (m.D 3) M.A
  wa : m.wa = M.wa
  ls : Ds w Ba m.A m.n m.c M.ls
  ha : m.ha = M.ha
  mn : m.mn = M.mn
  mx : m.mx = M.mx
  tg : ∃ t : Nat → Nat, Rd w Ba m.T m.k m.d t ∧ ∀ j, t j = (M.le[j]?).getD 0
  tn : M.le.length = m.k
/-- A mail that is answered, and what it is. -/
structure Out (Dv : World → Dy → Prop) (w : World) (B : Nat) (m : Md) (M : Ml) : Prop where
  kd : m.kd = M.kd
  fr : m.fr = M.fr
  tu : m.tu = M.tu
  ep : m.ep = M.ep
  nu : m.nu = M.nu
  ab : m.ab = M.ab
  dv : ∀ k, k < 4 → Dv w (m.D k)
  S : DV (m.D 0) M.S
  W : DV (m.D 1) M.W
  C : DV (m.D 2) M.C
  A : DV (m.D 3) M.A
  wa : m.wa = M.wa
  ls : Od w B (.slice m.A m.n m.c) M.ls
  ha : m.ha = M.ha
  mn : m.mn = M.mn
  mx : m.mx = M.mx
  tg : Ot w B (.slice m.T m.k m.d) M.le

/-- What stands while a walk goes along. -/
structure Alg {σ : Type} (G : Nat → Prop) (I : σ → World → Prop) (Dv : World → Dy → Prop) (fn ff fd : Nat) (bd : Array Value) (w : World) (m : Md) (o : Md) (O : Ml) (s : σ) (X : World) : Prop where
  wk : Wbx X w.heap.size fn ff fd bd
  ar : Pbox X (w.heap.size + 1) m
  zr : Pbox X (w.heap.size + 1 + 1) (Mz 0)
  ou : Pbox X (w.heap.size + 1 + 1 + 1) o
  st : I s X
  ex : Ex G w X
  sz : w.heap.size + 4 ≤ X.heap.size
  rp : Out Dv X (w.heap.size + 4) o O
section
variable {σ : Type} {W : Walker σ} {G : Nat → Prop} {Ba B : Nat} {I : σ → World → Prop} {Dv : World → Dy → Prop} {fn ff fd : Nat} {bd : Array Value}
theorem Out.ex {w w' : World} {C : Nat} {m : Md} {M : Ml} (K : Wlk W G Ba B I Dv fn ff fd bd) (h : Out Dv w C m M) (hx : Ex G w w') (hC : B ≤ C) : Out Dv w' C m M :=
  ⟨h.kd, h.fr, h.tu, h.ep, h.nu, h.ab, fun k hk => K.dex _ _ _ (h.dv k hk) hx, h.S, h.W, h.C, h.A, h.wa, h.ls.ex hx (fun b hb => Nat.lt_of_lt_of_le (K.gB b hb).2 hC), h.ha, h.mn, h.mx, h.tg.ex hx (fun b hb => Nat.lt_of_lt_of_le (K.gB b hb).2 hC)⟩
/-- Behind a call. -/
theorem Alg.call {w : World} {m o : Md} {O : Ml} {s s' : σ} {X X' : World} (K : Wlk W G Ba B I Dv fn ff fd bd) (hB : B ≤ w.heap.size) (h : Alg G I Dv fn ff fd bd w m o O s X) (hi : I s' X') (hx : Ex G X X') : Alg G I Dv fn ff fd bd w m o O s' X' :=
  have gl : ∀ b, w.heap.size ≤ b → ¬ G b := fun b hb hg => by have := (K.gB b hg).2; omega
  ⟨h.wk.ex hx (gl _ (by omega)), hx.heap h.ar (gl _ (by omega)), hx.heap h.zr (gl _ (by omega)), hx.heap h.ou (gl _ (by omega)), hi, h.ex.trans hx, Nat.le_trans h.sz hx.size, h.rp.ex K hx (by omega)⟩
/-- What a walk writes into its answer's box. -/
structure Wr (g : Nat) (X X' : World) : Prop where
  os : X'.os = X.os
  tape : X'.tape = X.tape
  output : X'.output = X.output
  size : X.heap.size = X'.heap.size
  block : ∀ b, b ≠ g → X'.heap[b]? = X.heap[b]?
theorem Wr.set (g : Nat) (X : World) (j : Nat) (v : Value) : Wr g X (X.setCell ⟨g, j, none⟩ v) := ⟨rfl, rfl, rfl, by simp [World.setCell], fun b hb => Below.heap_setCell _ _ _ b hb⟩
theorem Wr.trans {g : Nat} {X Y Z : World} (h : Wr g X Y) (k : Wr g Y Z) : Wr g X Z := ⟨k.os.trans h.os, k.tape.trans h.tape, k.output.trans h.output, h.size.trans k.size, fun b hb => (k.block b hb).trans (h.block b hb)⟩
theorem Wr.al {T : TypeId → Prop} {g : Nat} {X Y : World} {m : Md} (h : Wr g X Y) (hg : B ≤ g) (hp : Pbox X g m) (ht : T 31) : Al T B X Y :=
  ⟨Nat.le_of_eq h.size, fun b hb hn => h.block b (by rintro rfl; rcases hn with hn | hn; exact absurd hn (by omega); exact hn _ _ ht hp)⟩
theorem Wr.ex {g : Nat} {w X Y : World} (h : Wr g X Y) (hx : Ex G w X) (hg : w.heap.size ≤ g) : Ex G w Y :=
  ⟨h.os.trans hx.os, h.tape.trans hx.tape, h.output.trans hx.output, Nat.le_trans hx.size (Nat.le_of_eq h.size), fun b hb hn => (h.block b (by omega)).trans (hx.block b hb hn)⟩
theorem Od.wr {g : Nat} {X Y : World} {C : Nat} {v : Value} {l : List De} (h : Od X C v l) (hw : Wr g X Y) (hg : g < C) : Od Y C v l := by
  refine ⟨⟨h.own.1, ?_⟩, h.max⟩
  rcases h.own.2 with h0 | ⟨k, cap, cur, e, hk, hh, hr⟩
  · exact .inl h0
  · exact .inr ⟨k, cap, cur, e, hk, (hw.block k (by omega)).trans hh, hr⟩
theorem Ot.wr {g : Nat} {X Y : World} {C : Nat} {v : Value} {l : List Nat} (h : Ot X C v l) (hw : Wr g X Y) (hg : g < C) : Ot Y C v l := by
  refine ⟨⟨h.own.1, ?_⟩, h.max, h.fit⟩
  rcases h.own.2 with h0 | ⟨k, cap, cur, e, hk, hh, hr⟩
  · exact .inl h0
  · exact .inr ⟨k, cap, cur, e, hk, (hw.block k (by omega)).trans hh, hr⟩
theorem Out.wr {g : Nat} {X Y : World} {C : Nat} {p o : Md} {M : Ml} (K : Wlk W G Ba B I Dv fn ff fd bd) (h : Out Dv X C o M) (hw : Wr g X Y) (hg : g < C) (hB : B ≤ g) (hp : Pbox X g p) : Out Dv Y C o M :=
  ⟨h.kd, h.fr, h.tu, h.ep, h.nu, h.ab, fun k hk => K.dal _ _ _ (h.dv k hk) (hw.al hB hp (.inl rfl)), h.S, h.W, h.C, h.A, h.wa, h.ls.wr hw hg, h.ha, h.mn, h.mx, h.tg.wr hw hg⟩
/-- Behind a store into the answer's box. -/
theorem Alg.put {w : World} {m o o' : Md} {O O' : Ml} {s : σ} {X X' : World} (K : Wlk W G Ba B I Dv fn ff fd bd) (hB : B ≤ w.heap.size) (h : Alg G I Dv fn ff fd bd w m o O s X) (hw : Wr (w.heap.size + 1 + 1 + 1) X X') (hp : Pbox X' (w.heap.size + 1 + 1 + 1) o') (hr : Out Dv X (w.heap.size + 4) o' O') : Alg G I Dv fn ff fd bd w m o' O' s X' :=
  ⟨(hw.block _ (by omega)).trans h.wk, (hw.block _ (by omega)).trans h.ar, (hw.block _ (by omega)).trans h.zr, hp, K.inv _ _ _ h.st (hw.al (by omega) h.ou (.inl (.inl rfl))), hw.ex h.ex (by omega), by rw [← hw.size]; exact h.sz, hr.wr K hw (by omega) (by omega) h.ou⟩
end
/-- One cell. -/
theorem Pbox.put1 {w : World} {g : Nat} {o : Md} (h : Pbox w g o) (j : Nat) (v : Value) (o' : Md) (e : (mdc o).setIfInBounds j v = mdc o') : Pbox (w.setCell ⟨g, j, none⟩ v) g o' := by
  have := heap_setCell_same w g j _ _ v h
  rw [e] at this
  exact this
theorem Pbox.put3 {w : World} {g : Nat} {o : Md} (h : Pbox w g o) (i j k : Nat) (u v x : Value) (o' : Md) (e : (((mdc o).setIfInBounds i u).setIfInBounds j v).setIfInBounds k x = mdc o') : Pbox (((w.setCell ⟨g, i, none⟩ u).setCell ⟨g, j, none⟩ v).setCell ⟨g, k, none⟩ x) g o' := by
  have := heap_setCell_same _ g k _ _ x (heap_setCell_same _ g j _ _ v (heap_setCell_same w g i _ _ u h))
  rw [e] at this
  exact this
/-- The world behind a mail that is stored into its box. -/
def pstore (w : World) (g : Nat) (m : Md) : World := w.setCells g 0 (mdc m).toList
theorem Pbox.store {w : World} {g : Nat} {o : Md} (h : Pbox w g o) (m : Md) : Pbox (pstore w g m) g m := by
  obtain ⟨cs', h1, h2, h3⟩ := heap_setCells g _ (mdc m).toList 0 w _ h
  have e : cs' = mdc m := by
    apply Array.ext_getElem?
    intro j
    have h12 : (mdc o).size = 24 := rfl
    by_cases hj : j < 24
    · rw [h3 j (by omega), if_pos ⟨Nat.zero_le _, by show j < 0 + 24; omega⟩, Nat.sub_zero, Array.getElem?_toList]
    · rw [Array.getElem?_eq_none (by omega), Array.getElem?_eq_none (by show 24 ≤ j; omega)]
  rw [e] at h1
  exact h1
theorem Pbox.there {w : World} {g : Nat} {o : Md} (h : Pbox w g o) (m : Md) : w.there g 0 (mdc m).size := fun j hj => by
  rw [Nat.zero_add]
  refine ⟨?_, h.frozen j⟩
  rw [cell_of_row w g j _ _ (0, 0) h]
  have h1 : j < (mdc o).size := hj
  simp [h1]
theorem mdc_one (m : Md) : (mdc m).all (·.oneCell') = true := by
  refine all_oneCell_toArray (cs := (mdc m).toList) ?_
  intro v hv
  have hv2 : v ∈ [Value.int .u8 (m.kd : Int), .int .i64 m.fr, .int .i64 m.tu, .int .i64 m.ep, .int .i64 m.nu, .int .i64 m.ab, .bool (m.D 0).s, .slice (m.D 0).A (m.D 0).n (m.D 0).c, .int .i64 (m.D 0).x, .bool (m.D 1).s, .slice (m.D 1).A (m.D 1).n (m.D 1).c, .int .i64 (m.D 1).x, .bool (m.D 2).s, .slice (m.D 2).A (m.D 2).n (m.D 2).c, .int .i64 (m.D 2).x, .bool (m.D 3).s, .slice (m.D 3).A (m.D 3).n (m.D 3).c, .int .i64 (m.D 3).x, .bool m.wa, .slice m.A m.n m.c, .bool m.ha, .int .i64 m.mn, .int .i64 m.mx, .slice m.T m.k m.d] := hv
  simp only [List.mem_cons, List.not_mem_nil, or_false] at hv2
  rcases hv2 with rfl | rfl | rfl | rfl | rfl | rfl | rfl | rfl | rfl | rfl | rfl | rfl | rfl | rfl | rfl | rfl | rfl | rfl | rfl | rfl | rfl | rfl | rfl | rfl <;> rfl
theorem wr_setCells (g : Nat) : ∀ (vs : List Value) (o : Nat) (w : World), Wr g w (w.setCells g o vs)
  | [], _, _ => ⟨rfl, rfl, rfl, rfl, fun _ _ => rfl⟩
  | v :: vs, o, w => (Wr.set g w o v).trans (wr_setCells g vs (o + 1) _)
theorem wr_pstore (w : World) (g : Nat) (m : Md) : Wr g w (pstore w g m) := wr_setCells g _ 0 w
theorem mail_size_ (m : Md) : (Try.prog.info? 31).map (·.size) = some (mdc m).size := mail_size
theorem wp_pload {ops : Array Oper} {rest : List Oper} {o : Oper} {a : Act} {w : World} {Q : Exit → Act → World → Prop} (hgd : o.guard = none) (x : Operand) (ho : o.op = .load 31 x)
    (g : Nat) (m : Md) (hx : a.eval x = .pointer (some ⟨g, 0, none⟩)) (hg : Pbox w g m) (h : wpList Try.prog ops Q rest (a.put o.dst (.agg (mdc m))) w) : wpList Try.prog ops Q (o :: rest) a w :=
  wpList_load_row hgd _ x ho g hx _ _ _ _ hg Try.underlying31 rfl (mail_size_ m) h
theorem wp_pstore {ops : Array Oper} {rest : List Oper} {o : Oper} {a : Act} {w : World} {Q : Exit → Act → World → Prop} (hgd : o.guard = none) (x y : Operand) (ho : o.op = .store 31 x y)
    (g : Nat) (p m : Md) (hx : a.eval x = .pointer (some ⟨g, 0, none⟩)) (hy : a.eval y = .agg (mdc m)) (hg : Pbox w g p) (h : wpList Try.prog ops Q rest (a.put o.dst undef) (pstore w g m)) : wpList Try.prog ops Q (o :: rest) a w :=
  wpList_store_mid hgd _ x y ho g 0 (mdc m) hx hy (hg.there m) (mail_size_ m) (mdc_one m) h
/-- A result that lies in one variable: a mail. -/
theorem ret_mail1 {fn : Func} {R : Ending → World → Prop} {a : Act} {w : World} {p : Tmp} {g : Nat} {m : Md} (h : fn.results = #[.cell p 31]) (hp : a.tmps.getD p undef = .pointer (some ⟨g, 0, none⟩))
    (hd : a.defers = []) (hg : Pbox w g m) (hR : R (.returned (.agg (mdc m))) w) : bodyPost Try.prog fn R .ret a w :=
  bodyPost_ret (cells_agg h a.tmps w g _ _ _ _ hp hg Try.underlying31 rfl (mail_size_ m)) hd hR
theorem ret_mail2 {fn : Func} {R : Ending → World → Prop} {a : Act} {w : World} {p u : Tmp} {g : Nat} {m : Md} {er : Value} (h : fn.results = #[.cell p 31, .tmp u]) (hp : a.tmps.getD p undef = .pointer (some ⟨g, 0, none⟩)) (hu : a.tmps.getD u undef = er)
    (hd : a.defers = []) (hg : Pbox w g m) (hR : R (.returned (.tuple #[.agg (mdc m), er])) w) : bodyPost Try.prog fn R .ret a w := by
  refine bodyPost_ret ?_ hd hR
  rw [← hu]
  exact cells_agg_tmp h a.tmps w g _ _ _ _ hp hg Try.underlying31 rfl (mail_size_ m)
theorem Od.mono' {w : World} {B C : Nat} {v : Value} {l : List De} (h : Od w B v l) (hC : C ≤ B) : Od w C v l := by
  refine ⟨⟨h.own.1, ?_⟩, h.max⟩
  rcases h.own.2 with h0 | ⟨g, cap, cur, e, hg, hh⟩
  · exact .inl h0
  · exact .inr ⟨g, cap, cur, e, Nat.le_trans hC hg, hh⟩
theorem Out.mono {Dv : World → Dy → Prop} {w : World} {B C : Nat} {m : Md} {M : Ml} (h : Out Dv w B m M) (hC : C ≤ B) : Out Dv w C m M :=
  ⟨h.kd, h.fr, h.tu, h.ep, h.nu, h.ab, h.dv, h.S, h.W, h.C, h.A, h.wa, h.ls.mono' hC, h.ha, h.mn, h.mx, h.tg.mono hC⟩
theorem Alg.done {σ : Type} {W : Walker σ} {G : Nat → Prop} {Ba B : Nat} {I : σ → World → Prop} {Dv : World → Dy → Prop} {fn ff fd : Nat} {bd : Array Value} {w : World} {m o : Md} {O : Ml} {s : σ} {X : World}
    (K : Wlk W G Ba B I Dv fn ff fd bd) (hB : B ≤ w.heap.size) (h : Alg G I Dv fn ff fd bd w m o O s X) :
    Pbox (pstore X (w.heap.size + 1 + 1) o) (w.heap.size + 1 + 1) o ∧ Out Dv (pstore X (w.heap.size + 1 + 1) o) w.heap.size o O ∧ I s (pstore X (w.heap.size + 1 + 1) o) ∧ Ex G w (pstore X (w.heap.size + 1 + 1) o) :=
  have hw := wr_pstore X (w.heap.size + 1 + 1) o
  ⟨h.zr.store o, (h.rp.wr K hw (by omega) (by omega) h.zr).mono (by omega), K.inv _ _ _ h.st (hw.al (by omega) h.zr (.inl (.inl rfl))), hw.ex h.ex (by omega)⟩
theorem headP_eq {σ : Type} {W : Walker σ} {s s1 s2 s3 s4 : σ} {M : Ml} {n1 n2 n3 n4 U1 U2 U3 U4 : Nat} (h1 : n1 = M.fr.toNat) (h2 : n2 = M.tu.toNat) (h3 : n3 = M.ep.toNat) (h4 : n4 = M.nu.toNat)
    (u1 : U1 = (W.nf s n1 1).1) (t1 : s1 = (W.nf s n1 1).2) (u2 : U2 = (W.nf s1 n2 1).1) (t2 : s2 = (W.nf s1 n2 1).2) (u3 : U3 = (W.nf s2 n3 2).1) (t3 : s3 = (W.nf s2 n3 2).2) (u4 : U4 = (W.nf s3 n4 3).1) (t4 : s4 = (W.nf s3 n4 3).2) :
    headP W s M = ((U1, U2, U3, U4), s4) := by
  subst h1 h2 h3 h4 u1 t1 u2 t2 u3 t3 u4 t4
  rfl
theorem wty_u8 : ¬ Wtu 5 := by unfold Wtu Wty; decide
theorem wty_u32 : ¬ Wty 34 := by unfold Wty; decide
end Go.Proofs.Ytbankbehfjogpaa


namespace Go.Proofs.Ytbankbehfjogpaa
open Go.RowKit Go.Shelf Go.Lib
set_option maxRecDepth 100000

theorem along_head {σ : Type} {W : Walker σ} {G : Nat → Prop} {Ba B : Nat} {I : σ → World → Prop} {Dv : World → Dy → Prop} {fn ff fd : Nat} {bd : Array Value} (K : Wlk W G Ba B I Dv fn ff fd bd)
    {s : σ} {w w1 w2 : World} (hs : I s w) (hB : B ≤ w.heap.size) {m : Md} {M : Ml} (ha : Arg w Ba m M) (hw1 : w1 = ((w.alloc (.cells #[.func (.func fn) bd #[], .func (.func ff) bd #[], .func (.func fd) bd #[]] 60)).alloc (.cells (mdc m) 31)).alloc (.cells (mdc (Mz 0)) 31)) (hw2 : w2 = pstore (w1.alloc (.cells (mdc (Mz 0)) 31)) (w.heap.size + 1 + 1 + 1) (Mz m.kd)) :
    Alg G I Dv fn ff fd bd w m (Mz m.kd) (mz M.kd) s w2 := by
  have hs1 : w1.heap.size = w.heap.size + 1 + 1 + 1 := by rw [hw1]; simp
  have a : Wbx w1 w.heap.size fn ff fd bd := hw1 ▸ new30 w _ _ _
  have b : Pbox w1 (w.heap.size + 1) m := hw1 ▸ new31 w _ _ _
  have c : Pbox w1 (w.heap.size + 1 + 1) (Mz 0) := hw1 ▸ new32 w _ _ _
  obtain ⟨w3, hw3⟩ : ∃ w3, w3 = w1.alloc (.cells (mdc (Mz 0)) 31) := ⟨_, rfl⟩
  rw [← hw3] at hw2
  have hsz : w3.heap.size = w.heap.size + 4 := by rw [hw3, World.alloc]; simp [hs1]
  have hA : Alg G I Dv fn ff fd bd w m (Mz 0) (mz 0) s w3 := by
    refine ⟨hw3 ▸ a.alloc _, hw3 ▸ b.alloc _, hw3 ▸ c.alloc _, ?_, ?_, ?_, by omega, ?_⟩
    · have := new0 w1 (.cells (mdc (Mz 0)) 31)
      rw [hs1] at this
      exact hw3 ▸ this
    · exact K.inv _ _ _ hs (hw3 ▸ hw1 ▸ (al3 w _ _ _).trans (Al.alloc _))
    · exact hw3 ▸ hw1 ▸ (ex3 G w _ _ _).alloc _
    · exact ⟨rfl, rfl, rfl, rfl, rfl, rfl, fun k _ => K.dz _, ⟨rfl, rfl, rfl, rfl⟩, ⟨rfl, rfl, rfl, rfl⟩, ⟨rfl, rfl, rfl, rfl⟩, ⟨rfl, rfl, rfl, rfl⟩, rfl, Od.nil _ _, rfl, rfl, rfl, Ot.nil _ _⟩
  have hp := hA.ou.store (Mz m.kd)
  rw [← hw2] at hp
  exact hA.put K hB (hw2 ▸ wr_pstore _ _ _) hp ⟨ha.kd, rfl, rfl, rfl, rfl, rfl, fun k _ => K.dz _, ⟨rfl, rfl, rfl, rfl⟩, ⟨rfl, rfl, rfl, rfl⟩, ⟨rfl, rfl, rfl, rfl⟩, ⟨rfl, rfl, rfl, rfl⟩, rfl, Od.nil _ _, rfl, rfl, rfl, Ot.nil _ _⟩

theorem dv_upd {w : World} {Dv : World → Dy → Prop} {D : Nat → Dy} {k : Nat} {d : Dy} (h : ∀ j, j < 4 → Dv w (D j)) (hd : Dv w d) : ∀ j, j < 4 → Dv w (updD D k d j) := fun j hj => by
  unfold updD
  split
  · exact hd
  · exact h j hj
end Go.Proofs.Ytbankbehfjogpaa


namespace Go.Proofs.Ytbankbehfjogpaa
open Go.RowKit Go.Shelf Go.Lib
set_option maxRecDepth 100000

set_option maxHeartbeats 64000000 in
theorem along_k0 {σ : Type} {W : Walker σ} {G : Nat → Prop} {Ba B : Nat} {I : σ → World → Prop} {Dv : World → Dy → Prop} {fn ff fd : Nat} {bd : Array Value} (K : Wlk W G Ba B I Dv fn ff fd bd)
    {s : σ} {w : World} (hs : I s w) (hB : B ≤ w.heap.size) {m : Md} {M : Ml} (ha : Arg w Ba m M) (hk : AlOk W s M) (hkk : M.kd = 0 ∨ 6 < M.kd) :
    Calls Try.prog 24 #[wkv fn ff fd bd, .agg (mdc m)] w fun e w' =>
      ∃ m', e = .returned (.agg (mdc m')) ∧ Hid (Out Dv w' w.heap.size m' (alongP W s M).1) ∧ Hid (I (alongP W s M).2 w') ∧ Hid (Ex G w w') := by
  obtain ⟨w1, hw1⟩ : ∃ w1, w1 = ((w.alloc (.cells #[.func (.func fn) bd #[], .func (.func ff) bd #[], .func (.func fd) bd #[]] 60)).alloc (.cells (mdc m) 31)).alloc (.cells (mdc (Mz 0)) 31) := ⟨_, rfl⟩
  obtain ⟨w2, hw2⟩ : ∃ w2, w2 = pstore (w1.alloc (.cells (mdc (Mz 0)) 31)) (w.heap.size + 1 + 1 + 1) (Mz m.kd) := ⟨_, rfl⟩
  have hs1 : w1.heap.size = w.heap.size + 1 + 1 + 1 := by rw [hw1]; simp
  have HA0 := hid (along_head K hs hB ha hw1 hw2)
  have x1 : Pbox w1 (w.heap.size + 1) m := hw1 ▸ new31 w _ _ _
  have C0 := hid x1.c0
  have HM := hid ha
  have HK := hid hk
  have CW := hid (show ∀ (o : Md) (O : Ml) (s1 : σ) (X : World), Hid (Alg G I Dv fn ff fd bd w m o O s1 X) → ∀ (n z : Nat) (zi : Int), (z : Int) = zi → n < 4294967296 → 1 ≤ z → z ≤ 4 → _ from fun o O s1 X h n z zi hzi hn h1 h4 => whole_any K h.out.st (Nat.le_trans hB (Nat.le_trans (by omega) h.out.sz)) n z zi hzi hn h1 h4)
  have XN := hid (show Pbox (w1.alloc (.cells (mdc (Mz 0)) 31)) (w.heap.size + 1 + 1 + 1) (Mz 0) from hs1 ▸ new0 w1 _)
  have HW1 := hid hw1
  have HW2 := hid hw2
  have HS1 := hid hs1
  have en := K.en
  have ef := K.ef
  have ed := K.ed
  have efr : m.fr = ((M.fr.toNat : Nat) : Int) := by have := ha.fr; have := hk.fr; omega
  have etu : m.tu = ((M.tu.toNat : Nat) : Int) := by have := ha.tu; have := hk.tu; omega
  have eep : m.ep = ((M.ep.toNat : Nat) : Int) := by have := ha.ep; have := hk.ep; omega
  have enu : m.nu = ((M.nu.toNat : Nat) : Int) := by have := ha.nu; have := hk.nu; omega
  have eab : m.ab = ((M.ab.toNat : Nat) : Int) := by have := ha.ab; have := hk.ab; omega
  have lfr : M.fr.toNat < 4294967296 := by have := hk.fr; omega
  have ltu : M.tu.toNat < 4294967296 := by have := hk.tu; omega
  have lep : M.ep.toNat < 4294967296 := by have := hk.ep; omega
  have lnu : M.nu.toNat < 4294967296 := by have := hk.nu; omega
  have lab : M.ab.toNat < 4294967296 := by have := hk.ab; omega
  have EFR := hid efr
  have ETU := hid etu
  have EEP := hid eep
  have ENU := hid enu
  have EAB := hid eab
  have HKD := hid ha.kd
  have hkd := hk.kd
  clear hw1 hw2 hs ha hk hs1 x1 efr etu eep enu eab
  go_enter Try.func24, Try.ntmps24
  go_upto_region 1 with fail
  change Code.wp _ _ _ _ (((w.alloc (.cells #[.func (.func fn) bd #[], .func (.func ff) bd #[], .func (.func fd) bd #[]] 60)).alloc (.cells (mdc m) 31)).alloc (.cells (mdc (Mz 0)) 31))
  rw [← HW1.out]
  have c0 := C0.out
  have hs1 := HS1.out
  go_upto_region 2 with (first | (refine wp_pstore rfl (.tmp 5) (.tmp 8) (by with_reducible rfl) (w.heap.size + 1 + 1 + 1) (Mz 0) (Mz m.kd) (by rfl) (by rfl) XN.out ?_) | fail)
  change Code.wp _ _ _ _ (pstore (w1.alloc (.cells (mdc (Mz 0)) 31)) (w.heap.size + 1 + 1 + 1) (Mz m.kd))
  rw [← HW2.out]
  clear c0 C0 HW1 HW2 hs1 XN
  have CD := hid (show ∀ (o : Md) (O : Ml) (s1 : σ) (X : World), Hid (Alg G I Dv fn ff fd bd w m o O s1 X) → ∀ (k : Nat), k < 4 → ∀ d, DV (m.D k) d → _ from fun o O s1 X h k hk4 d hd => K.dyad s1 X (m.D k) d h.out.st (Nat.le_trans hB (Nat.le_trans (by omega) h.out.sz)) hd ((HM.out.rd k hk4).below (h.out.ex.below (Nat.le_trans K.ab hB) (fun b hb => (K.gB b hb).1))))
  obtain ⟨n1, hn1⟩ : ∃ n1, n1 = M.fr.toNat := ⟨_, rfl⟩
  obtain ⟨n2, hn2⟩ : ∃ n2, n2 = M.tu.toNat := ⟨_, rfl⟩
  obtain ⟨n3, hn3⟩ : ∃ n3, n3 = M.ep.toNat := ⟨_, rfl⟩
  obtain ⟨n4, hn4⟩ : ∃ n4, n4 = M.nu.toNat := ⟨_, rfl⟩
  obtain ⟨n5, hn5⟩ : ∃ n5, n5 = M.ab.toNat := ⟨_, rfl⟩
  rw [← hn1] at EFR lfr
  rw [← hn2] at ETU ltu
  rw [← hn3] at EEP lep
  rw [← hn4] at ENU lnu
  rw [← hn5] at EAB lab
  have ln1 := lfr
  have ln2 := ltu
  have ln3 := lep
  have ln4 := lnu
  have ln5 := lab
  have HN1 := hid hn1
  have HN2 := hid hn2
  have HN3 := hid hn3
  have HN4 := hid hn4
  have HN5 := hid hn5
  clear hn1 hn2 hn3 hn4 hn5 lfr ltu lep lnu lab
  have x0 := HA0.out.wk.c0
  have x1 := HA0.out.wk.c1
  have x2 := HA0.out.wk.c2
  have m1 := HA0.out.ar.c1
  rw [EFR.out] at m1
  go_wp2_with fail
  refine (CW.out _ _ _ _ HA0 n1 1 1 rfl ln1 (by decide) (by decide)).mono ?_
  rintro e X1 ⟨U1, rfl, hU1, hI1, hE1⟩
  obtain ⟨s1, hs1⟩ : ∃ s1, s1 = (W.nf s n1 1).2 := ⟨_, rfl⟩
  rw [← hs1] at hI1
  have HS1 := hid hs1
  have HU1 := hid hU1.out.1
  clear hs1 hU1
  have HB1 := hid (HA0.out.call K hB hI1.out hE1.out)
  have HA1 := hid (HB1.out.put K hB (Wr.set _ _ 1 (.int .i64 (U1 : Int))) (o' := (⟨m.kd, U1, 0, 0, 0, 0, D0, false, none, 0, 0, false, 0, 0, none, 0, 0⟩ : Md)) (O' := (⟨M.kd, U1, 0, 0, 0, 0, d0z, d0z, d0z, d0z, false, [], false, 0, 0, []⟩ : Ml)) (HB1.out.ou.put1 1 _ _ rfl) { HB1.out.rp with fr := rfl })
  clear hI1 hE1
  clear x0 x1 x2 m1
  have x0 := HB1.out.wk.c0
  have x1 := HB1.out.wk.c1
  have x2 := HB1.out.wk.c2
  have z1 := HB1.out.ou.frozen 1
  have y1 := HB1.out.ou.c1
  have m2 := HB1.out.ar.c2
  rw [ETU.out] at m2
  go_wp2_with fail
  refine (CW.out _ _ _ _ HA1 n2 1 1 rfl ln2 (by decide) (by decide)).mono ?_
  rintro e X2 ⟨U2, rfl, hU2, hI2, hE2⟩
  obtain ⟨s2, hs2⟩ : ∃ s2, s2 = (W.nf s1 n2 1).2 := ⟨_, rfl⟩
  rw [← hs2] at hI2
  have HS2 := hid hs2
  have HU2 := hid hU2.out.1
  clear hs2 hU2
  have HB2 := hid (HA1.out.call K hB hI2.out hE2.out)
  have HA2 := hid (HB2.out.put K hB (Wr.set _ _ 2 (.int .i64 (U2 : Int))) (o' := (⟨m.kd, U1, U2, 0, 0, 0, D0, false, none, 0, 0, false, 0, 0, none, 0, 0⟩ : Md)) (O' := (⟨M.kd, U1, U2, 0, 0, 0, d0z, d0z, d0z, d0z, false, [], false, 0, 0, []⟩ : Ml)) (HB2.out.ou.put1 2 _ _ rfl) { HB2.out.rp with tu := rfl })
  clear hI2 hE2
  clear x0 x1 x2 z1 y1 m2
  have x0 := HB2.out.wk.c0
  have x1 := HB2.out.wk.c1
  have x2 := HB2.out.wk.c2
  have z2 := HB2.out.ou.frozen 2
  have y2 := HB2.out.ou.c2
  have m3 := HB2.out.ar.c3
  rw [EEP.out] at m3
  go_wp2_with fail
  refine (CW.out _ _ _ _ HA2 n3 2 2 rfl ln3 (by decide) (by decide)).mono ?_
  rintro e X3 ⟨U3, rfl, hU3, hI3, hE3⟩
  obtain ⟨s3, hs3⟩ : ∃ s3, s3 = (W.nf s2 n3 2).2 := ⟨_, rfl⟩
  rw [← hs3] at hI3
  have HS3 := hid hs3
  have HU3 := hid hU3.out.1
  clear hs3 hU3
  have HB3 := hid (HA2.out.call K hB hI3.out hE3.out)
  have HA3 := hid (HB3.out.put K hB (Wr.set _ _ 3 (.int .i64 (U3 : Int))) (o' := (⟨m.kd, U1, U2, U3, 0, 0, D0, false, none, 0, 0, false, 0, 0, none, 0, 0⟩ : Md)) (O' := (⟨M.kd, U1, U2, U3, 0, 0, d0z, d0z, d0z, d0z, false, [], false, 0, 0, []⟩ : Ml)) (HB3.out.ou.put1 3 _ _ rfl) { HB3.out.rp with ep := rfl })
  clear hI3 hE3
  clear x0 x1 x2 z2 y2 m3
  have x0 := HB3.out.wk.c0
  have x1 := HB3.out.wk.c1
  have x2 := HB3.out.wk.c2
  have z3 := HB3.out.ou.frozen 3
  have y3 := HB3.out.ou.c3
  have m4 := HB3.out.ar.c4
  rw [ENU.out] at m4
  go_wp2_with fail
  refine (CW.out _ _ _ _ HA3 n4 3 3 rfl ln4 (by decide) (by decide)).mono ?_
  rintro e X4 ⟨U4, rfl, hU4, hI4, hE4⟩
  obtain ⟨s4, hs4⟩ : ∃ s4, s4 = (W.nf s3 n4 3).2 := ⟨_, rfl⟩
  rw [← hs4] at hI4
  have HS4 := hid hs4
  have HU4 := hid hU4.out.1
  clear hs4 hU4
  have HB4 := hid (HA3.out.call K hB hI4.out hE4.out)
  have HA4 := hid (HB4.out.put K hB (Wr.set _ _ 4 (.int .i64 (U4 : Int))) (o' := (⟨m.kd, U1, U2, U3, U4, 0, D0, false, none, 0, 0, false, 0, 0, none, 0, 0⟩ : Md)) (O' := (⟨M.kd, U1, U2, U3, U4, 0, d0z, d0z, d0z, d0z, false, [], false, 0, 0, []⟩ : Ml)) (HB4.out.ou.put1 4 _ _ rfl) { HB4.out.rp with nu := rfl })
  clear hI4 hE4
  clear x0 x1 x2 z3 y3 m4
  have x0 := HB4.out.wk.c0
  have x1 := HB4.out.wk.c1
  have x2 := HB4.out.wk.c2
  have z4 := HB4.out.ou.frozen 4
  have y4 := HB4.out.ou.c4
  have m0 := HB4.out.ar.c0
  have hk6 := HKD.out
  have b1 : ((m.kd : Int) == 1) = false := by simp; omega
  have b2 : ((m.kd : Int) == 2) = false := by simp; omega
  have b3 : ((m.kd : Int) == 3) = false := by simp; omega
  have b4 : ((m.kd : Int) == 4) = false := by simp; omega
  have b5 : ((m.kd : Int) == 5) = false := by simp; omega
  have b6 : ((m.kd : Int) == 6) = false := by simp; omega
  clear hk6
  go_upto_region 23 with fail
  have HD := hid (HA4.out.done K hB)
  have HP := hid HA4.out.ou
  have HZ := hid HA4.out.zr
  clear x0 x1 x2 z4 y4 m0
  go_wp2_with (first | (refine wp_pload rfl (.tmp 5) (by with_reducible rfl) (w.heap.size + 1 + 1 + 1) _ (by rfl) HP.out ?_) | (refine wp_pstore rfl (.tmp 4) (.tmp 110) (by with_reducible rfl) (w.heap.size + 1 + 1) (Mz 0) _ (by rfl) (by rfl) HZ.out ?_) | fail)
  obtain ⟨q1, q2, q3, q4⟩ := HD.out
  have hh := headP_eq (M := M) HN1.out HN2.out HN3.out HN4.out HU1.out HS1.out HU2.out HS2.out HU3.out HS3.out HU4.out HS4.out
  have HQ : alongP W s M = ((⟨M.kd, U1, U2, U3, U4, 0, d0z, d0z, d0z, d0z, false, [], false, 0, 0, []⟩ : Ml), s4) := by
    unfold alongP kindP hedP
    rw [hh, if_neg (by omega), if_neg (by omega), if_neg (by omega), if_neg (by omega), if_neg (by omega), if_neg (by omega)]
    skip
    try rfl
  refine ret_mail1 rfl (by rfl) rfl q1 ⟨_, rfl, hid ?_, hid ?_, hid q4⟩
  · rw [HQ]
    exact q2
  · rw [HQ]
    exact q3
end Go.Proofs.Ytbankbehfjogpaa

