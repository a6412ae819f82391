/- The document's reader of a mail: number, as a function of what is there to be read. -/
/- Mails' contents as bytes: a content tells its mail. No program is named here. -/
/- A mail's walk, whatever is done at its fields: what the three functions owe, and what a walk keeps. -/
/- Stores into rows, as steps of a walk that leaves a new world each. -/
/- The document's reader of a mail: dyad, as a function of what is there to be read. -/
import Derived.Test.YtbankbehfjogpaaGreatVah
import Derived.Test.YtbankbehfjogpaaGreatVae
import Derived.Test.YtbankbehfjogpaaGreatVad
import Derived.Deep.RegionHeld3
namespace Go.Proofs.YtbankbehfjogpaaGreat
open Go.RowKit Go.Shelf Go.Lib
set_option maxRecDepth 100000
def rdc (A : Option Addr) (n c : Nat) (st : Option Nat) : Array Value :=
  match st with
  | some q => #[.slice A n c, .int .i64 (q : Int), .bool true]
  | none => #[.slice none 0 0, .int .i64 0, .bool false]
def Rok (xs : List Nat) (st : Option Nat) : Prop := ∀ q, st = some q → q ≤ xs.length
theorem Rok.rn {xs : List Nat} {st : Option Nat} (h : Rok xs st) (z : Nat) : Rok xs (rn xs st z).1 := by
  intro q hq
  cases st with
  | none => cases hq
  | some p =>
    unfold Go.Proofs.YtbankbehfjogpaaGreat.rn at hq
    dsimp only at hq
    split at hq
    · injection hq with hq; omega
    · cases hq
set_option maxHeartbeats 6400000 in
theorem ernum_core {w : World} {A A1 : Option Addr} {n c n1 c1 : Nat} {p p1 : Int} {ok : Bool} {z V : Nat} {er : Int} (hV : V < 4294967296)
    (CN : ∀ X, Below w.heap.size w X → Calls Tryz.prog 103 #[.agg #[.slice A n c, .int .i64 p], .int .i64 (z : Int)] X fun e w' => e = .returned (.tuple #[.agg #[.slice A1 n1 c1, .int .i64 p1], .int .u64 ((V : Nat) : Int), .int .i64 er]) ∧ Hid (Below X.heap.size X w')) :
    Calls Tryz.prog 70 #[.agg #[.slice A n c, .int .i64 p, .bool ok], .int .i64 (z : Int)] w fun e w' => e = .returned (.tuple #[.agg #[.slice A1 n1 c1, .int .i64 p1, .bool (ok && decide (er = 0))], .int .i64 (V : Int)]) ∧ Hid (Below w.heap.size w w') := by
  obtain ⟨W, hW⟩ : ∃ W, W = (w.alloc (.cells #[.slice A n c, .int .i64 p, .bool ok] 106)).alloc (.cells #[.slice none 0 0, .int .i64 0, .bool false] 106) := ⟨_, rfl⟩
  have B0 := hid (show Below w.heap.size w W from hW ▸ ((Below.refl _ w).alloc (Nat.le_refl _) _).alloc (by simp) _)
  have X0 := hid (show Dbr W w.heap.size A n c p ok from hW ▸ pheap0 w _ _)
  have Y0 := hid (show Dbr W (w.heap.size + 1) none 0 0 0 false from hW ▸ pheap1 w _ _)
  have HW := hid hW
  have CN := hid (CN W B0.out)
  have hwv : IntKind.i64.wrap (V : Int) = (V : Int) := by rw [IntKind.wrap_i64]; omega
  clear hW
  have x0 := X0.out.c0
  have x1 := X0.out.c1
  go_enter Tryz.func70, Tryz.ntmps70
  go_upto_region 1 with fail
  rw [← HW.out]
  clear HW
  go_wp2_with fail
  refine CN.out.mono ?_
  rintro e w1 ⟨rfl, hb⟩
  have X1 := hid (X0.out.below hb.out X0.out.lt)
  have Y1 := hid (Y0.out.below hb.out Y0.out.lt)
  have K1 := hid (B0.out.trans (hb.out.mono B0.out.size))
  have X2 := hid (X1.out.alloc (.cells #[.slice A1 n1 c1, .int .i64 p1] 63))
  have Y2 := hid (Y1.out.alloc (.cells #[.slice A1 n1 c1, .int .i64 p1] 63))
  have Z2 : Hid (Rbox _ 63 w1.heap.size A1 n1 c1 p1) := hid (heap_alloc_new w1 (.cells #[.slice A1 n1 c1, .int .i64 p1] 63))
  clear x0 x1 CN X0 Y0
  have x2 := X2.out.c2
  have z0 := Z2.out.c0
  have z1 := Z2.out.c1
  have y0 := Y2.out.c0
  have y1 := Y2.out.c1
  have y2 := Y2.out.c2
  have f0 := Y2.out.frozen 0
  have f1 := Y2.out.frozen 1
  have f2 := Y2.out.frozen 2
  have hal2 : w1.grownBy (w1.alloc (.cells #[.slice A1 n1 c1, .int .i64 p1] 63)) (some (w.heap.size + 1)) := World.grownBy_alloc w1 _ _
  have HG := hid (fun (a b c : Value) => gset0 (gset0 (gset0 hal2 0 a) 1 b) 2 c)
  clear hal2 hb
  cases ok with
  | false =>
    go_wp2
    refine ret_reader (g := w.heap.size + 1) (n := n1) (c := c1) (A := A1) (p := p1) (ok := false) rfl rfl rfl rfl Y2.out.store ?_
    exact ⟨rfl, hid (K1.out.grown (HG.out _ _ _) K1.out.size (fun k e => by injection e with e; omega))⟩
  | true =>
    by_cases he : er = 0
    · subst he
      go_wp2
      refine ret_reader (g := w.heap.size + 1) (n := n1) (c := c1) (A := A1) (p := p1) (ok := true) rfl rfl rfl rfl Y2.out.store ?_
      exact ⟨rfl, hid (K1.out.grown (HG.out _ _ _) K1.out.size (fun k e => by injection e with e; omega))⟩
    · have hd : (er == 0) = false := by simpa using he
      have hd2 := hid (decide_eq_false he)
      clear he
      go_wp2
      refine ret_reader (g := w.heap.size + 1) (n := n1) (c := c1) (A := A1) (p := p1) (ok := false) rfl rfl rfl rfl Y2.out.store ?_
      exact ⟨by rw [hd2.out]; rfl, hid (K1.out.grown (HG.out _ _ _) K1.out.size (fun k e => by injection e with e; omega))⟩
theorem ernumT {w : World} {xs : List Nat} {st : Option Nat} {A : Option Addr} {n c z : Nat} (h : By w w.heap.size A n c xs) (hst : Rok xs st) (hz : 1 ≤ z ∧ z ≤ 4) (hx : xs.length ≤ 5000) :
    Calls Tryz.prog 70 #[.agg (rdc A n c st), .int .i64 (z : Int)] w fun e w' => e = .returned (.tuple #[.agg (rdc A n c (rn xs st z).1), .int .i64 ((rn xs st z).2 : Int)]) ∧ Hid (Below w.heap.size w w') := by
  have hn := h.len
  cases st with
  | none =>
    refine (ernum_core (w := w) (A := none) (n := 0) (c := 0) (p := 0) (ok := false) (z := z) (A1 := none) (n1 := 0) (c1 := 0) (p1 := 0) (V := 0) (er := 40) (by omega) (fun X _ => ?_)).mono fun e w' ⟨he, hb⟩ => ⟨he, hb⟩
    refine (rfNumber_at (By.nul X X.heap.size) (p := 0) (by omega) (z := (z : Int)) (by omega)).mono ?_
    rintro e w' ⟨A', n', c', V, er, p', rfl, he, hh, hb⟩
    have hE : er = 40 := by
      rw [he.out]
      unfold nE
      rw [if_neg (by omega), if_neg (by omega), if_pos (by omega)]
    obtain ⟨rfl, rfl, rfl, rfl, rfl⟩ := hh.out.2 (by omega)
    subst hE
    exact ⟨rfl, hb⟩
  | some q =>
    have hq := hst q rfl
    by_cases hf : q + z ≤ xs.length
    · have hR : Go.Proofs.YtbankbehfjogpaaGreat.rn xs (some q) z = (some (q + z), bn ((xs.drop q).take z)) := by unfold Go.Proofs.YtbankbehfjogpaaGreat.rn; simp only [if_pos hf]
      rw [hR]
      have hVl : bn ((xs.drop q).take z) < 4294967296 := by
        have h1 := bn_lt (xs := (xs.drop q).take z) (fun x hx2 => h.lt x (List.mem_of_mem_drop (List.mem_of_mem_take hx2)))
        have h2 : (256 : Nat) ^ ((xs.drop q).take z).length ≤ 256 ^ 4 := Nat.pow_le_pow_right (by omega) (by rw [List.length_take]; omega)
        have h3 : (256 : Nat) ^ 4 = 4294967296 := by decide
        omega
      refine (ernum_core (w := w) (A := A) (n := n) (c := c) (p := (q : Int)) (ok := true) (z := z) (A1 := A) (n1 := n) (c1 := c) (p1 := ((q + z : Nat) : Int)) (er := 0) hVl (fun X hX => ?_)).mono fun e w' ⟨he, hb⟩ => ⟨he, hb⟩
      refine (rfNumber_at ((h.below hX).mono hX.size) (p := (q : Int)) (by omega) (z := (z : Int)) (by omega)).mono ?_
      rintro e w' ⟨A', n', c', V, er, p', rfl, he, hh, hb⟩
      have hE : er = 0 := by
        rw [he.out]
        unfold nE
        rw [if_neg (by omega), if_neg (by omega), if_neg (by omega)]
      subst hE
      obtain ⟨rfl, rfl, rfl, rfl, rfl⟩ := hh.out.1 rfl
      refine ⟨?_, hb⟩
      rw [Int.toNat_natCast, Int.toNat_natCast, show ((q + z : Nat) : Int) = (q : Int) + (z : Int) by omega]
    · have hR : Go.Proofs.YtbankbehfjogpaaGreat.rn xs (some q) z = (none, 0) := by unfold Go.Proofs.YtbankbehfjogpaaGreat.rn; simp only [if_neg hf]
      rw [hR]
      refine (ernum_core (w := w) (A := A) (n := n) (c := c) (p := (q : Int)) (ok := true) (z := z) (A1 := none) (n1 := 0) (c1 := 0) (p1 := 0) (V := 0) (er := 40) (by omega) (fun X hX => ?_)).mono fun e w' ⟨he, hb⟩ => ⟨he, hb⟩
      refine (rfNumber_at ((h.below hX).mono hX.size) (p := (q : Int)) (by omega) (z := (z : Int)) (by omega)).mono ?_
      rintro e w' ⟨A', n', c', V, er, p', rfl, he, hh, hb⟩
      have hE : er = 40 := by
        rw [he.out]
        unfold nE
        rw [if_neg (by omega), if_neg (by omega), if_pos (by omega)]
      obtain ⟨rfl, rfl, rfl, rfl, rfl⟩ := hh.out.2 (by omega)
      subst hE
      exact ⟨rfl, hb⟩
end Go.Proofs.YtbankbehfjogpaaGreat
namespace Go.Proofs.YtbankbehfjogpaaGreat
structure Ddy where
  s : Bool
  n : Nat
  f : Nat → Nat
  x : Nat
def Ddy.Fit (D : Ddy) : Prop := D.n < 256 ∧ D.x < 65536 ∧ (∀ j, D.f j < 4294967296) ∧ ∀ j, D.n ≤ j → D.f j = 0
def d0z : Ddy := ⟨false, 0, fun _ => 0, 0⟩
def dfx (D : Ddy) : List Nat := dtx D.s D.n D.f D.x
theorem be_split {V V' k : Nat} {r r' : List Nat} (h : V < 256 ^ k) (h' : V' < 256 ^ k) (e : be V k ++ r = be V' k ++ r') : V = V' ∧ r = r' := by
  obtain ⟨e1, e2⟩ := List.append_inj e (by rw [be_length, be_length])
  exact ⟨by rw [← bn_be h, ← bn_be h', e1], e2⟩
theorem sg_lt (s : Bool) : (if s then 1 else 0) < 256 ^ 1 := by cases s <;> decide
theorem lms_split {f f' : Nat → Nat} {n : Nat} {r r' : List Nat} (hf : ∀ j, f j < 4294967296) (hf' : ∀ j, f' j < 4294967296) (ho : ∀ j, n ≤ j → f j = 0) (ho' : ∀ j, n ≤ j → f' j = 0) (e : lms f n ++ r = lms f' n ++ r') : f = f' ∧ r = r' := by
  obtain ⟨e1, e2⟩ := List.append_inj e (by rw [lms_length, lms_length])
  refine ⟨?_, e2⟩
  funext j
  have h1 := lof_lms (n := n) [] hf ho j
  have h2 := lof_lms (n := n) [] hf' ho' j
  rw [← h1, ← h2, e1]
theorem dfx_split {D D' : Ddy} {r r' : List Nat} (h : D.Fit) (h' : D'.Fit) (e : dfx D ++ r = dfx D' ++ r') : D = D' ∧ r = r' := by
  obtain ⟨s, n, f, x⟩ := D
  obtain ⟨s', n', f', x'⟩ := D'
  obtain ⟨h1, h2, h3, h4⟩ := h
  obtain ⟨h1', h2', h3', h4'⟩ := h'
  unfold dfx dtx at e
  simp only [List.append_assoc] at e
  obtain ⟨e1, q1⟩ := be_split (sg_lt s) (sg_lt s') e
  obtain ⟨e2, q2⟩ := be_split (Nat.lt_of_lt_of_le h2 (by decide)) (Nat.lt_of_lt_of_le h2' (by decide)) q1
  obtain ⟨e3, q3⟩ := be_split (Nat.lt_of_lt_of_le h1 (by decide)) (Nat.lt_of_lt_of_le h1' (by decide)) q2
  dsimp only at e1 e2 e3 q3 h1 h2 h3 h4 h1' h2' h3' h4'
  subst e2
  subst e3
  obtain ⟨e4, e5⟩ := lms_split h3 h3' h4 h4' q3
  subst e4
  refine ⟨?_, e5⟩
  cases s <;> cases s' <;> simp at e1 ⊢
def lsx (l : List De) : List Nat := l.flatMap fun d => be d.1.toNat 1 ++ be d.2.toNat 4
def tgx (l : List Nat) : List Nat := l.flatMap fun t => be t 4
def LFit (l : List De) : Prop := ∀ d, d ∈ l → 0 ≤ d.1 ∧ d.1 < 8 ∧ 0 ≤ d.2 ∧ d.2 ≤ 2147483647
theorem lsx_inj : ∀ {l l' : List De}, LFit l → LFit l' → l.length = l'.length → lsx l = lsx l' → l = l'
  | [], [], _, _, _, _ => rfl
  | d :: l, d' :: l', h, h', hl, e => by
    have a := h d List.mem_cons_self
    have a' := h' d' List.mem_cons_self
    unfold lsx at e
    rw [List.flatMap_cons, List.flatMap_cons] at e
    simp only [List.append_assoc] at e
    obtain ⟨e1, e⟩ := be_split (by show d.1.toNat < 256; omega) (by show d'.1.toNat < 256; omega) e
    obtain ⟨e2, e⟩ := be_split (by show d.2.toNat < 4294967296; omega) (by show d'.2.toNat < 4294967296; omega) e
    have ih := lsx_inj (fun x hx => h x (List.mem_cons_of_mem _ hx)) (fun x hx => h' x (List.mem_cons_of_mem _ hx)) (by simpa using hl) e
    have hd : d = d' := Prod.ext (by omega) (by omega)
    rw [hd, ih]
  | [], _ :: _, _, _, hl, _ => by simp at hl
  | _ :: _, [], _, _, hl, _ => by simp at hl
theorem tgx_inj : ∀ {l l' : List Nat}, (∀ t, t ∈ l → t < 4294967296) → (∀ t, t ∈ l' → t < 4294967296) → l.length = l'.length → tgx l = tgx l' → l = l'
  | [], [], _, _, _, _ => rfl
  | d :: l, d' :: l', h, h', hl, e => by
    unfold tgx at e
    rw [List.flatMap_cons, List.flatMap_cons] at e
    obtain ⟨e1, e⟩ := be_split (h d List.mem_cons_self) (h' d' List.mem_cons_self) e
    have ih := tgx_inj (fun x hx => h x (List.mem_cons_of_mem _ hx)) (fun x hx => h' x (List.mem_cons_of_mem _ hx)) (by simpa using hl) e
    rw [e1, ih]
  | [], _ :: _, _, _, hl, _ => by simp at hl
  | _ :: _, [], _, _, hl, _ => by simp at hl
structure Ml where
  kd : Nat
  fr : Int
  tu : Int
  ep : Int
  nu : Int
  ab : Int
  S : Ddy
  W : Ddy
  C : Ddy
  A : Ddy
  wa : Bool
  ls : List De
  ha : Bool
  mn : Int
  mx : Int
  le : List Nat
structure Ml.Fit (m : Ml) : Prop where
  kd : 1 ≤ m.kd ∧ m.kd ≤ 6
  fr : 0 ≤ m.fr ∧ m.fr < 8
  tu : 0 ≤ m.tu ∧ m.tu < 8
  ep : 0 ≤ m.ep ∧ m.ep ≤ 65535
  nu : 0 ≤ m.nu ∧ m.nu ≤ 1048575
  ab : 0 ≤ m.ab ∧ m.ab ≤ 1048575
  ab0 : m.kd ≠ 3 → m.kd ≠ 4 → m.ab = 0
  dS : m.S.Fit
  dW : m.W.Fit
  dC : m.C.Fit
  dA : m.A.Fit
  sw0 : m.kd ≠ 1 → m.S = d0z ∧ m.W = d0z
  ca0 : m.kd ≠ 2 → m.kd ≠ 3 → m.C = d0z ∧ m.A = d0z
  ls : LFit m.ls
  lsn : m.ls.length ≤ 64
  ls0 : m.kd ≠ 5 → m.wa = false ∧ m.ls = []
  ed : m.ha = false → m.mn = 0 ∧ m.mx = 0
  ed1 : -2147483647 ≤ m.mn ∧ m.mn ≤ 2147483647 ∧ -2147483647 ≤ m.mx ∧ m.mx ≤ 2147483647
  le : ∀ t, t ∈ m.le → t < 4294967296
  len : m.le.length ≤ 8
  le0 : m.kd ≠ 6 → m.ha = false ∧ m.le = []
def flg (b : Bool) : Nat := if b then 1 else 0
theorem flg_lt (b : Bool) : flg b < 256 ^ 1 := by cases b <;> decide
theorem flg_inj {a b : Bool} (h : flg a = flg b) : a = b := by cases a <;> cases b <;> simp [flg] at h ⊢
def body (m : Ml) : List Nat :=
  if m.kd = 1 then dfx m.S ++ dfx m.W
  else if m.kd = 2 ∨ m.kd = 3 then dfx m.C ++ dfx m.A
  else if m.kd = 5 then be (flg m.wa) 1 ++ be m.ls.length 1 ++ lsx m.ls
  else if m.kd = 6 then be (flg m.ha) 1 ++ be (m.mn + 2147483648).toNat 4 ++ be (m.mx + 2147483648).toNat 4 ++ be m.le.length 1 ++ tgx m.le
  else []
def cont (m : Ml) : List Nat := be m.fr.toNat 1 ++ be m.tu.toNat 1 ++ be m.ep.toNat 2 ++ be m.nu.toNat 3 ++ (if m.kd = 3 ∨ m.kd = 4 then be m.ab.toNat 3 else []) ++ body m
theorem cont_inj {m m' : Ml} (h : m.Fit) (h' : m'.Fit) (hk : m.kd = m'.kd) (e : cont m = cont m') : m = m' := by
  have fr := h.fr
  have fr' := h'.fr
  have tu := h.tu
  have tu' := h'.tu
  have ep := h.ep
  have ep' := h'.ep
  have nu := h.nu
  have nu' := h'.nu
  have ab := h.ab
  have ab' := h'.ab
  unfold cont at e
  simp only [List.append_assoc] at e
  obtain ⟨e1, e⟩ := be_split (by show m.fr.toNat < 256; omega) (by show m'.fr.toNat < 256; omega) e
  obtain ⟨e2, e⟩ := be_split (by show m.tu.toNat < 256; omega) (by show m'.tu.toNat < 256; omega) e
  obtain ⟨e3, e⟩ := be_split (by show m.ep.toNat < 65536; omega) (by show m'.ep.toNat < 65536; omega) e
  obtain ⟨e4, e⟩ := be_split (by show m.nu.toNat < 16777216; omega) (by show m'.nu.toNat < 16777216; omega) e
  have key : m.ab = m'.ab ∧ body m = body m' := by
    by_cases hb : m.kd = 3 ∨ m.kd = 4
    · rw [if_pos hb, if_pos (hk ▸ hb)] at e
      obtain ⟨e5, e⟩ := be_split (by show m.ab.toNat < 16777216; omega) (by show m'.ab.toNat < 16777216; omega) e
      exact ⟨by omega, e⟩
    · rw [if_neg hb, if_neg (hk ▸ hb)] at e
      have n3 : m.kd ≠ 3 := fun x => hb (.inl x)
      have n4 : m.kd ≠ 4 := fun x => hb (.inr x)
      exact ⟨(h.ab0 n3 n4).trans (h'.ab0 (hk ▸ n3) (hk ▸ n4)).symm, e⟩
  obtain ⟨e5, e6⟩ := key
  have hfr : m.fr = m'.fr := by omega
  have hto : m.tu = m'.tu := by omega
  have hep : m.ep = m'.ep := by omega
  have hnu : m.nu = m'.nu := by omega
  have hSW : m.S = m'.S ∧ m.W = m'.W := by
    by_cases hb : m.kd = 1
    · unfold body at e6
      rw [if_pos hb, if_pos (hk ▸ hb)] at e6
      obtain ⟨a1, a2⟩ := dfx_split h.dS h'.dS e6
      have a3 := dfx_split (r := []) (r' := []) h.dW h'.dW (by rw [a2])
      exact ⟨a1, a3.1⟩
    · obtain ⟨a1, a2⟩ := h.sw0 hb
      obtain ⟨a3, a4⟩ := h'.sw0 (hk ▸ hb)
      exact ⟨a1.trans a3.symm, a2.trans a4.symm⟩
  have hCA : m.C = m'.C ∧ m.A = m'.A := by
    by_cases hb : m.kd = 2 ∨ m.kd = 3
    · unfold body at e6
      rw [if_neg (by omega), if_pos hb, if_neg (by omega), if_pos (hk ▸ hb)] at e6
      obtain ⟨a1, a2⟩ := dfx_split h.dC h'.dC e6
      have a3 := dfx_split (r := []) (r' := []) h.dA h'.dA (by rw [a2])
      exact ⟨a1, a3.1⟩
    · have n2 : m.kd ≠ 2 := fun x => hb (.inl x)
      have n3 : m.kd ≠ 3 := fun x => hb (.inr x)
      obtain ⟨a1, a2⟩ := h.ca0 n2 n3
      obtain ⟨a3, a4⟩ := h'.ca0 (hk ▸ n2) (hk ▸ n3)
      exact ⟨a1.trans a3.symm, a2.trans a4.symm⟩
  have hL : m.wa = m'.wa ∧ m.ls = m'.ls := by
    by_cases hb : m.kd = 5
    · have l1 := h.lsn
      have l2 := h'.lsn
      unfold body at e6
      rw [if_neg (by omega), if_neg (by omega), if_pos hb, if_neg (by omega), if_neg (by omega), if_pos (hk ▸ hb)] at e6
      simp only [List.append_assoc] at e6
      obtain ⟨a1, e6⟩ := be_split (flg_lt _) (flg_lt _) e6
      obtain ⟨a2, e6⟩ := be_split (by show m.ls.length < 256; omega) (by show m'.ls.length < 256; omega) e6
      exact ⟨flg_inj a1, lsx_inj h.ls h'.ls a2 e6⟩
    · obtain ⟨a1, a2⟩ := h.ls0 hb
      obtain ⟨a3, a4⟩ := h'.ls0 (hk ▸ hb)
      exact ⟨a1.trans a3.symm, a2.trans a4.symm⟩
  have hE : m.ha = m'.ha ∧ m.mn = m'.mn ∧ m.mx = m'.mx ∧ m.le = m'.le := by
    by_cases hb : m.kd = 6
    · have l1 := h.len
      have l2 := h'.len
      obtain ⟨b1, b2, b3, b4⟩ := h.ed1
      obtain ⟨c1, c2, c3, c4⟩ := h'.ed1
      unfold body at e6
      rw [if_neg (by omega), if_neg (by omega), if_neg (by omega), if_pos hb, if_neg (by omega), if_neg (by omega), if_neg (by omega), if_pos (hk ▸ hb)] at e6
      simp only [List.append_assoc] at e6
      obtain ⟨a1, e6⟩ := be_split (flg_lt _) (flg_lt _) e6
      obtain ⟨a2, e6⟩ := be_split (by show (m.mn + 2147483648).toNat < 4294967296; omega) (by show (m'.mn + 2147483648).toNat < 4294967296; omega) e6
      obtain ⟨a3, e6⟩ := be_split (by show (m.mx + 2147483648).toNat < 4294967296; omega) (by show (m'.mx + 2147483648).toNat < 4294967296; omega) e6
      obtain ⟨a4, e6⟩ := be_split (by show m.le.length < 256; omega) (by show m'.le.length < 256; omega) e6
      exact ⟨flg_inj a1, by omega, by omega, tgx_inj h.le h'.le a4 e6⟩
    · obtain ⟨a1, a2⟩ := h.le0 hb
      obtain ⟨a3, a4⟩ := h'.le0 (hk ▸ hb)
      obtain ⟨b1, b2⟩ := h.ed a1
      obtain ⟨b3, b4⟩ := h'.ed a3
      exact ⟨a1.trans a3.symm, b1.trans b3.symm, b2.trans b4.symm, a2.trans a4.symm⟩
  obtain ⟨kd, _, _, _, _, _, _, _, _, _, _, _, _, _, _, _⟩ := m
  obtain ⟨kd', _, _, _, _, _, _, _, _, _, _, _, _, _, _, _⟩ := m'
  dsimp only at *
  obtain ⟨rfl, rfl⟩ := hSW
  obtain ⟨rfl, rfl⟩ := hCA
  obtain ⟨rfl, rfl⟩ := hL
  obtain ⟨rfl, rfl, rfl, rfl⟩ := hE
  subst hk hfr hto hep hnu e5
  rfl
open Go.RowKit Go.Shelf Go.Lib
structure Ex (G : Nat → Prop) (w w' : World) : Prop where
  os : w'.os = w.os
  tape : w'.tape = w.tape
  output : w'.output = w.output
  size : w.heap.size ≤ w'.heap.size
  block : ∀ b, b < w.heap.size → ¬ G b → w'.heap[b]? = w.heap[b]?
def Wty (t : TypeId) : Prop := t = 31 ∨ t = 73 ∨ t = 29
def Wtu (t : TypeId) : Prop := Wty t ∨ t = 75
structure Al (T : TypeId → Prop) (B : Nat) (w w' : World) : Prop where
  size : w.heap.size ≤ w'.heap.size
  block : ∀ b, b < w.heap.size → (b < B ∨ ∀ cs t, T t → w.heap[b]? ≠ some (.cells cs t (0, 0))) → w'.heap[b]? = w.heap[b]?
section
variable {G : Nat → Prop} {T : TypeId → Prop} {B : Nat} {w w' w'' : World}
theorem Ex.refl (G : Nat → Prop) (w : World) : Ex G w w := ⟨rfl, rfl, rfl, Nat.le_refl _, fun _ _ _ => rfl⟩
theorem Ex.trans (h : Ex G w w') (k : Ex G w' w'') : Ex G w w'' :=
  ⟨k.os.trans h.os, k.tape.trans h.tape, k.output.trans h.output, Nat.le_trans h.size k.size, fun b hb hg => (k.block b (Nat.lt_of_lt_of_le hb h.size) hg).trans (h.block b hb hg)⟩
theorem Ex.of_below (h : Below w.heap.size w w') : Ex G w w' := ⟨h.os, h.tape, h.output, h.size, fun b hb _ => h.block b hb⟩
theorem Ex.alloc (h : Ex G w w') (o : Obj) : Ex G w (w'.alloc o) := h.trans (Ex.of_below ((Below.refl _ _).alloc (Nat.le_refl _) o))
theorem Ex.drew (h : Ex G w w') : Ex G w w'.drew := ⟨h.os, h.tape, h.output, h.size, h.block⟩
theorem Ex.below (h : Ex G w w') {C : Nat} (hC : C ≤ w.heap.size) (hG : ∀ b, G b → C ≤ b) : Below C w w' :=
  ⟨h.os, h.tape, h.output, h.size, fun b hb => h.block b (by omega) (fun hg => by have := hG b hg; omega)⟩
theorem Ex.set (h : Ex G w w') {p : Addr} (hp : w.heap.size ≤ p.block) (v : Value) : Ex G w (w'.setCell p v) :=
  ⟨h.os, h.tape, h.output, by simpa [World.setCell] using h.size, fun b hb hg => (Below.heap_setCell _ _ _ b (by omega)).trans (h.block b hb hg)⟩
theorem Ex.heap (h : Ex G w w') {b : Nat} {o : Obj} (hb : w.heap[b]? = some o) (hg : ¬ G b) : w'.heap[b]? = some o := (h.block b (lt_of_heap hb) hg).trans hb
theorem Al.refl (T : TypeId → Prop) (B : Nat) (w : World) : Al T B w w := ⟨Nat.le_refl _, fun _ _ _ => rfl⟩
theorem Al.trans (h : Al T B w w') (k : Al T B w' w'') : Al T B w w'' :=
  ⟨Nat.le_trans h.size k.size, fun b hb hn => (k.block b (Nat.lt_of_lt_of_le hb h.size) (hn.imp id fun hn cs t ht e => hn cs t ht ((h.block b hb (.inr hn)).symm.trans e))).trans (h.block b hb hn)⟩
theorem Al.drew (h : Al T B w w') : Al T B w w'.drew := ⟨h.size, h.block⟩
theorem Al.of_below (h : Below w.heap.size w w') : Al T B w w' := ⟨h.size, fun b hb _ => h.block b hb⟩
theorem Al.alloc (o : Obj) : Al T B w (w.alloc o) := Al.of_below ((Below.refl _ _).alloc (Nat.le_refl _) o)
theorem Al.set {g : Nat} {cs : Array Value} {t : TypeId} (hg : B ≤ g) (ht : T t) (hb : w.heap[g]? = some (.cells cs t (0, 0))) (j : Nat) (v : Value) : Al T B w (w.setCell ⟨g, j, none⟩ v) :=
  ⟨by simp [World.setCell], fun b _ h => Below.heap_setCell _ _ _ b (by rintro rfl; rcases h with h | h; exact absurd h (by omega); exact h _ _ ht hb)⟩
end
structure Walker (σ : Type) where
  nf : σ → Nat → Nat → Nat × σ
  ff : σ → Bool → Bool × σ
  df : σ → Ddy → Ddy × σ
def DV (D : Dy) (d : Ddy) : Prop := D.s = d.s ∧ D.n = d.n ∧ D.f = d.f ∧ D.x = (d.x : Int)
structure Wlk {σ : Type} (W : Walker σ) (G : Nat → Prop) (Ba B : Nat) (I : σ → World → Prop) (Dv : World → Dy → Prop) (fn ff fd : Nat) (bd : Array Value) : Prop where
  gB : ∀ b, G b → Ba ≤ b ∧ b < B
  ab : Ba ≤ B
  en : ∀ args w, (callFunc fn args).run Tryz.prog w = .ok (.enter fn args) w
  ef : ∀ args w, (callFunc ff args).run Tryz.prog w = .ok (.enter ff args) w
  ed : ∀ args w, (callFunc fd args).run Tryz.prog w = .ok (.enter fd args) w
  inv : ∀ s w w', I s w → Al Wtu B w w' → I s w'
  dz : ∀ w, Dv w d0
  dal : ∀ w w' D, Dv w D → Al Wty B w w' → Dv w' D
  dex : ∀ w w' D, Dv w D → Ex G w w' → Dv w' D
  num : ∀ s w (V z : Nat), I s w → B ≤ w.heap.size → V < 4294967296 → 1 ≤ z → z ≤ 4 → Calls Tryz.prog fn ((bd.push (.int .u64 (V : Int))).push (.int .i64 (z : Int))) w fun e w' =>
    ∃ U : Nat, e = .returned (.int .u64 (U : Int)) ∧ Hid (U = (W.nf s V z).1 ∧ U < 4294967296) ∧ Hid (I (W.nf s V z).2 w') ∧ Hid (Ex G w w')
  flag : ∀ s w (b : Bool), I s w → B ≤ w.heap.size → Calls Tryz.prog ff (bd.push (.bool b)) w fun e w' =>
    ∃ r : Bool, e = .returned (.bool r) ∧ Hid (r = (W.ff s b).1) ∧ Hid (I (W.ff s b).2 w') ∧ Hid (Ex G w w')
  dyad : ∀ s w D d, I s w → B ≤ w.heap.size → DV D d → Rd w Ba D.A D.n D.c D.f → Calls Tryz.prog fd (bd.push (dyv D)) w fun e w' =>
    ∃ D', e = .returned (dyv D') ∧ Hid (DV D' (W.df s d).1) ∧ Hid (Dv w' D') ∧ Hid (I (W.df s d).2 w') ∧ Hid (Ex G w w')
abbrev wkv (fn ff fd : Nat) (bd : Array Value) : Value := .agg #[.func (.func fn) bd #[], .func (.func ff) bd #[], .func (.func fd) bd #[]]
def Wbx (w : World) (g : Nat) (fn ff fd : Nat) (bd : Array Value) : Prop := w.heap[g]? = some (.cells #[.func (.func fn) bd #[], .func (.func ff) bd #[], .func (.func fd) bd #[]] 57 (0, 0))
section
variable {w w' : World} {g fn ff fd : Nat} {bd : Array Value}
theorem Wbx.lt (h : Wbx w g fn ff fd bd) : g < w.heap.size := lt_of_heap h
theorem Wbx.c0 (h : Wbx w g fn ff fd bd) : w.cell? ⟨g, 0, none⟩ = some (.func (.func fn) bd #[]) := by rw [cell_of_row w g 0 _ _ (0, 0) h]; rfl
theorem Wbx.c1 (h : Wbx w g fn ff fd bd) : w.cell? ⟨g, 1, none⟩ = some (.func (.func ff) bd #[]) := by rw [cell_of_row w g 1 _ _ (0, 0) h]; rfl
theorem Wbx.c2 (h : Wbx w g fn ff fd bd) : w.cell? ⟨g, 2, none⟩ = some (.func (.func fd) bd #[]) := by rw [cell_of_row w g 2 _ _ (0, 0) h]; rfl
theorem Wbx.ex {G : Nat → Prop} (h : Wbx w g fn ff fd bd) (hx : Ex G w w') (hg : ¬ G g) : Wbx w' g fn ff fd bd := hx.heap h hg
theorem Wbx.alloc (h : Wbx w g fn ff fd bd) (x : Obj) : Wbx (w.alloc x) g fn ff fd bd := (Below.heap_alloc w x g h.lt).trans h
end
theorem desc_size : (Tryz.prog.info? 73).map (·.size) = some 2 := by kernel_rfl
theorem ret_desc1 {fn : Func} {R : Ending → World → Prop} {a : Act} {w : World} {p : Tmp} {g : Nat} {x y : Value} (h : fn.results = #[.cell p 73]) (hp : a.tmps.getD p undef = .pointer (some ⟨g, 0, none⟩))
    (hd : a.defers = []) (hg : w.heap[g]? = some (.cells #[x, y] 73 (0, 0))) (hR : R (.returned (.agg #[x, y])) w) : bodyPost Tryz.prog fn R .ret a w :=
  bodyPost_ret (cells_agg h a.tmps w g _ _ _ _ hp hg Tryz.underlying73 rfl desc_size) hd hR
theorem ret_edge1 {fn : Func} {R : Ending → World → Prop} {a : Act} {w : World} {p : Tmp} {g : Nat} {x y z : Value} (h : fn.results = #[.cell p 29]) (hp : a.tmps.getD p undef = .pointer (some ⟨g, 0, none⟩))
    (hd : a.defers = []) (hg : w.heap[g]? = some (.cells #[x, y, z] 29 (0, 0))) (hR : R (.returned (.agg #[x, y, z])) w) : bodyPost Tryz.prog fn R .ret a w :=
  bodyPost_ret (cells_agg h a.tmps w g _ _ _ _ hp hg Tryz.underlying29 rfl edge_size) hd hR
theorem row_c {w : World} {g : Nat} {cs : Array Value} {t : TypeId} {fr : Nat × Nat} (h : w.heap[g]? = some (.cells cs t fr)) (j : Nat) : w.cell? ⟨g, j, none⟩ = cs[j]? := cell_of_row w g j cs t fr h
theorem row_f {w : World} {g : Nat} {cs : Array Value} {t : TypeId} (h : w.heap[g]? = some (.cells cs t (0, 0))) (j : Nat) : w.frozen? ⟨g, j, none⟩ = false := frozen_of_row w g j cs t h
theorem new0 (w : World) (a : Obj) : (w.alloc a).heap[w.heap.size]? = some a := World.alloc_heap_new w a
theorem new30 (w : World) (a b c : Obj) : (((w.alloc a).alloc b).alloc c).heap[w.heap.size]? = some a := (Below.heap_alloc _ c _ (by simp; omega)).trans ((Below.heap_alloc _ b _ (by simp)).trans (World.alloc_heap_new w a))
theorem new31 (w : World) (a b c : Obj) : (((w.alloc a).alloc b).alloc c).heap[w.heap.size + 1]? = some b := by
  have h := World.alloc_heap_new (w.alloc a) b
  rw [show (w.alloc a).heap.size = w.heap.size + 1 by simp] at h
  exact (Below.heap_alloc _ c _ (by simp)).trans h
theorem new32 (w : World) (a b c : Obj) : (((w.alloc a).alloc b).alloc c).heap[w.heap.size + 1 + 1]? = some c := by
  have h := World.alloc_heap_new ((w.alloc a).alloc b) c
  rwa [show ((w.alloc a).alloc b).heap.size = w.heap.size + 1 + 1 by simp] at h
theorem al3 {T : TypeId → Prop} {B : Nat} (w : World) (a b c : Obj) : Al T B w (((w.alloc a).alloc b).alloc c) := ((Al.alloc a).trans (Al.alloc b)).trans (Al.alloc c)
theorem ex3 (G : Nat → Prop) (w : World) (a b c : Obj) : Ex G w (((w.alloc a).alloc b).alloc c) := (((Ex.refl G w).alloc a).alloc b).alloc c
theorem size3 (w : World) (a b c : Obj) : (((w.alloc a).alloc b).alloc c).heap.size = w.heap.size + 3 := by simp
theorem far1 {w : World} {b : Nat} {o : Obj} (h : w.heap[b]? = some o) {g : Nat} (hg : b ≠ g) (j : Nat) (x : Value) : (w.setCell ⟨g, j, none⟩ x).heap[b]? = some o := (Below.heap_setCell w ⟨g, j, none⟩ x b hg).trans h
theorem oth1 {w : World} {b g : Nat} (hg : b ≠ g) (i : Nat) (x : Value) : (w.setCell ⟨g, i, none⟩ x).heap[b]? = w.heap[b]? := Below.heap_setCell w ⟨g, i, none⟩ x b hg
theorem oth2 {w : World} {b g : Nat} (hg : b ≠ g) (i j : Nat) (x y : Value) : ((w.setCell ⟨g, i, none⟩ x).setCell ⟨g, j, none⟩ y).heap[b]? = w.heap[b]? := (oth1 hg j y).trans (oth1 hg i x)
theorem oth3 {w : World} {b g : Nat} (hg : b ≠ g) (i j k : Nat) (x y z : Value) : (((w.setCell ⟨g, i, none⟩ x).setCell ⟨g, j, none⟩ y).setCell ⟨g, k, none⟩ z).heap[b]? = w.heap[b]? := (oth1 hg k z).trans (oth2 hg i j x y)
theorem put_two {w : World} {g : Nat} {a b : Value} {t : TypeId} (h : w.heap[g]? = some (.cells #[a, b] t (0, 0))) (x y : Value) : ((w.setCell ⟨g, 0, none⟩ x).setCell ⟨g, 1, none⟩ y).heap[g]? = some (.cells #[x, y] t (0, 0)) :=
  heap_setCell_same _ g 1 _ _ y (heap_setCell_same w g 0 _ _ x h)
theorem put_three {w : World} {g : Nat} {a b c : Value} {t : TypeId} (h : w.heap[g]? = some (.cells #[a, b, c] t (0, 0))) (x y z : Value) : (((w.setCell ⟨g, 0, none⟩ x).setCell ⟨g, 1, none⟩ y).setCell ⟨g, 2, none⟩ z).heap[g]? = some (.cells #[x, y, z] t (0, 0)) :=
  heap_setCell_same _ g 2 _ _ z (heap_setCell_same _ g 1 _ _ y (heap_setCell_same w g 0 _ _ x h))
theorem al_put2 {T : TypeId → Prop} {B : Nat} {w : World} {g : Nat} {a b : Value} {t : TypeId} (hg : w.heap[g]? = some (.cells #[a, b] t (0, 0))) (hB : B ≤ g) (ht : T t) (x y : Value) : Al T B w ((w.setCell ⟨g, 0, none⟩ x).setCell ⟨g, 1, none⟩ y) :=
  (Al.set hB ht hg 0 x).trans (Al.set hB ht (heap_setCell_same w g 0 _ _ x hg) 1 y)
theorem al_put2' {T : TypeId → Prop} {B : Nat} {w : World} {g : Nat} {a b c : Value} {t : TypeId} (hg : w.heap[g]? = some (.cells #[a, b, c] t (0, 0))) (hB : B ≤ g) (ht : T t) (x y : Value) : Al T B w ((w.setCell ⟨g, 0, none⟩ x).setCell ⟨g, 1, none⟩ y) :=
  (Al.set hB ht hg 0 x).trans (Al.set hB ht (heap_setCell_same w g 0 _ _ x hg) 1 y)
theorem al_put3 {T : TypeId → Prop} {B : Nat} {w : World} {g : Nat} {a b c : Value} {t : TypeId} (hg : w.heap[g]? = some (.cells #[a, b, c] t (0, 0))) (hB : B ≤ g) (ht : T t) (x y z : Value) : Al T B w (((w.setCell ⟨g, 0, none⟩ x).setCell ⟨g, 1, none⟩ y).setCell ⟨g, 2, none⟩ z) :=
  (al_put2' hg hB ht x y).trans (Al.set hB ht (heap_setCell_same _ g 1 _ _ y (heap_setCell_same w g 0 _ _ x hg)) 2 z)
theorem ex_put2 {G : Nat → Prop} {w w' : World} {g : Nat} (h : Ex G w w') (hg : w.heap.size ≤ g) (i j : Nat) (x y : Value) : Ex G w ((w'.setCell ⟨g, i, none⟩ x).setCell ⟨g, j, none⟩ y) := (h.set (p := ⟨g, i, none⟩) hg x).set (p := ⟨g, j, none⟩) hg y
theorem ex_put3 {G : Nat → Prop} {w w' : World} {g : Nat} (h : Ex G w w') (hg : w.heap.size ≤ g) (i j k : Nat) (x y z : Value) : Ex G w (((w'.setCell ⟨g, i, none⟩ x).setCell ⟨g, j, none⟩ y).setCell ⟨g, k, none⟩ z) := (ex_put2 h hg i j x y).set (p := ⟨g, k, none⟩) hg z
open Go.RowKit Go.Shelf Go.Lib
set_option maxRecDepth 100000
theorem wr_setC (g : Nat) : ∀ (vs : List Value) (o : Nat) (w : World), (w.setCells g o vs).os = w.os ∧ (w.setCells g o vs).tape = w.tape ∧ (w.setCells g o vs).output = w.output ∧ w.heap.size = (w.setCells g o vs).heap.size ∧ ∀ b, b ≠ g → (w.setCells g o vs).heap[b]? = w.heap[b]?
  | [], _, _ => ⟨rfl, rfl, rfl, rfl, fun _ _ => rfl⟩
  | v :: vs, o, w => by
    obtain ⟨h1, h2, h3, h4, h5⟩ := wr_setC g vs (o + 1) (w.setCell ⟨g, o, none⟩ v)
    exact ⟨h1, h2, h3, (show w.heap.size = (w.setCell ⟨g, o, none⟩ v).heap.size by simp [World.setCell]).trans h4, fun b hb => (h5 b hb).trans (Below.heap_setCell _ _ _ b hb)⟩
structure Wq (g : Nat) (X X' : World) : Prop where
  os : X'.os = X.os
  tape : X'.tape = X.tape
  output : X'.output = X.output
  size : X.heap.size = X'.heap.size
  block : ∀ b, b ≠ g → X'.heap[b]? = X.heap[b]?
theorem Wq.set (g : Nat) (vs : List Value) (o : Nat) (w : World) : Wq g w (w.setCells g o vs) := by
  obtain ⟨h1, h2, h3, h4, h5⟩ := wr_setC g vs o w
  exact ⟨h1, h2, h3, h4, h5⟩
theorem Wq.bel {g B : Nat} {w X Y : World} (h : Wq g X Y) (hx : Below B w X) (hg : B ≤ g) : Below B w Y :=
  ⟨h.os.trans hx.os, h.tape.trans hx.tape, h.output.trans hx.output, Nat.le_trans hx.size (Nat.le_of_eq h.size), fun b hb => (h.block b (by omega)).trans (hx.block b hb)⟩
theorem Wq.lim {g B : Nat} {X Y : World} {A : Option Addr} {n c : Nat} {f : Nat → Nat} (h : Wq g X Y) (hm : Mk X 75 B A n c f) (hg : g < B) : Mk Y 75 B A n c f :=
  ⟨hm.cap, hm.max, hm.lt, hm.out, hm.own.imp id (by
    rintro ⟨b, cs, hA, hb, hh, hs, hc⟩
    exact ⟨b, cs, hA, hb, (h.block b (by omega)).trans hh, hs, hc⟩)⟩
theorem wp_row_k {ops : Array Oper} {rest : List Oper} {o : Oper} {a : Act} {w : World} {Q : Exit → Act → World → Prop} (hgd : o.guard = none) (ty : TypeId) (x y : Operand) (ho : o.op = .store ty x y)
    (g : Nat) (t : TypeId) (old cs : Array Value) (hx : a.eval x = .pointer (some ⟨g, 0, none⟩)) (hy : a.eval y = .agg cs) (hg : w.heap[g]? = some (.cells old t (0, 0))) (hs : old.size = cs.size) (hi : (Tryz.prog.info? ty).map (·.size) = some cs.size) (h1 : cs.all (·.oneCell') = true)
    (h : ∀ w', w'.heap[g]? = some (.cells cs t (0, 0)) → Wq g w w' → wpList Tryz.prog ops Q rest (a.put o.dst undef) w') : wpList Tryz.prog ops Q (o :: rest) a w := by
  refine wpList_store_mid hgd ty x y ho g 0 cs hx hy (fun j hj => ?_) hi h1 (h _ ?_ (Wq.set g cs.toList 0 w))
  · rw [Nat.zero_add]
    refine ⟨?_, frozen_of_row w g j _ _ hg⟩
    rw [cell_of_row w g j _ _ (0, 0) hg]
    have : j < old.size := by omega
    simp [this]
  · obtain ⟨cs', e1, e2, e3⟩ := heap_setCells g _ cs.toList 0 w _ hg
    have e : cs' = cs := by
      apply Array.ext_getElem?
      intro j
      by_cases hj : j < cs.size
      · rw [e3 j (by omega), if_pos ⟨Nat.zero_le _, by simpa using hj⟩, Nat.sub_zero, Array.getElem?_toList]
      · rw [Array.getElem?_eq_none (by omega), Array.getElem?_eq_none (by omega)]
    rw [e] at e1
    exact e1
theorem Wq.at {g b : Nat} {X Y : World} {o : Option Obj} (h : Wq g X Y) (hp : X.heap[b]? = o) (hn : b ≠ g) : Y.heap[b]? = o := (h.block b hn).trans hp
theorem wp_cell_k {ops : Array Oper} {rest : List Oper} {o : Oper} {a : Act} {w : World} {Q : Exit → Act → World → Prop} (hgd : o.guard = none) (ty : TypeId) (x y : Operand) (ho : o.op = .store ty x y)
    (g j : Nat) (v : Value) (t : TypeId) (old cs : Array Value) (hx : a.eval x = .pointer (some ⟨g, j, none⟩)) (hy : a.eval y = v) (h1 : v.oneCell' = true) (hi : (Tryz.prog.info? ty).map (·.size) = some 1) (hg : w.heap[g]? = some (.cells old t (0, 0))) (hj : j < old.size)
    (e : old.setIfInBounds j v = cs) (h : ∀ w', w'.heap[g]? = some (.cells cs t (0, 0)) → Wq g w w' → wpList Tryz.prog ops Q rest (a.put o.dst undef) w') : wpList Tryz.prog ops Q (o :: rest) a w :=
  wpList_plain hgd fun _ hK => by
    have hc : v.cells = #[v] := by cases v <;> first | rfl | cases h1
    have hs := run_storeCells_cells (P := Tryz.prog) g j [v] 0 w (fun k hk => by
      obtain rfl : k = 0 := by simpa using hk
      rw [cell_of_row w g _ _ _ (0, 0) hg]
      simp only [Nat.add_zero]
      rw [Array.getElem?_eq_getElem hj]
      rfl) (fun k hk => frozen_of_row w g _ _ _ hg) (fun u hu => by obtain rfl : u = v := by simpa using hu
                                                                    exact h1)
    simp only [Nat.add_zero] at hs
    have hv : (storeVar ty ⟨g, j, none⟩ v).run Tryz.prog w = .ok () (w.setCells g j [v]) := by
      cases hq : Tryz.prog.info? ty with
      | none => simp [hq] at hi
      | some i =>
        have hz : i.size = 1 := by simpa [hq] using hi
        simp [storeVar, sizeOf, typeInfo, hq, hc, hz, hs]
    unfold Oper.wp execOp
    simp only [ho, hx, hy, Instr.storeAt, Instr.sureAddr, Sem.run_bind, Sem.run_pure, Result.andThen_ok, hv]
    refine hK _ _ (h _ ?_ (Wq.set g [v] j w))
    have hh := heap_setCell_same w g j _ _ v hg
    rw [e] at hh
    exact hh
theorem wp_mid_k {ops : Array Oper} {rest : List Oper} {o : Oper} {a : Act} {w : World} {Q : Exit → Act → World → Prop} (hgd : o.guard = none) (ty : TypeId) (x y : Operand) (ho : o.op = .store ty x y)
    (g j : Nat) (t : TypeId) (old vs cs : Array Value) (hx : a.eval x = .pointer (some ⟨g, j, none⟩)) (hy : a.eval y = .agg vs) (hg : w.heap[g]? = some (.cells old t (0, 0))) (hj : j + vs.size ≤ old.size) (hi : (Tryz.prog.info? ty).map (·.size) = some vs.size) (h1 : vs.all (·.oneCell') = true)
    (hcs : cs.size = old.size) (e : ∀ k, k < old.size → cs[k]? = if j ≤ k ∧ k < j + vs.size then vs[k - j]? else old[k]?)
    (h : ∀ w', w'.heap[g]? = some (.cells cs t (0, 0)) → Wq g w w' → wpList Tryz.prog ops Q rest (a.put o.dst undef) w') : wpList Tryz.prog ops Q (o :: rest) a w := by
  refine wpList_store_mid hgd ty x y ho g j vs hx hy (fun k hk => ?_) hi h1 (h _ ?_ (Wq.set g vs.toList j w))
  · refine ⟨?_, frozen_of_row w g (j + k) _ _ hg⟩
    rw [cell_of_row w g (j + k) _ _ (0, 0) hg]
    have : j + k < old.size := by omega
    simp [this]
  · obtain ⟨cs', e1, e2, e3⟩ := heap_setCells g _ vs.toList j w _ hg
    have e4 : cs' = cs := by
      apply Array.ext_getElem?
      intro k
      by_cases hk : k < old.size
      · rw [e3 k (by omega), e k hk, Array.length_toList]
        split
        · rw [Array.getElem?_toList]
        · rfl
      · rw [Array.getElem?_eq_none (by omega), Array.getElem?_eq_none (by omega)]
    rw [e4] at e1
    exact e1
open Go.RowKit Go.Shelf Go.Lib
set_option maxRecDepth 100000
theorem results_rd {fn : Func} {p q : Tmp} {ty tz : TypeId} (h : fn.results = #[.cell p ty, .cell q tz]) (tmps : Array Value) (P : Program) (w : World) :
    (results fn tmps).run P w =
      ((asAddr (tmps.getD p undef)).run P w).andThen fun a w₁ => ((loadVar ty a).run P w₁).andThen fun x w₂ => ((asAddr (tmps.getD q undef)).run P w₂).andThen fun b w₃ => ((loadVar tz b).run P w₃).andThen fun y w₄ => .ok (.tuple #[x, y]) w₄ := by
  simp only [results, h]
  simp [Sem.run_bind, Result.andThen]
theorem ret_reader_dyad {fn : Func} {R : Ending → World → Prop} {a : Act} {w : World} {q u : Tmp} {g k n c : Nat} {A : Option Addr} {p : Int} {ok s : Bool} {v : Value} {x : Int} (h : fn.results = #[.cell q 106, .cell u 24]) (hp : a.tmps.getD q undef = .pointer (some ⟨g, 0, none⟩)) (hu : a.tmps.getD u undef = .pointer (some ⟨k, 0, none⟩))
    (hd : a.defers = []) (hg : Dbr w g A n c p ok) (hk : Dbox w k s v x) (hR : R (.returned (.tuple #[.agg #[.slice A n c, .int .i64 p, .bool ok], .agg #[.bool s, v, .int .i64 x]])) w) : bodyPost Tryz.prog fn R .ret a w := by
  refine bodyPost_ret ?_ hd hR
  rw [results_rd h, hp, hu]
  simp [asAddr, Result.andThen, run_loadVar_row w g 106 106 _ (0, 0) _ hg Tryz.underlying106 rfl reader_size, run_loadVar_row w k _ 24 _ _ _ hk Tryz.underlying24 rfl dyad_size]
def twoW (V : World) (g k : Nat) (A : Option Addr) (n c : Nat) (p : Int) (ok s : Bool) (v : Value) (x : Int) : World :=
  ((((((V.setCell ⟨g, 0, none⟩ (.slice A n c)).setCell ⟨g, 1, none⟩ (.int .i64 p)).setCell ⟨g, 2, none⟩ (.bool ok)).setCell ⟨k, 0, none⟩ (.bool s)).setCell ⟨k, 1, none⟩ v).setCell ⟨k, 2, none⟩ (.int .i64 x)).drew
theorem two_put {V : World} {g k B : Nat} {A A0 : Option Addr} {n c n0 c0 : Nat} {p p0 : Int} {ok ok0 s s0 : Bool} {v v0 : Value} {x x0 : Int} {E : Option Addr} {m d : Nat} {f : Nat → Nat} (hg : Dbr V g A0 n0 c0 p0 ok0) (hk : Dbox V k s0 v0 x0) (hn : g ≠ k) (hm : Mk V 75 B E m d f) (h1 : g < B) (h2 : k < B) :
    Dbr (twoW V g k A n c p ok s v x) g A n c p ok ∧ Dbox (twoW V g k A n c p ok s v x) k s v x ∧ Mk (twoW V g k A n c p ok s v x) 75 B E m d f ∧ ∀ C w, Below C w V → C ≤ g → C ≤ k → Below C w (twoW V g k A n c p ok s v x) := by
  have a1 := (hg.store (A' := A) (n' := n) (c' := c) (p' := p) (ok' := ok))
  obtain ⟨V1, hV1⟩ : ∃ V1, V1 = (((V.setCell ⟨g, 0, none⟩ (.slice A n c)).setCell ⟨g, 1, none⟩ (.int .i64 p)).setCell ⟨g, 2, none⟩ (.bool ok)) := ⟨_, rfl⟩
  have b1 : Dbox V1 k s0 v0 x0 := hV1 ▸ ((Below.heap_setCell _ _ _ _ hn.symm).trans ((Below.heap_setCell _ _ _ _ hn.symm).trans ((Below.heap_setCell _ _ _ _ hn.symm).trans hk)))
  have W1 : Wq g V V1 := hV1 ▸ (Wq.set g [.slice A n c, .int .i64 p, .bool ok] 0 V)
  rw [← hV1] at a1
  obtain ⟨V2, hV2⟩ : ∃ V2, V2 = (((V1.setCell ⟨k, 0, none⟩ (.bool s)).setCell ⟨k, 1, none⟩ v).setCell ⟨k, 2, none⟩ (.int .i64 x)) := ⟨_, rfl⟩
  have W2 : Wq k V1 V2 := hV2 ▸ (Wq.set k [.bool s, v, .int .i64 x] 0 V1)
  have b2 : Dbox V2 k s v x := hV2 ▸ b1.store
  have a2 : Dbr V2 g A n c p ok := (W2.block g hn).trans a1
  have e : twoW V g k A n c p ok s v x = V2.drew := by rw [hV2, hV1]; rfl
  rw [e]
  exact ⟨a2, b2, (W2.lim (W1.lim hm h1) h2).below (Below.refl _ _).drew (Nat.le_refl _), fun C w hb hg hk => (W2.bel (W1.bel hb hg) hk).drew⟩
set_option maxHeartbeats 6400000 in
theorem edyad_core {w : World} {A A1 : Option Addr} {n c n1 c1 : Nat} {p p1 : Int} {ok : Bool} {er : Int} {dv : Ddy}
    (CN : ∀ X, Below w.heap.size w X → Calls Tryz.prog 104 #[.agg #[.slice A n c, .int .i64 p]] X fun e w' => ∃ D : Dy, e = .returned (.tuple #[.agg #[.slice A1 n1 c1, .int .i64 p1], .agg #[.bool D.s, .slice D.A D.n D.c, .int .i64 D.x], .int .i64 er]) ∧ Hid (Mk w' 75 X.heap.size D.A D.n D.c D.f ∧ DV D dv) ∧ Hid (Below X.heap.size X w')) :
    Calls Tryz.prog 71 #[.agg #[.slice A n c, .int .i64 p, .bool ok]] w fun e w' => ∃ D : Dy, e = .returned (.tuple #[.agg #[.slice A1 n1 c1, .int .i64 p1, .bool (ok && decide (er = 0))], .agg #[.bool D.s, .slice D.A D.n D.c, .int .i64 D.x]]) ∧ Hid (Mk w' 75 w.heap.size D.A D.n D.c D.f ∧ DV D dv) ∧ Hid (Below w.heap.size w w') := by
  obtain ⟨W, hW⟩ : ∃ W, W = ((w.alloc (.cells #[.slice A n c, .int .i64 p, .bool ok] 106)).alloc (.cells #[.slice none 0 0, .int .i64 0, .bool false] 106)).alloc (.cells #[.bool false, .slice none 0 0, .int .i64 0] 24) := ⟨_, rfl⟩
  have B0 := hid (show Below w.heap.size w W from hW ▸ (((Below.refl _ w).alloc (Nat.le_refl _) _).alloc (by simp) _).alloc (by simp; omega) _)
  have X0 := hid (show Dbr W w.heap.size A n c p ok from hW ▸ heap3_0 w _ _ _)
  have Y0 := hid (show Dbr W (w.heap.size + 1) none 0 0 0 false from hW ▸ heap3_1 w _ _ _)
  have Z0 : Hid (Dbox W (w.heap.size + 2) false (.slice none 0 0) 0) := hid (hW ▸ heap3_2 w _ _ _)
  have HW := hid hW
  have HWS := hid (show w.heap.size + 3 ≤ W.heap.size by have := Z0.out.lt; omega)
  have CN := hid (CN W B0.out)
  clear hW
  have x0 := X0.out.c0
  have x1 := X0.out.c1
  go_enter Tryz.func71, Tryz.ntmps71
  go_upto_region 1 with fail
  rw [← HW.out]
  clear HW
  go_wp2_with fail
  refine CN.out.mono ?_
  rintro e w1 ⟨D, rfl, hD, hb⟩
  have X1 := hid (X0.out.below hb.out X0.out.lt)
  have Y1 := hid (Y0.out.below hb.out Y0.out.lt)
  have Z1 := hid (Z0.out.below hb.out Z0.out.lt)
  have K1 := hid (B0.out.trans (hb.out.mono B0.out.size))
  have HS := hid (show W.heap.size ≤ w1.heap.size from hb.out.size)
  clear x0 x1 CN X0 Y0 Z0 B0 hb
  go_upto_region 2 with fail
  obtain ⟨V3, hV3⟩ : ∃ V, V = (w1.alloc (.cells #[.slice A1 n1 c1, .int .i64 p1] 63)).alloc (.cells #[.bool D.s, .slice D.A D.n D.c, .int .i64 D.x] 24) := ⟨_, rfl⟩
  have P4 := hid (show Rbox V3 63 w1.heap.size A1 n1 c1 p1 from hV3 ▸ pheap0 w1 _ _)
  have Q4 := hid (show Dbox V3 (w1.heap.size + 1) D.s (.slice D.A D.n D.c) D.x from hV3 ▸ pheap1 w1 _ _)
  have K4 := hid (show Below w1.heap.size w1 V3 from hV3 ▸ ((Below.refl _ w1).alloc (Nat.le_refl _) _).alloc (by simp) _)
  rw [← hV3]
  clear hV3
  have X4 := hid (X1.out.below K4.out X1.out.lt)
  have Y4 := hid (Y1.out.below K4.out Y1.out.lt)
  have Z4 := hid (Z1.out.below K4.out Z1.out.lt)
  have M4 := hid (show Mk V3 75 W.heap.size D.A D.n D.c D.f from hD.out.1.below K4.out (Nat.le_refl _))
  have K5 := hid (K1.out.trans (K4.out.mono K1.out.size))
  clear X1 Y1 Z1 K1 K4
  have z0 := P4.out.c0
  have z1 := P4.out.c1
  have x2 := X4.out.c2
  have d0 := Q4.out.c0
  have d1 := Q4.out.c1
  have d2 := Q4.out.c2
  have y0 := Y4.out.c0
  have y1 := Y4.out.c1
  have y2 := Y4.out.c2
  have f0 := Y4.out.frozen 0
  have f1 := Y4.out.frozen 1
  have f2 := Y4.out.frozen 2
  have r0 := Z4.out.c0
  have r1 := Z4.out.c1
  have r2 := Z4.out.c2
  have s0 := Z4.out.frozen 0
  have s1 := Z4.out.frozen 1
  have s2 := Z4.out.frozen 2
  have n1' : w1.heap.size ≠ w.heap.size + 1 := by have := HS.out; have := HWS.out; omega
  have n2' : w1.heap.size ≠ w.heap.size + 2 := by have := HS.out; have := HWS.out; omega
  have n3' : w1.heap.size + 1 ≠ w.heap.size + 1 := by have := HS.out; have := HWS.out; omega
  have n4' : w1.heap.size + 1 ≠ w.heap.size + 2 := by have := HS.out; have := HWS.out; omega
  have TP := hid (fun (okv : Bool) => two_put (A := A1) (n := n1) (c := c1) (p := p1) (ok := okv) (s := D.s) (v := .slice D.A D.n D.c) (x := D.x) Y4.out Z4.out (by omega) M4.out (by have := HWS.out; omega) (by have := HWS.out; omega))
  have HDV := hid hD.out.2
  have fin : Hid (∀ okv : Bool, (ok && decide (er = 0)) = okv → ∃ D' : Dy, Ending.returned (.tuple #[.agg #[.slice A1 n1 c1, .int .i64 p1, .bool okv], .agg #[.bool D.s, .slice D.A D.n D.c, .int .i64 D.x]]) = .returned (.tuple #[.agg #[.slice A1 n1 c1, .int .i64 p1, .bool (ok && decide (er = 0))], .agg #[.bool D'.s, .slice D'.A D'.n D'.c, .int .i64 D'.x]]) ∧ Hid (Mk (twoW V3 (w.heap.size + 1) (w.heap.size + 2) A1 n1 c1 p1 okv D.s (.slice D.A D.n D.c) D.x) 75 w.heap.size D'.A D'.n D'.c D'.f ∧ DV D' dv) ∧ Hid (Below w.heap.size w (twoW V3 (w.heap.size + 1) (w.heap.size + 2) A1 n1 c1 p1 okv D.s (.slice D.A D.n D.c) D.x))) :=
    hid fun okv e => ⟨D, by rw [e], hid ⟨(TP.out okv).2.2.1.mono (by have := HWS.out; omega), HDV.out⟩, hid ((TP.out okv).2.2.2 _ _ K5.out (by omega) (by omega))⟩
  clear X4 Y4 Z4 Q4 M4 K5 hD
  cases ok with
  | false =>
    go_region
    clear z0 z1 x2 d0 d1 d2 y0 y1 y2 f0 f1 f2 r0 r1 r2 s0 s1 s2
    go_wp2
    exact ret_reader_dyad rfl rfl rfl rfl (TP.out false).1 (TP.out false).2.1 (fin.out false rfl)
  | true =>
    by_cases he : er = 0
    · subst he
      go_region
      clear z0 z1 x2 d0 d1 d2 y0 y1 y2 f0 f1 f2 r0 r1 r2 s0 s1 s2
      go_wp2
      exact ret_reader_dyad rfl rfl rfl rfl (TP.out true).1 (TP.out true).2.1 (fin.out true rfl)
    · have hd : (er == 0) = false := by simpa using he
      have he := hid (decide_eq_false he)
      go_region
      clear z0 z1 x2 d0 d1 d2 y0 y1 y2 f0 f1 f2 r0 r1 r2 s0 s1 s2
      go_wp2
      exact ret_reader_dyad rfl rfl rfl rfl (TP.out false).1 (TP.out false).2.1 (fin.out false (by rw [he.out]; rfl))
def rdy (xs : List Nat) (st : Option Nat) : Ddy × Option Nat :=
  match st with
  | some q => if dE (xs.drop q) = 0 then (⟨decide (sgOf (xs.drop q) = 1), cntOf (xs.drop q), limOf (xs.drop q), expOf (xs.drop q)⟩, some (q + (4 + 4 * cntOf (xs.drop q)))) else (d0z, none)
  | none => (d0z, none)
theorem edyadT {w : World} {xs : List Nat} {st : Option Nat} {A : Option Addr} {n c : Nat} (h : By w w.heap.size A n c xs) (hst : Rok xs st) (hx : xs.length ≤ 5000) :
    Calls Tryz.prog 71 #[.agg (rdc A n c st)] w fun e w' => ∃ D : Dy, e = .returned (.tuple #[.agg (rdc A n c (rdy xs st).2), .agg #[.bool D.s, .slice D.A D.n D.c, .int .i64 D.x]]) ∧ Hid (Mk w' 75 w.heap.size D.A D.n D.c D.f ∧ DV D (rdy xs st).1) ∧ Hid (Below w.heap.size w w') := by
  have hn := h.len
  cases st with
  | none =>
    refine (edyad_core (w := w) (A := none) (n := 0) (c := 0) (p := 0) (ok := false) (A1 := none) (n1 := 0) (c1 := 0) (p1 := 0) (er := 40) (dv := d0z) (fun X _ => ?_)).mono fun e w' he => he
    refine (rfDyad_at (By.nul X X.heap.size) (p := 0) (by omega) (by omega)).mono ?_
    rintro e w' ⟨A', n', c', p', s, D, k, d, x, er, f, rfl, he, _, hm, _, hz, hb⟩
    have hE : er = 40 := by
      rw [he.out]
      unfold dEr
      rw [if_pos (by omega)]
      exact (dE_short (ys := ([] : List Nat).drop (0 : Int).toNat) (Or.inl (by decide))).symm
    obtain ⟨rfl, rfl, rfl, rfl, rfl, rfl, rfl, rfl, rfl, rfl⟩ := hz.out (by omega)
    subst hE
    exact ⟨⟨false, none, 0, 0, 0, fun _ => 0⟩, rfl, hid ⟨hm.out, rfl, rfl, rfl, rfl⟩, hb⟩
  | some q =>
    have hq := hst q rfl
    have hE0 : ∀ er : Int, er = dEr n xs (q : Int) → er = dE (xs.drop q) := fun er he => by
      rw [he]
      unfold dEr
      rw [if_pos (by omega), Int.toNat_natCast]
    by_cases hd : dE (xs.drop q) = 0
    · have hR : rdy xs (some q) = (⟨decide (sgOf (xs.drop q) = 1), cntOf (xs.drop q), limOf (xs.drop q), expOf (xs.drop q)⟩, some (q + (4 + 4 * cntOf (xs.drop q)))) := if_pos hd
      rw [hR]
      refine (edyad_core (w := w) (A := A) (n := n) (c := c) (p := (q : Int)) (ok := true) (A1 := A) (n1 := n) (c1 := c) (p1 := ((q + (4 + 4 * cntOf (xs.drop q)) : Nat) : Int)) (er := 0) (dv := ⟨decide (sgOf (xs.drop q) = 1), cntOf (xs.drop q), limOf (xs.drop q), expOf (xs.drop q)⟩) (fun X hX => ?_)).mono fun e w' he => he
      refine (rfDyad_at ((h.below hX).mono hX.size) (p := (q : Int)) (by omega) (by omega)).mono ?_
      rintro e w' ⟨A', n', c', p', s, D, k, d, x, er, f, rfl, he, h1, hm, h2, _, hb⟩
      obtain rfl : er = 0 := (hE0 er he.out).trans hd
      obtain ⟨rfl, rfl, rfl, hp⟩ := h1.out rfl
      obtain ⟨rfl, rfl, rfl, rfl⟩ := h2.out rfl
      rw [Int.toNat_natCast] at hp
      refine ⟨⟨decide (sgOf (xs.drop ((q : Int).toNat)) = 1), D, cntOf (xs.drop ((q : Int).toNat)), d, (expOf (xs.drop ((q : Int).toNat)) : Int), limOf (xs.drop ((q : Int).toNat))⟩, ?_, hid ⟨hm.out, rfl, rfl, rfl, rfl⟩, hb⟩
      · rw [hp, show ((q + (4 + 4 * cntOf (xs.drop q)) : Nat) : Int) = (q : Int) + (4 + 4 * (cntOf (xs.drop q) : Int)) by omega]
    · have hR : rdy xs (some q) = (d0z, none) := if_neg hd
      rw [hR]
      refine (edyad_core (w := w) (A := A) (n := n) (c := c) (p := (q : Int)) (ok := true) (A1 := none) (n1 := 0) (c1 := 0) (p1 := 0) (er := dE (xs.drop q)) (dv := d0z) (fun X hX => ?_)).mono fun e w' he => ?_
      · refine (rfDyad_at ((h.below hX).mono hX.size) (p := (q : Int)) (by omega) (by omega)).mono ?_
        rintro e w' ⟨A', n', c', p', s, D, k, d, x, er, f, rfl, he, _, hm, _, hz, hb⟩
        have hE := hE0 er he.out
        obtain ⟨rfl, rfl, rfl, rfl, rfl, rfl, rfl, rfl, rfl, rfl⟩ := hz.out (by rw [hE]; exact hd)
        rw [hE]
        exact ⟨⟨false, none, 0, 0, 0, fun _ => 0⟩, rfl, hid ⟨hm.out, rfl, rfl, rfl, rfl⟩, hb⟩
      · rw [decide_eq_false hd] at he
        exact he
end Go.Proofs.YtbankbehfjogpaaGreat
