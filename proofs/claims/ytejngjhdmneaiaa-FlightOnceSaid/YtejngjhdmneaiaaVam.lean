/- Loads, plainly: put together out of the places ahead, others, and the places behind. No program is named here. -/
/- Flight, the program: within, mayBe, rising. -/
/- Loads out of rows; two loads that read alike are the same. -/
import Derived.Test.YtejngjhdmneaiaaVaa
import Derived.Test.YtejngjhdmneaiaaVal

namespace Go.Proofs.Ytejngjhdmneaiaa.Fli
section
variable {γ : Type}
/-- In its place, and by its Number, is the same. -/
theorem ins_at {x : Ld γ} : ∀ {l : List (Ld γ)} {k : Nat}, k ≤ l.length → (∀ (j : Nat) (p : Ld γ), j < k → l[j]? = some p → ¬ x.1 < p.1) → (∀ p, l[k]? = some p → x.1 < p.1) → l.take k ++ ([x] ++ l.drop k) = ins x l
  | [], k, hk, _, _ => by
    have : k = 0 := by simpa using hk
    subst this
    rfl
  | y :: l, 0, _, _, h => by
    unfold ins
    rw [if_pos (h y rfl)]
    rfl
  | y :: l, k + 1, hk, ha, h => by
    have ih := ins_at (x := x) (l := l) (k := k) (by simpa using hk) (fun j p hj hp => ha (j + 1) p (by omega) (by simpa using hp)) (fun p hp => h p (by simpa using hp))
    unfold ins
    rw [if_neg (ha 0 y (by omega) rfl), ← ih]
    rfl
theorem set_at {l : List (Ld γ)} {k : Nat} {x : Ld γ} (hk : k < l.length) : l.take k ++ ([x] ++ l.drop (k + 1)) = l.set k x := by
  rw [List.set_eq_take_append_cons_drop, if_pos hk]
  rfl
/-- The load of a Number stands in its place. -/
theorem fnd_at {n : Int} {l : List (Ld γ)} {i : Nat} {x : Ld γ} (hx : l[i]? = some x) (he : x.1 = n) (ha : ∀ (j : Nat) (p : Ld γ), j < i → l[j]? = some p → p.1 ≠ n) : fnd n l = some x := by
  unfold fnd
  induction l generalizing i with
  | nil => simp at hx
  | cons y l ih =>
    cases i with
    | zero =>
      obtain rfl : y = x := by simpa using hx
      rw [List.find?_cons_of_pos (by simpa using he)]
    | succ i =>
      rw [List.find?_cons_of_neg (by simpa using ha 0 y (by omega) rfl)]
      exact ih (i := i) (by simpa using hx) (fun j p hj hp => ha (j + 1) p (by omega) (by simpa using hp))
theorem fnd_no {n : Int} {l : List (Ld γ)} (ha : ∀ (j : Nat) (p : Ld γ), j < l.length → l[j]? = some p → p.1 ≠ n) : fnd n l = none :=
  fnd_none fun i x hx => ha i x (List.getElem?_eq_some_iff.1 hx).1 hx
/-- Loads that may be, up to a place. -/
def upto_ (G : γ → Prop) (l : List (Ld γ)) (k : Nat) : Prop := ∀ j p, j < k → l[j]? = some p → MayL G p ∧ ∀ q, 0 < j → l[j - 1]? = some q → q.1 < p.1
theorem upto_all {G : γ → Prop} {l : List (Ld γ)} : upto_ G l l.length ↔ (∀ p ∈ l, MayL G p) ∧ Rise l := by
  constructor
  · intro h
    refine ⟨fun p hp => ?_, rise_of fun i a b ha hb => ?_⟩
    · obtain ⟨j, hj⟩ := List.mem_iff_getElem?.1 hp
      exact (h j p (List.getElem?_eq_some_iff.1 hj).1 hj).1
    · exact (h (i + 1) b (List.getElem?_eq_some_iff.1 hb).1 hb).2 a (by omega) ha
  · rintro ⟨h1, h2⟩ j p hj hp
    exact ⟨h1 p (List.mem_of_getElem? hp), fun q h0 hq => rise_at h2 hq hp (by omega)⟩
theorem upto_next {G : γ → Prop} {l : List (Ld γ)} {k : Nat} {p : Ld γ} (h : upto_ G l k) (hp : l[k]? = some p) (hm : MayL G p) (hr : ∀ q, 0 < k → l[k - 1]? = some q → q.1 < p.1) : upto_ G l (k + 1) := fun j a hj ha => by
  rcases Nat.lt_or_ge j k with h1 | h1
  · exact h j a h1 ha
  · obtain rfl : j = k := by omega
    rw [hp] at ha
    injection ha with ha
    subst ha
    exact ⟨hm, hr⟩

/-- What Double, Land and Lose answer where the loads and the Number may be: the loads left, the load that comes down, the error (f: 0 doubled, 1 lost, 2 landed). -/
def turnL (l : List (Ld γ)) (n : Int) (f : Nat) : List (Ld γ) := match fnd n l with
  | none => l
  | some x => if f = 0 then (if x.2.2.1 = 16 then [] else cpy n (fun c => c + 1) l) else if f = 1 then (if 1 < x.2.2.1 then cpy n (fun c => c - 1) l else del n l) else del n l
def turnX (l : List (Ld γ)) (n : Int) (f : Nat) : Option (Ld γ) := match fnd n l with
  | none => none
  | some x => if f = 0 then none else if f = 1 then (if 1 < x.2.2.1 then none else some x) else some x
def turnE (l : List (Ld γ)) (n : Int) (f : Nat) : Int := match fnd n l with
  | none => 0
  | some x => if f = 0 then (if x.2.2.1 = 16 then 9 else 0) else 0
end
end Go.Proofs.Ytejngjhdmneaiaa.Fli


namespace Go.Proofs.Ytejngjhdmneaiaa.Fli
set_option maxRecDepth 100000
open Go.RowKit Go.Shelf Go.Lib

theorem within_any (w : World) (n m : Int) : Calls Try.prog 32 #[.int .i64 n, .int .i64 m] w fun e w' => e = .returned (.bool (decide (0 ≤ n ∧ n ≤ m))) ∧ w = w' := by
  by_cases h1 : n ≥ 0
  · by_cases h2 : n ≤ m
    · rw [decide_eq_true (show 0 ≤ n ∧ n ≤ m from ⟨h1, h2⟩)]
      go_enter Try.func32, Try.ntmps32
      go_wp2
      go_ret
      exact ⟨rfl, rfl⟩
    · rw [decide_eq_false (show ¬ (0 ≤ n ∧ n ≤ m) from fun h => h2 h.2)]
      go_enter Try.func32, Try.ntmps32
      go_wp2
      go_ret
      exact ⟨rfl, rfl⟩
  · rw [decide_eq_false (show ¬ (0 ≤ n ∧ n ≤ m) from fun h => h1 h.1)]
    go_enter Try.func32, Try.ntmps32
    go_wp2
    go_ret
    exact ⟨rfl, rfl⟩
theorem within_yes {n m : Int} (h : 0 ≤ n ∧ n ≤ m) (w : World) : Calls Try.prog 32 #[.int .i64 n, .int .i64 m] w fun e w' => e = .returned (.bool true) ∧ w = w' := by
  have := within_any w n m
  rwa [decide_eq_true h] at this
theorem within_no {n m : Int} (h : ¬ (0 ≤ n ∧ n ≤ m)) (w : World) : Calls Try.prog 32 #[.int .i64 n, .int .i64 m] w fun e w' => e = .returned (.bool false) ∧ w = w' := by
  have := within_any w n m
  rwa [decide_eq_false h] at this

set_option maxHeartbeats 3200000 in
theorem mayBe_any {w : World} {x y z : Int} {M : Nat → Dy} (h : Mrd w w.heap.size M) :
    Calls Try.prog 45 #[.agg (lcells x y z M)] w (Says w (MayL MayM ((x, y, z, pmd M) : Ld Pm))) := by
  obtain ⟨W, hW⟩ : ∃ W, W = w.alloc (.cells (lcells x y z M) 40) := ⟨_, rfl⟩
  have B0 := hid (show Below w.heap.size w W from hW ▸ (Below.refl _ w).alloc (Nat.le_refl _) _)
  have X0 := hid (show Lbx W w.heap.size x y z M from hW ▸ Lbx.new w x y z M)
  have x0 := X0.out.c0
  have x1 := X0.out.c1
  have x2 := X0.out.c2
  have xm := X0.out.mass
  have HC := hid (mcheck_any (w := W) (M := M) ((fun k hk => ((h k hk).below B0.out).mono B0.out.size)))
  have HW := hid hW
  obtain ⟨P, hP⟩ : ∃ P, P = MayL MayM ((x, y, z, pmd M) : Ld Pm) := ⟨_, rfl⟩
  have HP := hid (show P ↔ (0 ≤ x ∧ x ≤ 1048575) ∧ (0 ≤ y ∧ y ≤ 65535) ∧ (1 ≤ z ∧ z ≤ 16) ∧ MMay M by rw [hP, ← may_pmd]; exact Iff.rfl)
  rw [← hP]
  clear hW h hP
  by_cases h1 : 0 ≤ x ∧ x ≤ 1048575
  case neg =>
    have C1 := hid (within_no h1)
    have HN := hid (show ¬ P from fun hp => h1 (HP.out.1 hp).1)
    clear h1
    go_enter Try.func45, Try.ntmps45
    go_upto_region 1 with fail
    rw [← HW.out]
    go_wp2_with fail
    refine (C1.out _).mono ?_
    rintro e w1 ⟨rfl, rfl⟩
    go_wp2
    go_ret
    exact ⟨false, rfl, hid ⟨fun h => (by cases h), fun h => absurd h HN.out⟩, B0⟩
  have C1 := hid (within_yes h1)
  have H1 := hid h1
  clear h1
  by_cases h2 : 0 ≤ y ∧ y ≤ 65535
  case neg =>
    have C2 := hid (within_no h2)
    have HN := hid (show ¬ P from fun hp => h2 (HP.out.1 hp).2.1)
    clear h2
    go_enter Try.func45, Try.ntmps45
    go_upto_region 1 with fail
    rw [← HW.out]
    go_wp2_with fail
    refine (C1.out _).mono ?_
    rintro e w1 ⟨rfl, rfl⟩
    go_wp2_with fail
    refine (C2.out _).mono ?_
    rintro e w1 ⟨rfl, rfl⟩
    go_wp2
    go_ret
    exact ⟨false, rfl, hid ⟨fun h => (by cases h), fun h => absurd h HN.out⟩, B0⟩
  have C2 := hid (within_yes h2)
  have H2 := hid h2
  clear h2
  by_cases h3 : z ≥ 1
  case neg =>
    have HN := hid (show ¬ P from fun hp => h3 (HP.out.1 hp).2.2.1.1)
    go_enter Try.func45, Try.ntmps45
    go_upto_region 1 with fail
    rw [← HW.out]
    go_wp2_with fail
    refine (C1.out _).mono ?_
    rintro e w1 ⟨rfl, rfl⟩
    go_wp2_with fail
    refine (C2.out _).mono ?_
    rintro e w1 ⟨rfl, rfl⟩
    go_wp2
    go_ret
    exact ⟨false, rfl, hid ⟨fun h => (by cases h), fun h => absurd h HN.out⟩, B0⟩
  by_cases h4 : z ≤ 16
  case neg =>
    have HN := hid (show ¬ P from fun hp => h4 (HP.out.1 hp).2.2.1.2)
    go_enter Try.func45, Try.ntmps45
    go_upto_region 1 with fail
    rw [← HW.out]
    go_wp2_with fail
    refine (C1.out _).mono ?_
    rintro e w1 ⟨rfl, rfl⟩
    go_wp2_with fail
    refine (C2.out _).mono ?_
    rintro e w1 ⟨rfl, rfl⟩
    go_wp2
    go_ret
    exact ⟨false, rfl, hid ⟨fun h => (by cases h), fun h => absurd h HN.out⟩, B0⟩
  have HQ := hid (show P ↔ MMay M from HP.out.trans ⟨fun h => h.2.2.2, fun h => ⟨H1.out, H2.out, ⟨h3, h4⟩, h⟩⟩)
  clear HP
  go_enter Try.func45, Try.ntmps45
  go_upto_region 1 with fail
  rw [← HW.out]
  go_wp2_with fail
  refine (C1.out _).mono ?_
  rintro e w1 ⟨rfl, rfl⟩
  go_wp2_with fail
  refine (C2.out _).mono ?_
  rintro e w1 ⟨rfl, rfl⟩
  go_wp2_with (first | (refine wp_lmg rfl (.tmp 22) rfl w.heap.size 3 M rfl xm ?_) | fail)
  refine HC.out.mono ?_
  rintro e w2 ⟨er, rfl, H3, H4, H5⟩
  have BB := hid (gbelow_on B0.out (Nat.le_refl _) H5.out)
  rcases H4.out with rfl | rfl
  · have HY := hid (HQ.out.2 (H3.out.1 rfl))
    go_wp2
    go_ret
    exact ⟨true, rfl, hid ⟨fun _ => HY.out, fun _ => rfl⟩, BB⟩
  · have HY := hid (show ¬ P from fun h => absurd (H3.out.2 (HQ.out.1 h)) (by decide))
    go_wp2
    go_ret
    exact ⟨false, rfl, hid ⟨fun h => (by cases h), fun h => absurd h HY.out⟩, BB⟩

theorem boxed_at {w : World} {g : Nat} {t : TypeId} {v : Value} (h : w.heap[g]? = some (.cells #[v] t (0, 0))) : Boxed w g t v := h
/-- rising's closure: whether a number is above the one ahead, which it keeps. -/
theorem rising1_any {w : World} {g : Nat} {n m : Int} (h : Boxed w g 3 (.int .i64 m)) :
    Calls Try.prog 62 #[.int .i64 n, .pointer (some ⟨g, 0, none⟩)] w fun e w' => e = .returned (.bool (decide (m < n))) ∧ Hid (Boxed w' g 3 (.int .i64 n) ∧ Gq g w w') := by
  have hc := h.cell
  have H := hid h
  clear h
  by_cases h1 : n > m
  · rw [decide_eq_true (show m < n from h1)]
    go_enter Try.func62, Try.ntmps62
    go_wp2_with (first
      | (refine gput_cell (P := Try.prog) rfl _ (.tmp 1) (.tmp 8) rfl g 0 (.int .i64 n) 3 _ #[.int .i64 n] rfl rfl rfl (by kernel_rfl) H.out (show (0 : Nat) < 1 by decide) rfl ?_
         intro w3 x3 q3
         have X3 := hid (And.intro x3 q3)
         clear x3 q3)
      | fail)
    go_ret
    exact ⟨rfl, X3⟩
  · rw [decide_eq_false (show ¬ m < n from h1)]
    go_enter Try.func62, Try.ntmps62
    go_wp2_with (first
      | (refine gput_cell (P := Try.prog) rfl _ (.tmp 1) (.tmp 8) rfl g 0 (.int .i64 n) 3 _ #[.int .i64 n] rfl rfl rfl (by kernel_rfl) H.out (show (0 : Nat) < 1 by decide) rfl ?_
         intro w3 x3 q3
         have X3 := hid (And.intro x3 q3)
         clear x3 q3)
      | fail)
    go_ret
    exact ⟨rfl, X3⟩
end Go.Proofs.Ytejngjhdmneaiaa.Fli


namespace Go.Proofs.Ytejngjhdmneaiaa.Fli
open Go.RowKit Go.Shelf Go.Lib

theorem load_size_ (x y z : Int) (D : Nat → Dy) : (Try.prog.info? 40).map (·.size) = some (lcells x y z D).toList.length := by kernel_rfl
/-- A load is loaded out of a row. -/
theorem wp_lload {ops : Array Oper} {rest : List Oper} {o : Oper} {a : Act} {w : World} {Q : Exit → Act → World → Prop} (hgd : o.guard = none) (p : Operand) (ho : o.op = .load 40 p)
    (b off : Nat) (x y z : Int) (D : Nat → Dy) (hx : a.eval p = .pointer (some ⟨b, off, none⟩)) (hg : w.rangeAt b off (lcells x y z D).toList) (h : wpList Try.prog ops Q rest (a.put o.dst (.agg (lcells x y z D))) w) : wpList Try.prog ops Q (o :: rest) a w :=
  wpList_load_mid hgd _ p ho b off hx (lcells x y z D).toList _ hg Try.underlying40 rfl (load_size_ x y z D) h
theorem yields_lload {ops : Array Oper} {S : World → Prop} {o : Oper} {a : Act} (hw : Region.wanted o (yielded ops a.tmps) = true) (p : Operand) (ho : o.op = .load 40 p)
    (b off : Nat) (x y z : Int) (D : Nat → Dy) (hx : a.eval p = .pointer (some ⟨b, off, none⟩)) (hS : ∀ w, S w → w.rangeAt b off (lcells x y z D).toList) : YieldsIf Try.prog ops S o (.agg (lcells x y z D)) a :=
  yieldsIf_load_mid hw _ p ho b off hx _ _ (fun w hw => hS w hw) Try.underlying40 rfl (load_size_ x y z D)
theorem says_bool {P : Prop} {f : FuncId} {args : Array Value} {w : World} (h : Calls Try.prog f args w (Says w P)) (b : Bool) (hb : b = true ↔ P) : Calls Try.prog f args w fun e w' => e = .returned (.bool b) ∧ Hid (Below w.heap.size w w') := by
  refine h.mono ?_
  rintro e w' ⟨r, rfl, Hr, hw⟩
  have : r = b := by
    have h1 := Hr.out
    cases r <;> cases b <;> simp_all
  subst this
  exact ⟨rfl, hw⟩
/-- Two loads that read alike are the same. -/
theorem Lrd.same {w w' : World} {B C : Nat} {r s : Lr} {p q : Ld Pm} (h : Lrd w B r p) (k : Lrd w' C s q) : (r.1 = s.1 ∧ r.2.1 = s.2.1 ∧ r.2.2.1 = s.2.2.1 ∧ ∀ j, j < 4 → Dsm (r.2.2.2 j) (s.2.2.2 j)) ↔ p = q := by
  obtain ⟨p1, p2, p3, p4⟩ := p
  obtain ⟨q1, q2, q3, q4⟩ := q
  have h1 := h.nu
  have h2 := h.ep
  have h3 := h.cp
  have h4 := h.pl
  have k1 := k.nu
  have k2 := k.ep
  have k3 := k.cp
  have k4 := k.pl
  simp only at h1 h2 h3 h4 k1 k2 k3 k4
  rw [h1, h2, h3, k1, k2, k3, ← h4, ← k4]
  have hd : ∀ d e : Dy, Dsm d e ↔ pdy d = pdy e := fun d e => by
    unfold Dsm pdy
    simp only [Prod.mk.injEq]
    constructor
    · rintro ⟨a1, a2, a3, a4⟩
      exact ⟨a1, a3, funext a4, a2⟩
    · rintro ⟨a1, a2, a3, a4⟩
      exact ⟨a1, a4, a2, fun j => congrFun a3 j⟩
  constructor
  · rintro ⟨rfl, rfl, rfl, hD⟩
    have : pmd r.2.2.2 = pmd s.2.2.2 := by
      unfold pmd
      rw [(hd _ _).1 (hD 0 (by omega)), (hd _ _).1 (hD 1 (by omega)), (hd _ _).1 (hD 2 (by omega)), (hd _ _).1 (hD 3 (by omega))]
    rw [this]
  · intro e
    simp only [Prod.mk.injEq] at e
    obtain ⟨e1, e2, e3, e4⟩ := e
    refine ⟨e1, e2, e3, fun j hj => (hd _ _).2 ?_⟩
    unfold pmd at e4
    simp only [Prod.mk.injEq] at e4
    obtain ⟨a0, a1, a2, a3⟩ := e4
    have hc : j = 0 ∨ j = 1 ∨ j = 2 ∨ j = 3 := by omega
    rcases hc with rfl | rfl | rfl | rfl
    · exact a0
    · exact a1
    · exact a2
    · exact a3
theorem get_ne {l m : List (Ld Pm)} {k : Nat} {d e : Ld Pm} (h1 : l[k]? = some d) (h2 : m[k]? = some e) (h : d ≠ e) : ¬ l = m := by
  intro hl
  rw [hl, h2] at h1
  injection h1 with h1
  exact h h1.symm
end Go.Proofs.Ytejngjhdmneaiaa.Fli

