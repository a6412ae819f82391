/- Flight: the document's Place, SameOne. -/
/- Flight: a load in its box; the document's SameOne. -/
/- Loads out of rows; two loads that read alike are the same. -/
import Derived.Test.YtdcolnipdipkhaaVaf
import Derived.Test.YtdcolnipdipkhaaMref
import Derived.Deep.DeepBigQuietO
import Derived.Deep.RegionHeld3
import Derived.Deep.QuietTactic
import Derived.Laws.Cover3

namespace Go.Proofs.Ytdcolnipdipkhaa.Fli
set_option maxRecDepth 100000
open Go.RowKit Go.Shelf Go.Lib

/-- Where a Number stands. -/
def Plc (l : List (Ld Pm)) (x i : Int) : Prop := (i = -1 ∧ ∀ (j : Nat) (p : Ld Pm), l[j]? = some p → p.1 ≠ x) ∨ ∃ (j : Nat) (p : Ld Pm), i = (j : Int) ∧ l[j]? = some p ∧ p.1 = x
set_option maxHeartbeats 3200000 in
set_option maxRecDepth 100000 in
theorem place_any {w : World} {B n c : Nat} {x : Int} {A : Option Addr} {l : List (Ld Pm)} (h : Lls w B A n c l) (hB : B ≤ w.heap.size) :
    Calls Try.prog 32 #[.slice A n c, .int .i64 x] w fun e w' => ∃ i, e = .returned (.int .i64 i) ∧ Hid (Plc l x i) ∧ Hid (Below w.heap.size w w') := by
  have H := hid (h.mono hB)
  have hl := hid h.len
  have hcap := h.cap
  have hmax := h.max
  clear h hB
  go_enter Try.func32, Try.ntmps32
  go_wp2
  go_loopg [5] n (fun gg s5 wr => ∃ kk : Nat, kk ≤ n ∧ n - kk ≤ gg ∧ s5 = .int .i64 kk ∧ Hid (Below w.heap.size w wr) ∧ Hid (∀ (j : Nat) (p : Ld Pm), j < kk → l[j]? = some p → p.1 ≠ x))
  case atStart => exact ⟨0, Nat.zero_le _, by omega, rfl, hid (Below.refl _ _), hid (fun j p hj => absurd hj (Nat.not_lt_zero _))⟩
  case round =>
    obtain ⟨kk, hkk, hg, rfl, BW, HA⟩ := hrel
    by_cases hlt : kk < n
    · have hltz : (kk : Int) < (n : Int) := by omega
      obtain ⟨b, off, r, p, rfl, hb, hp, hr, hc⟩ := (H.out.below BW.out).get hlt
      obtain ⟨r1, r2, r3, rD⟩ := r
      have c0 : wr.cell? ⟨b, off + kk * 15, none⟩ = some (.int .i64 r1) := hc 0 _ rfl
      have HP := hid hp
      have hnu : r1 = p.1 := hr.nu
      have HN := hid hnu
      clear hp hc hr hnu
      by_cases hm : r1 = x
      · have HM := hid hm
        subst hm
        go_wp2_with fail
        go_ret
        exact ⟨_, rfl, hid (.inr ⟨kk, p, by go_num, HP.out, HN.out.symm⟩), BW⟩
      · have HM := hid hm
        go_wp2_with fail
        go_roundg (n - (kk + 1))
        case measure => omega
        case rel =>
          refine ⟨kk + 1, by omega, by omega, by go_num, BW, hid (fun j q hj hq => ?_)⟩
          by_cases hjk : j = kk
          · subst hjk
            rw [HP.out] at hq
            injection hq with hq
            subst hq
            rw [← HN.out]
            exact HM.out
          · exact HA.out j q (by omega) hq
    · have hltz : ¬ (kk : Int) < (n : Int) := by omega
      obtain rfl : kk = n := by omega
      go_wp2
      go_ret
      refine ⟨_, rfl, hid (.inl ⟨by go_num, fun j p hj => HA.out j p ?_ hj⟩), BW⟩
      rw [← hl.out]
      exact (List.getElem?_eq_some_iff.1 hj).1
end Go.Proofs.Ytdcolnipdipkhaa.Fli


namespace Go.Proofs.Ytdcolnipdipkhaa.Fli
set_option maxRecDepth 100000
open Go.RowKit Go.Shelf Go.Lib

/-- The cells of a load. -/
abbrev lcells (x y z : Int) (M : Nat → Dy) : Array Value := #[.int .i64 x, .int .i64 y, .int .i64 z, .bool (M 0).s, .slice (M 0).A (M 0).n (M 0).c, .int .i64 (M 0).x, .bool (M 1).s, .slice (M 1).A (M 1).n (M 1).c, .int .i64 (M 1).x, .bool (M 2).s, .slice (M 2).A (M 2).n (M 2).c, .int .i64 (M 2).x, .bool (M 3).s, .slice (M 3).A (M 3).n (M 3).c, .int .i64 (M 3).x]
theorem enc_lcells (x y z : Int) (M : Nat → Dy) : (encL (x, y, z, M)).toArray = lcells x y z M := rfl
/-- A load in its box. -/
def Lbx (w : World) (g : Nat) (x y z : Int) (M : Nat → Dy) : Prop := w.heap[g]? = some (.cells (lcells x y z M) 40 (0, 0))
section
variable {w w' : World} {g : Nat} {x y z : Int} {M : Nat → Dy}
theorem Lbx.lt (h : Lbx w g x y z M) : g < w.heap.size := lt_of_heap h
theorem Lbx.c0 (h : Lbx w g x y z M) : w.cell? ⟨g, 0, none⟩ = some (.int .i64 x) := by rw [cell_of_row w g _ _ _ (0, 0) h]; rfl
theorem Lbx.c1 (h : Lbx w g x y z M) : w.cell? ⟨g, 1, none⟩ = some (.int .i64 y) := by rw [cell_of_row w g _ _ _ (0, 0) h]; rfl
theorem Lbx.c2 (h : Lbx w g x y z M) : w.cell? ⟨g, 2, none⟩ = some (.int .i64 z) := by rw [cell_of_row w g _ _ _ (0, 0) h]; rfl
theorem Lbx.mass (h : Lbx w g x y z M) : w.rangeAt g 3 (mcells M).toList := fun j v hv => by
  rw [cell_of_row w g _ _ _ (0, 0) h]
  have hj : j < 12 := (List.getElem?_eq_some_iff.1 hv).1
  have e : (lcells x y z M)[3 + j]? = (mcells M)[j]? := by
    have hc : j = 0 ∨ j = 1 ∨ j = 2 ∨ j = 3 ∨ j = 4 ∨ j = 5 ∨ j = 6 ∨ j = 7 ∨ j = 8 ∨ j = 9 ∨ j = 10 ∨ j = 11 := by omega
    rcases hc with rfl | rfl | rfl | rfl | rfl | rfl | rfl | rfl | rfl | rfl | rfl | rfl <;> rfl
  rw [e]
  simpa using hv
theorem Lbx.frozen (h : Lbx w g x y z M) (k : Nat) : w.frozen? ⟨g, k, none⟩ = false := frozen_of_row w g k _ _ h
theorem Lbx.below {B : Nat} (h : Lbx w g x y z M) (hb : Below B w w') (hg : g < B) : Lbx w' g x y z M := (hb.block g hg).trans h
theorem Lbx.alloc (h : Lbx w g x y z M) (o : Obj) : Lbx (w.alloc o) g x y z M := (Below.heap_alloc w o g h.lt).trans h
theorem Lbx.new (w : World) (x y z : Int) (M : Nat → Dy) : Lbx (w.alloc (.cells (lcells x y z M) 40)) w.heap.size x y z M := heap_alloc_new w _
end
theorem mass_size_ (D : Nat → Dy) : (Try.prog.info? 27).map (·.size) = some (mcells D).toList.length := by kernel_rfl
/-- The mass of a load is loaded out of the load's box. -/
theorem wp_lm {ops : Array Oper} {rest : List Oper} {o : Oper} {a : Act} {w : World} {Q : Exit → Act → World → Prop} (hgd : o.guard = none) (x : Operand) (ho : o.op = .load 27 x)
    (b off : Nat) (D : Nat → Dy) (hx : a.eval x = .pointer (some ⟨b, off, none⟩)) (hg : w.rangeAt b off (mcells D).toList) (h : wpList Try.prog ops Q rest (a.put o.dst (.agg (mcells D))) w) : wpList Try.prog ops Q (o :: rest) a w :=
  wpList_load_mid hgd _ x ho b off hx (mcells D).toList _ hg Try.underlying27 rfl (mass_size_ D) h
theorem wp_lmg {ops : Array Oper} {rest : List Oper} {o : Oper} {a : Act} {w : World} {Q : Exit → Act → World → Prop} (hw : Region.wanted o (yielded ops a.tmps) = true) (x : Operand) (ho : o.op = .load 27 x)
    (b off : Nat) (D : Nat → Dy) (hx : a.eval x = .pointer (some ⟨b, off, none⟩)) (hg : w.rangeAt b off (mcells D).toList) (h : wpList Try.prog ops Q rest (a.put o.dst (.agg (mcells D))) w) : wpList Try.prog ops Q (o :: rest) a w :=
  wpList_step fun _ hK => by
    rw [if_pos hw]
    exact wp_load_mid _ x ho b off hx (mcells D).toList _ hg Try.underlying27 rfl (mass_size_ D) (hK _ _ h)

set_option maxHeartbeats 3200000 in
set_option maxRecDepth 100000 in
theorem sameOne_any {w : World} {x y z x' y' z' : Int} {D E : Nat → Dy} (h : Mrd w w.heap.size D) (k : Mrd w w.heap.size E) :
    Calls Try.prog 17 #[.agg (lcells x y z D), .agg (lcells x' y' z' E)] w (Says w (x = x' ∧ y = y' ∧ z = z' ∧ ∀ k, k < 4 → Dsm (D k) (E k))) := by
  obtain ⟨W, hW⟩ : ∃ W, W = (w.alloc (.cells (lcells x y z D) 40)).alloc (.cells (lcells x' y' z' E) 40) := ⟨_, rfl⟩
  have B0 := hid (show Below w.heap.size w W from hW ▸ below_two w _ _)
  have X0 := hid (show Lbx W w.heap.size x y z D from hW ▸ (heap_two w _ _).1)
  have Y0 := hid (show Lbx W (w.heap.size + 1) x' y' z' E from hW ▸ (heap_two w _ _).2)
  have x0 := X0.out.c0
  have x1 := X0.out.c1
  have x2 := X0.out.c2
  have xm := hid X0.out.mass
  have y0 := Y0.out.c0
  have y1 := Y0.out.c1
  have y2 := Y0.out.c2
  have ym := hid Y0.out.mass
  have CS := hid (emsame_raw (w := W) (D := D) (E := E) (P := ∀ k, k < 4 → Dsm (D k) (E k)) ((h.below B0.out).mono B0.out.size) ((k.below B0.out).mono B0.out.size) (hid Iff.rfl))
  have HW := hid hW
  clear hW h k
  by_cases e1 : x = x'
  case neg =>
    have e1b : (x == x') = false := beq_eq_false_iff_ne.2 e1
    clear CS
    go_enter Try.func17, Try.ntmps17
    go_upto_region 1 with fail
    rw [← HW.out]
    go_wp2
    go_ret
    exact ⟨false, rfl, ⟨(fun h => by cases h), fun h => h.elim⟩, B0.out⟩
  by_cases e2 : y = y'
  case neg =>
    have e2b : (y == y') = false := beq_eq_false_iff_ne.2 e2
    subst e1
    clear CS
    go_enter Try.func17, Try.ntmps17
    go_upto_region 1 with fail
    rw [← HW.out]
    go_wp2
    go_ret
    exact ⟨false, rfl, ⟨(fun h => by cases h), fun h => h.elim⟩, B0.out⟩
  by_cases e3 : z = z'
  case neg =>
    have e3b : (z == z') = false := beq_eq_false_iff_ne.2 e3
    subst e1 e2
    clear CS
    go_enter Try.func17, Try.ntmps17
    go_upto_region 1 with fail
    rw [← HW.out]
    go_wp2
    go_ret
    exact ⟨false, rfl, ⟨(fun h => by cases h), fun h => h.elim⟩, B0.out⟩
  subst e1 e2 e3
  go_enter Try.func17, Try.ntmps17
  go_upto_region 1 with fail
  rw [← HW.out]
  go_wp2_with (first
    | (with_reducible refine wp_lmg (by kernel_rfl) (.tmp 25) rfl w.heap.size 3 D rfl xm.out ?_)
    | (with_reducible refine wp_lmg (by kernel_rfl) (.tmp 27) rfl (w.heap.size + 1) 3 E rfl ym.out ?_)
    | fail)
  refine CS.out.mono ?_
  rintro e w0 ⟨r, rfl, Hr, hb⟩
  have B1 := hid (gbelow_on B0.out (Nat.le_refl _) hb.out)
  cases r with
  | false =>
    go_wp2
    go_ret
    exact ⟨false, rfl, ⟨(fun h => by cases h), fun hp => Hr.out.2 hp.2.2.2⟩, B1.out⟩
  | true =>
    go_wp2
    go_ret
    exact ⟨true, rfl, ⟨fun _ => by first | exact ⟨trivial, trivial, trivial, Hr.out.1 (by trivial)⟩, fun _ => rfl⟩, B1.out⟩
end Go.Proofs.Ytdcolnipdipkhaa.Fli


namespace Go.Proofs.Ytdcolnipdipkhaa.Fli
open Go.RowKit Go.Shelf Go.Lib

theorem load_size_ (x y z : Int) (D : Nat → Dy) : (Try.prog.info? 40).map (·.size) = some (lcells x y z D).toList.length := by kernel_rfl
/-- A load is loaded out of a row. -/
theorem wp_lload {ops : Array Oper} {rest : List Oper} {o : Oper} {a : Act} {w : World} {Q : Exit → Act → World → Prop} (hgd : o.guard = none) (p : Operand) (ho : o.op = .load 40 p)
    (b off : Nat) (x y z : Int) (D : Nat → Dy) (hx : a.eval p = .pointer (some ⟨b, off, none⟩)) (hg : w.rangeAt b off (lcells x y z D).toList) (h : wpList Try.prog ops Q rest (a.put o.dst (.agg (lcells x y z D))) w) : wpList Try.prog ops Q (o :: rest) a w :=
  wpList_load_mid hgd _ p ho b off hx (lcells x y z D).toList _ hg Try.underlying40 rfl (load_size_ x y z D) h
theorem yields_lload {ops : Array Oper} {S : World → Prop} {o : Oper} {a : Act} (hw : Region.wanted o (yielded ops a.tmps) = true) (p : Operand) (ho : o.op = .load 40 p)
    (b off : Nat) (x y z : Int) (D : Nat → Dy) (hx : a.eval p = .pointer (some ⟨b, off, none⟩)) (hS : ∀ w, S w → w.rangeAt b off (lcells x y z D).toList) : YieldsIf Try.prog ops S o (.agg (lcells x y z D)) a :=
  yieldsIf_load_mid hw _ p ho b off hx _ _ (fun w hw => hS w hw) Try.underlying40 rfl (load_size_ x y z D)
theorem says_bool {P : Prop} {f : FuncId} {args : Array Value} {w : World} (h : Calls Try.prog f args w (Says w P)) (b : Bool) (hb : b = true ↔ P) : Calls Try.prog f args w fun e w' => e = .returned (.bool b) ∧ Hid (Below w.heap.size w w') := by
  refine h.mono ?_
  rintro e w' ⟨r, rfl, Hr, hw⟩
  have : r = b := by
    have h1 := Hr.out
    cases r <;> cases b <;> simp_all
  subst this
  exact ⟨rfl, hw⟩
/-- Two loads that read alike are the same. -/
theorem Lrd.same {w w' : World} {B C : Nat} {r s : Lr} {p q : Ld Pm} (h : Lrd w B r p) (k : Lrd w' C s q) : (r.1 = s.1 ∧ r.2.1 = s.2.1 ∧ r.2.2.1 = s.2.2.1 ∧ ∀ j, j < 4 → Dsm (r.2.2.2 j) (s.2.2.2 j)) ↔ p = q := by
  obtain ⟨p1, p2, p3, p4⟩ := p
  obtain ⟨q1, q2, q3, q4⟩ := q
  have h1 := h.nu
  have h2 := h.ep
  have h3 := h.cp
  have h4 := h.pl
  have k1 := k.nu
  have k2 := k.ep
  have k3 := k.cp
  have k4 := k.pl
  simp only at h1 h2 h3 h4 k1 k2 k3 k4
  rw [h1, h2, h3, k1, k2, k3, ← h4, ← k4]
  have hd : ∀ d e : Dy, Dsm d e ↔ pdy d = pdy e := fun d e => by
    unfold Dsm pdy
    simp only [Prod.mk.injEq]
    constructor
    · rintro ⟨a1, a2, a3, a4⟩
      exact ⟨a1, a3, funext a4, a2⟩
    · rintro ⟨a1, a2, a3, a4⟩
      exact ⟨a1, a4, a2, fun j => congrFun a3 j⟩
  constructor
  · rintro ⟨rfl, rfl, rfl, hD⟩
    have : pmd r.2.2.2 = pmd s.2.2.2 := by
      unfold pmd
      rw [(hd _ _).1 (hD 0 (by omega)), (hd _ _).1 (hD 1 (by omega)), (hd _ _).1 (hD 2 (by omega)), (hd _ _).1 (hD 3 (by omega))]
    rw [this]
  · intro e
    simp only [Prod.mk.injEq] at e
    obtain ⟨e1, e2, e3, e4⟩ := e
    refine ⟨e1, e2, e3, fun j hj => (hd _ _).2 ?_⟩
    unfold pmd at e4
    simp only [Prod.mk.injEq] at e4
    obtain ⟨a0, a1, a2, a3⟩ := e4
    have hc : j = 0 ∨ j = 1 ∨ j = 2 ∨ j = 3 := by omega
    rcases hc with rfl | rfl | rfl | rfl
    · exact a0
    · exact a1
    · exact a2
    · exact a3
theorem get_ne {l m : List (Ld Pm)} {k : Nat} {d e : Ld Pm} (h1 : l[k]? = some d) (h2 : m[k]? = some e) (h : d ≠ e) : ¬ l = m := by
  intro hl
  rw [hl, h2] at h1
  injection h1 with h1
  exact h h1.symm
end Go.Proofs.Ytdcolnipdipkhaa.Fli

