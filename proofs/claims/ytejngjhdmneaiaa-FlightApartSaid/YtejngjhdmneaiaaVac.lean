/- Dyads as whole numbers of parts of 2^-4000. -/
/- Contract: limb.Bits. -/
/- The contracts of package limb that whatever asks dyads uses, for numbers that may be. -/
/- slices.Backward over limbs. -/
/- Package ratio: a number that is divided: double, takeOff. -/
/- A loop over an iterator that writes one block of cells between two rounds: what the loop's caller owes, and what it is told. -/
import Derived.Test.YtejngjhdmneaiaaVab
import Derived.RangeFuncNested
import Derived.RangeFuncBound
import Derived.RangeFuncCalls
import Derived.RangeFuncLeaves
import Derived.RangeFuncBox
import Derived.Shelf.Abstract
import Derived.Shelf.RegionOpen
import Derived.WalkKit
import Derived.OwnWalkIn
import Derived.TacticsInMore
import Derived.LoopNIn
import Derived.LoopIn
import Derived.RegionTactic
import Derived.Deep.RegionHeld3

namespace Go.Proofs.Ytejngjhdmneaiaa

/-- Powers of two, kept shut. -/
def tp (k : Nat) : Nat := 2 ^ k
theorem tp_zero : tp 0 = 1 := rfl
theorem tp_one : tp 1 = 2 := rfl
theorem tp_pos (k : Nat) : 0 < tp k := by unfold tp; exact Nat.pow_pos (by omega)
theorem tp_add (j k : Nat) : tp (j + k) = tp j * tp k := by unfold tp; rw [Nat.pow_add]
theorem tp_succ (k : Nat) : tp (k + 1) = tp k * 2 := by unfold tp; rw [Nat.pow_succ]

/-- A number, below 0 if s. -/
def num (s : Bool) (n : Nat) : Int := if s then -(n : Int) else n
theorem num_zero (s : Bool) : num s 0 = 0 := by cases s <;> rfl
theorem num_neg (s : Bool) (n : Nat) : num (!s) n = - num s n := by cases s <;> simp [num]
theorem num_inj {s t : Bool} {n m : Nat} (h : num s n = num t m) : n = m ∧ (n ≠ 0 → s = t) := by
  cases s <;> cases t <;> simp [num] at h ⊢ <;> omega
theorem num_like (s : Bool) (n m : Nat) : num s (n + m) = num s n + num s m := by cases s <;> simp [num] <;> omega
theorem num_unlike {s t : Bool} (h : s ≠ t) {n m : Nat} (hm : m ≤ n) : num s (n - m) = num s n + num t m := by
  cases s <;> cases t <;> simp [num] at h ⊢ <;> omega
theorem num_mul (s : Bool) (n m : Nat) : num s (n * m) = num s n * (m : Int) := by cases s <;> simp [num, Int.neg_mul]

/-- The number of parts that a dyad is. -/
def dv (s : Bool) (V x : Nat) : Int := num s (V * tp (4000 - x))
/-- The one form. -/
def Canon (s : Bool) (V x : Nat) : Prop := (V = 0 → s = false ∧ x = 0) ∧ (0 < x → V % 2 = 1)

theorem canon_uniq {s t : Bool} {V U x y : Nat} (h1 : Canon s V x) (h2 : Canon t U y) (hx : x ≤ 4000) (hy : y ≤ 4000) (h : dv s V x = dv t U y) : s = t ∧ V = U ∧ x = y := by
  obtain ⟨hm, hs⟩ := num_inj h
  have key : ∀ {V U x y : Nat}, x < y → y ≤ 4000 → (0 < y → U % 2 = 1) → V * tp (4000 - x) = U * tp (4000 - y) → False := by
    intro V U x y hxy hy hu h
    obtain ⟨d, rfl⟩ : ∃ d, y = x + d + 1 := ⟨y - x - 1, by omega⟩
    rw [show 4000 - x = (4000 - (x + d + 1)) + (d + 1) by omega, tp_add, tp_succ, Nat.mul_comm (tp (4000 - (x + d + 1))), ← Nat.mul_assoc] at h
    have h3 := Nat.eq_of_mul_eq_mul_right (tp_pos _) h
    have h4 := hu (by omega)
    rw [← h3, ← Nat.mul_assoc] at h4
    omega
  have hxy : x = y := by
    rcases Nat.lt_trichotomy x y with h | h | h
    · exact (key h hy h2.2 hm).elim
    · exact h
    · exact (key h hx h1.2 hm.symm).elim
  subst hxy
  have hV := Nat.eq_of_mul_eq_mul_right (tp_pos _) hm
  subst hV
  refine ⟨?_, rfl, rfl⟩
  rcases Nat.eq_zero_or_pos V with h0 | h0
  · rw [(h1.1 h0).1, (h2.1 h0).1]
  · refine hs ?_
    have := Nat.mul_pos h0 (tp_pos (4000 - x))
    omega

/-- Some dyad that may be is M. -/
def Okay (M : Int) : Prop := ∃ s V x, Canon s V x ∧ V < pw 40 ∧ x ≤ 1024 ∧ dv s V x = M
/-- The error where M is to be told. -/
def Derr (M : Int) (er : Int) : Prop := (Okay M ∧ er = 0) ∨ (¬ Okay M ∧ er = 10)
theorem Derr.uniq {M a b : Int} (h : Derr M a) (k : Derr M b) : a = b := by
  rcases h with ⟨h, rfl⟩ | ⟨h, rfl⟩ <;> rcases k with ⟨k, rfl⟩ | ⟨k, rfl⟩
  · rfl
  · exact absurd h k
  · exact absurd k h
  · rfl
theorem not_okay {s : Bool} {V x : Nat} (hc : Canon s V x) (hx : x ≤ 4000) (h : pw 40 ≤ V ∨ 1024 < x) : ¬ Okay (dv s V x) := by
  rintro ⟨t, U, y, hu, hU, hy, he⟩
  obtain ⟨rfl, rfl, rfl⟩ := canon_uniq hu hc (by omega) hx he
  omega

theorem okay_zero : Okay 0 := ⟨false, 0, 0, ⟨fun _ => ⟨rfl, rfl⟩, fun h => absurd h (by omega)⟩, pw_pos 40, by omega, by simp [dv, num]⟩
theorem okay_neg {M : Int} (h : Okay M) : Okay (-M) := by
  obtain ⟨s, V, x, hc, hV, hx, rfl⟩ := h
  rcases Nat.eq_zero_or_pos V with h0 | h0
  · subst h0
    rw [show -(dv s 0 x) = 0 by simp [dv, num_zero]]
    exact okay_zero
  · exact ⟨!s, V, x, ⟨fun h => absurd h (by omega), hc.2⟩, hV, hx, num_neg s _⟩

end Go.Proofs.Ytejngjhdmneaiaa


namespace Go.Proofs.Ytejngjhdmneaiaa
open Go.RowKit

/-- Bits' answer: an error, and how many digits. -/
def BitsPost (w : World) (n : Nat) (f : Nat → Nat) (e : Ending) (w' : World) : Prop :=
  Below w.heap.size w w' ∧ ∃ s : Nat, e = .returned (.tuple #[.int .i64 (s : Int), .int .i64 (chk n f)]) ∧ (Fit n f → Size (vl f n) s) ∧ (¬ Fit n f → s = 0)

end Go.Proofs.Ytejngjhdmneaiaa


namespace Go.Proofs.Ytejngjhdmneaiaa
open Go.RowKit

/-- The slice v lies from block B on, or nowhere. -/
def New (B : Nat) (v : Value) : Prop := ∀ b off n c, v = .slice (some ⟨b, off, none⟩) n c → B ≤ b
theorem New.nil (B c n : Nat) : New B (.slice none n c) := fun b off n c h => by cases h
theorem New.mono {B B' : Nat} {v : Value} (h : New B v) (hB : B' ≤ B) : New B' v := fun b off n c hv => Nat.le_trans hB (h b off n c hv)
theorem Num.new {t : TypeId} {B V : Nat} {w : World} {v : Value} (h : Num t B w V v) : New B v := by
  obtain ⟨A, k, c, f, rfl, hm, _, _⟩ := h
  intro b off n c hv
  rcases hm.own with ⟨rfl, _, _⟩ | ⟨g, cs, rfl, hg, _⟩
  · cases hv
  · injection hv with h1
    injection h1 with h1
    injection h1 with h1
    omega
theorem Val.shape {w : World} {V : Nat} {v : Value} (h : Val w V v) : ∃ A n c, v = .slice A n c := by
  obtain ⟨A, n, c, _, rfl, _⟩ := h
  exact ⟨A, n, c, rfl⟩
/-- A store elsewhere. -/
theorem Val.set {w : World} {V g : Nat} {v : Value} (h : Val w V v) (hn : New (g + 1) v) (j : Nat) (u : Value) : Val (w.setCell ⟨g, j, none⟩ u) V v := by
  obtain ⟨A, n, c, f, rfl, hr, hf, hV⟩ := h
  refine ⟨A, n, c, f, rfl, ⟨hr.cap, hr.max, hr.lt, hr.out, fun hn0 => ?_⟩, hf, hV⟩
  obtain ⟨b, off, rfl, hB, hc⟩ := hr.at_ hn0
  have hb := hn b off n c rfl
  have hblk := Below.heap_setCell w ⟨g, j, none⟩ u b (by show b ≠ g; omega)
  refine ⟨b, off, rfl, by simpa [World.setCell] using hB, fun j hj => ?_⟩
  rw [← hc j hj]
  exact World.cell?_of_block hblk

theorem Num.shape {t : TypeId} {B V : Nat} {w : World} {v : Value} (h : Num t B w V v) : ∃ A n c, v = .slice A n c := by
  obtain ⟨A, n, c, _, rfl, _⟩ := h
  exact ⟨A, n, c, rfl⟩
theorem Num.set {t : TypeId} {B V g : Nat} {w : World} {v : Value} (h : Num t B w V v) (hg : g < B) (j : Nat) (u : Value) : Num t B (w.setCell ⟨g, j, none⟩ u) V v := by
  obtain ⟨A, n, c, f, rfl, hm, hf, hV⟩ := h
  refine ⟨A, n, c, f, rfl, ⟨hm.cap, hm.max, hm.lt, hm.out, ?_⟩, hf, hV⟩
  rcases hm.own with h0 | ⟨b, cs, rfl, hB, hh, hs, hc⟩
  · exact .inl h0
  · exact .inr ⟨b, cs, rfl, hB, (Below.heap_setCell w ⟨g, j, none⟩ u b (by show b ≠ g; omega)).trans hh, hs, hc⟩

/-- As Back, and the limbs lie in new memory. -/
def Backn (w : World) (E : Int → Prop) (V : Nat) (e : Ending) (w' : World) : Prop := ∃ v er, e = .returned (.tuple #[v, .int .i64 er]) ∧ Hid (E er) ∧ Hid (Num 75 w.heap.size w' (resV er V) v) ∧ Hid (Below w.heap.size w w')
theorem Ans.backn {w w' : World} {er : Int} {V : Nat} {e : Ending} {E : Int → Prop} (h : Ans 75 w er V e w') (hE : E er) : Backn w E V e w' := by
  obtain ⟨hb, v, rfl, hg, hn⟩ := h
  refine ⟨v, er, rfl, hE, ?_, hb⟩
  by_cases he : er = 0
  · rw [resV_ok he]; exact hg he
  · rw [resV_bad he, hn he]; exact Num.zero _ _ _

section
variable {V U : Nat} {w : World} {v1 v2 : Value}
theorem of_val (x : Nat) (hx : x ≤ 18446744073709551615) (w : World) : Calls Try.prog 73 #[.int .u64 (x : Int)] w fun e w' => ∃ v, e = .returned v ∧ Hid (Num 75 w.heap.size w' x v) ∧ Hid (Below w.heap.size w w') := by
  refine (of_any x hx w).mono ?_
  rintro e w' ⟨v, rfl, hn, hb⟩
  exact ⟨v, rfl, hn, hb⟩
end
theorem over_ok {V : Nat} (h : V < pw 40) : overErr V = 0 := if_pos h
theorem over_bad {V : Nat} (h : ¬ V < pw 40) : overErr V = 10 := if_neg h


end Go.Proofs.Ytejngjhdmneaiaa


namespace Go.Proofs.Ytejngjhdmneaiaa
set_option maxRecDepth 100000
open Go.RowKit Go.Shelf
attribute [local go_sem] Oper.semAt_some

def upto {α : Type} (f : Nat → α) (k : Nat) : List α := (List.range k).map f
theorem upto_succ {α : Type} (f : Nat → α) (k : Nat) : upto f (k + 1) = upto f k ++ [f k] := by simp [upto, List.range_succ]
theorem upto_length {α : Type} (f : Nat → α) (k : Nat) : (upto f k).length = k := by simp [upto]

/-- A place among m. -/
abbrev Idx (m : Nat) := { j : Nat // j < m }
/-- The place that comes at round k. -/
def bkw (m k : Nat) : Nat := m - 1 - k

end Go.Proofs.Ytejngjhdmneaiaa


namespace Go.Proofs.Ytejngjhdmneaiaa
open Go.RowKit

/-- Limbs, doubled. -/
def dbl (f : Nat → Nat) (j : Nat) : Nat := f j * 2 % 4294967296 + (if j = 0 then 0 else f (j - 1) / 2147483648)
theorem dbl_lt {f : Nat → Nat} (hf : ∀ j, f j < 4294967296) (j : Nat) : dbl f j < 4294967296 := by
  unfold dbl
  have h1 := hf j
  have h2 := hf (j - 1)
  split <;> omega
theorem vl_dbl {f : Nat → Nat} (hf : ∀ j, f j < 4294967296) : ∀ k, vl (dbl f) (k + 1) + f k / 2147483648 * pw (k + 1) = 2 * vl f (k + 1)
  | 0 => by
    have h := hf 0
    simp [vl, pw, dbl]
    omega
  | k + 1 => by
    have ih := vl_dbl hf k
    have h := hf (k + 1)
    rw [vl_succ, vl_succ f (k + 1), pw_succ (k + 1)]
    have e : dbl f (k + 1) = f (k + 1) * 2 % 4294967296 + f k / 2147483648 := by
      unfold dbl
      rw [if_neg (by omega), Nat.add_sub_cancel]
    rw [e, Nat.add_mul]
    have e2 : f (k + 1) * 2 % 4294967296 * pw (k + 1) + f (k + 1) / 2147483648 * (pw (k + 1) * 4294967296) = 2 * (f (k + 1) * pw (k + 1)) := by
      have e3 : f (k + 1) * 2 % 4294967296 + f (k + 1) / 2147483648 * 4294967296 = 2 * f (k + 1) := by omega
      rw [Nat.mul_comm (pw (k + 1)) 4294967296, ← Nat.mul_assoc (f (k + 1) / 2147483648), ← Nat.add_mul, e3, Nat.mul_assoc]
    generalize f (k + 1) * 2 % 4294967296 * pw (k + 1) = x1 at *
    generalize f (k + 1) / 2147483648 * (pw (k + 1) * 4294967296) = x2 at *
    generalize f k / 2147483648 * pw (k + 1) = x3 at *
    generalize f (k + 1) * pw (k + 1) = x4 at *
    omega
theorem or_low (x y : Nat) (hy : y ≤ 1) (hx : x % 2 = 0) (hx2 : x < 4294967296) : bits BinOp.or IntKind.u32 (x : Int) (y : Int) = ((x + y : Nat) : Int) := by
  rw [u32_or_nat x y hx2 (by omega), nat_join1 x y hx (by omega)]

theorem gset {w w' : World} {g : Nat} (h : w.grownBy w' (some g)) (j : Nat) (u : Value) : w.grownBy (w'.setCell ⟨g, j, none⟩ u).drew (some g) :=
  ⟨h.os, h.tape, h.output, by simpa [World.setCell, World.drew] using h.size, fun i hi hne => (Below.heap_setCell w' ⟨g, j, none⟩ u i (by rintro rfl; exact hne rfl)).trans (h.block i hi hne)⟩
theorem gset0 {w w' : World} {g : Nat} (h : w.grownBy w' (some g)) (j : Nat) (u : Value) : w.grownBy (w'.setCell ⟨g, j, none⟩ u) (some g) :=
  ⟨h.os, h.tape, h.output, by simpa [World.setCell] using h.size, fun i hi hne => (Below.heap_setCell w' ⟨g, j, none⟩ u i (by rintro rfl; exact hne rfl)).trans (h.block i hi hne)⟩
theorem grefl (w : World) (g : Nat) : w.grownBy w (some g) := ⟨rfl, rfl, rfl, Nat.le_refl _, fun _ _ _ => rfl⟩

end Go.Proofs.Ytejngjhdmneaiaa


namespace Go.Proofs.Ytejngjhdmneaiaa
set_option maxRecDepth 100000
open Go.RowKit

/-- The blocks of K lie as they lay. -/
structure Kb (K : Nat → Prop) (W W' : World) : Prop where
  size : W.heap.size ≤ W'.heap.size
  block : ∀ b, K b → W'.heap[b]? = W.heap[b]?
theorem Kb.trans {K : Nat → Prop} {A B C : World} (h : Kb K A B) (k : Kb K B C) : Kb K A C := ⟨Nat.le_trans h.size k.size, fun b hb => (k.block b hb).trans (h.block b hb)⟩
theorem Kb.refl (K : Nat → Prop) (W : World) : Kb K W W := ⟨Nat.le_refl _, fun _ _ => rfl⟩
theorem Kb.putObj {K : Nat → Prop} {W : World} {l : Nat} (o : Obj) (hl : ¬ K l) : Kb K W (W.putObj l o) := ⟨by simp, fun b hb => World.putObj_heap_other (by rintro rfl; exact hl hb)⟩
theorem Kb.setCell {K : Nat → Prop} {A W : World} (h : Kb K A W) {p : Addr} (hl : ¬ K p.block) (v : Value) : Kb K A (W.setCell p v) := ⟨by simpa [World.setCell] using h.size, fun b hb => (Below.heap_setCell W p v b (by rintro rfl; exact hl hb)).trans (h.block b hb)⟩
theorem Kb.drew {K : Nat → Prop} {A W : World} (h : Kb K A W) : Kb K A W.drew := ⟨h.size, h.block⟩
theorem cell_of_block' {W W' : World} {b : Nat} (h : W'.heap[b]? = W.heap[b]?) (j : Nat) : W'.cell? ⟨b, j, none⟩ = W.cell? ⟨b, j, none⟩ := World.cell?_of_block h

/-- How the body of a round may be left: it goes on, or returns. -/
def outOf {α : Type} (k : Nat) (K : Nat → Prop) (I Ix : List α → World → Prop) (xs : List α) (W : World) : Exit → Act → World → Prop
  | .normal, _, W' => KeepsFrom k W W' ∧ Kb K W W' ∧ I xs W'
  | .ret, _, W' => KeepsFrom k W W' ∧ Ix xs W'
  | _, _, _ => False

/-- What the iterator keeps to: what it is asked between two rounds may be told again when its own block g has been written. -/
def Comes {α : Type} (F : Fence) (n : Nat) (P : Program) (gf : Nat) (lb : Array Value) (encs : α → Array Value) (K : Nat → Prop) (g : Nat) (S : List α → World → Prop) (Sp : List α → Prop) (w : World) : Prop :=
  ∀ (l : Nat) (J Jx : List α → World → Prop) (W : World), Below w.heap.size w W → (∀ s X Y, J s X → X.grownBy Y (some g) → J s Y) →
    (∀ pre x X, J pre X → YieldAt F (n - 1) P l (encs x) X fun e Y => (e = .returned (.bool true) ∧ J (pre ++ [x]) Y ∧ Kb K X Y) ∨ (e = .returned (.bool false) ∧ Jx (pre ++ [x]) Y)) →
    J [] W → CallsIn F n P gf (#[.func (.yield l) #[] #[]] ++ lb) W fun e Y => (∃ v, e = .returned v) ∧ ((∃ xs, S xs Y ∧ J xs Y) ∨ ∃ pre, Sp pre ∧ Jx pre Y)

/-- The loop's two blocks lie as the loop wants them. -/
def Kept (k : Nat) (r : Loop) (W : World) : Prop := W.heap[k + 1]? = some (.loop r) ∧ W.heap[k]? = some (.deferred (some []))

theorem Kept.grown {k : Nat} {r : Loop} {X Y : World} (h : Kept k r X) {j : Nat} (hg : X.grownBy Y (some j)) (hj : j < k) : Kept k r Y :=
  ⟨(hg.block _ (Array.getElem?_eq_some_iff.1 h.1).1 (by intro e; injection e with e; omega)).trans h.1, (hg.block _ (Array.getElem?_eq_some_iff.1 h.2).1 (by intro e; injection e with e; omega)).trans h.2⟩
theorem Kept.keeps {k : Nat} {r : Loop} {X Y : World} (h : Kept k r X) (hk : KeepsFrom k X Y) : Kept k r Y := ⟨hk.same _ _ (by omega) h.1 rfl, hk.same _ _ (Nat.le_refl _) h.2 rfl⟩
theorem Kept.put {k : Nat} {r : Loop} {X : World} (h : Kept k r X) (r' : Loop) : Kept k r' (X.putObj (k + 1) (.loop r')) :=
  ⟨World.putObj_heap_same (Array.getElem?_eq_some_iff.1 h.1).1, (World.putObj_heap_other (by omega)).trans h.2⟩

set_option maxHeartbeats 1000000 in
theorem range_over {F : Fence} {n : Nat} {P : Program} {α : Type} {gop : Operand} {ps : Array Tmp} {assign body : Code} {Q : Exit → Act → World → Prop} {a : Act} {w : World}
    (hro : F.round = none) (h1 : 1 ≤ n) {gf : Nat} {lb : Array Value} (hv : a.eval gop = .func (.func gf) #[] lb) (hF : F.fn gf) (en : ∀ args w, (callFunc gf args).run P w = .ok (.enter gf args) w)
    {encs : α → Array Value} {K : Nat → Prop} {g : Nat} (hgn : K g) (hnw : ∀ b, K b → b < w.heap.size) {S : List α → World → Prop} {Sp : List α → Prop} (hseq : Comes F (n - 1) P gf lb encs K g S Sp w) (hps : ∀ x, (encs x).size = ps.size)
    (I Ix : List α → World → Prop) (hI : ∀ s X Y r, I s X → X.grownBy Y (some r) → (w.heap.size ≤ r ∨ r = g) → I s Y)
    (hIx : ∀ s X Y r, Ix s X → X.grownBy Y (some r) → w.heap.size ≤ r → Ix s Y) (hS : ∀ s X Y r, S s X → X.grownBy Y (some r) → w.heap.size ≤ r → S s Y) (h0 : I [] w) (a₁ : α → Act)
    (hassign : ∀ (l : Nat) (x : α) (W : World) (K : Act → World → Prop), K (a₁ x) W →
      assign.wpIn (F.inRound l) (n - 1 - 1) P (Exit.then K (fun _ _ _ => False)) { tmps := (ps.zip (encs x)).foldl (fun t (p, v) => t.setIfInBounds p v) a.tmps, defers := [] } W)
    (hbody : ∀ (l : Nat) (pre : List α) (x : α) (W : World), I pre W → body.wpIn (F.inRound l) (n - 1 - 1) P (outOf w.heap.size K I Ix (pre ++ [x]) W) (a₁ x) W)
    (hdone : ∀ (D : Nat) (xs : List α) (W : World), w.heap.size ≤ D → S xs W → I xs W → W.heap[D]? = some (.deferred (some [])) → Q .normal { a with defers := { target := .collected D, args := #[] } :: a.defers } W)
    (hstop : ∀ (D : Nat) (pre : List α) (W : World), w.heap.size ≤ D → Sp pre → Ix pre W → W.heap[D]? = some (.deferred (some [])) → Code.ret.wpIn F n P Q { a with defers := { target := .collected D, args := #[] } :: a.defers } W) :
    (Code.rangeFunc gop ps assign body).wpIn F n P Q a w := by
  refine wpIn_rangeFunc fun fn hfn => ?_
  rw [hro]
  let rec0 (st : LoopState) (pe : Option Code) : Loop := { state := st, pending := pe, fn, tmps := a.tmps, params := ps, assign, body, defers := w.heap.size }
  have hsz1 : (w.alloc (.deferred (some []))).heap.size = w.heap.size + 1 := by simp
  have hkept : Kept w.heap.size (rec0 .ready none) ((w.alloc (.deferred (some []))).alloc (.loop (rec0 .ready none))) := by
    refine ⟨?_, (Below.heap_alloc _ _ _ (by simp)).trans (World.alloc_heap_new w _)⟩
    have := World.alloc_heap_new (w.alloc (.deferred (some []))) (.loop (rec0 .ready none))
    rwa [hsz1] at this
  have hI1 : I [] ((w.alloc (.deferred (some []))).alloc (.loop (rec0 .ready none))) :=
    hI _ _ _ _ (hI _ _ _ _ h0 (World.grownBy_alloc w _ (some w.heap.size)) (.inl (Nat.le_refl _))) (World.grownBy_alloc _ _ (some w.heap.size)) (.inl (Nat.le_refl _))
  have hb1 : Below w.heap.size w ((w.alloc (.deferred (some []))).alloc (.loop (rec0 .ready none))) := ((Below.refl _ w).alloc (Nat.le_refl _) _).alloc (by simp) _
  generalize hW1 : (w.alloc (.deferred (some []))).alloc (.loop (rec0 .ready none)) = W1 at hkept hI1 hb1
  refine ⟨w.heap.size + 1, [{ target := .collected w.heap.size, args := #[] }], W1, { target := .fn (.func gf) lb, args := #[.func (.yield (w.heap.size + 1)) #[] #[]] }, W1, gf,
    #[.func (.yield (w.heap.size + 1)) #[] #[]] ++ lb, W1, ?_, ?_, ?_, ?_, fun _ => h1, ?_⟩
  · rw [← hW1]; exact run_enterLoop_outer _ _ _ _ _
  · simp only [resolve, hv]
    simp [go_sem]
  · intro f hf; simp [Target.leads] at hf; exact hf ▸ hF
  · simp [invoke, go_sem, en]
  have hround : ∀ (pre : List α) (x : α) (X : World), (I pre X ∧ Kept w.heap.size (rec0 .ready none) X) →
      YieldAt F (n - 1 - 1) P (w.heap.size + 1) (encs x) X fun e Y =>
        (e = .returned (.bool true) ∧ (I (pre ++ [x]) Y ∧ Kept w.heap.size (rec0 .ready none) Y) ∧ Kb K X Y) ∨
        (e = .returned (.bool false) ∧ (Ix (pre ++ [x]) Y ∧ Kept w.heap.size (rec0 .done (some .ret)) Y)) := by
    rintro pre x X ⟨hi, hk⟩
    refine ⟨fn, _, assign, body, run_yield (P := P) (args := encs x) hk.1 (hps x), roundIn_of_wpIn hfn (hassign _ x X _ ⟨_, run_beginRound hk.1 rfl, ?_⟩)⟩
    have hnK : ¬ K (w.heap.size + 1) := fun h => by have := hnw _ h; omega
    have hbz : Kb K X (X.putObj (w.heap.size + 1) (.loop { rec0 .ready none with state := .busy })) := Kb.putObj _ hnK
    have hkz := hk.put (rec0 .busy none)
    refine wpIn_mono (hbody _ pre x _ (hI _ _ _ _ hi (grownBy_putObj' X (w.heap.size + 1) _) (.inl (by omega)))) ?_
    rintro e a3 Z hp
    cases e with
    | normal =>
      obtain ⟨hkp, hbl, hi3⟩ := hp
      have hkZ := hkz.keeps hkp
      exact ⟨_, _, run_endRound (P := P) none hkZ.1, .inl ⟨rfl, ⟨hI _ _ _ _ hi3 (grownBy_putObj' Z (w.heap.size + 1) _) (.inl (by omega)), hkZ.put _⟩, (hbz.trans hbl).trans (Kb.putObj _ hnK)⟩⟩
    | ret =>
      obtain ⟨hkp, hi3⟩ := hp
      have hkZ := hkz.keeps hkp
      exact ⟨_, _, run_endRound (P := P) (some .ret) hkZ.1, .inr ⟨rfl, hIx _ _ _ _ hi3 (grownBy_putObj' Z (w.heap.size + 1) _) (by omega), hkZ.put _⟩⟩
    | exit _ => exact hp.elim
    | goto _ => exact hp.elim
    | panic _ => exact hp.elim
    | outgrown => exact hp.elim
  refine (hseq (w.heap.size + 1) (fun pre X => I pre X ∧ Kept w.heap.size (rec0 .ready none) X) (fun pre X => Ix pre X ∧ Kept w.heap.size (rec0 .done (some .ret)) X) W1 hb1
    (fun s X Y h hg => ⟨hI _ _ _ _ h.1 hg (.inr rfl), h.2.grown hg (hnw _ hgn)⟩) hround ⟨hI1, hkept⟩).mono ?_
  rintro e Y ⟨⟨v, rfl⟩, (⟨xs, hs, hi, hk⟩ | ⟨pre, hs, hi, hk⟩)⟩
  · exact ⟨none, _, run_endLoop (P := P) hk.1 (by simp [rec0]), hdone _ xs _ (Nat.le_refl _) (hS _ _ _ _ hs (grownBy_putObj' Y (w.heap.size + 1) _) (by omega)) (hI _ _ _ _ hi (grownBy_putObj' Y (w.heap.size + 1) _) (.inl (by omega))) (hk.put { rec0 .ready none with state := .exhausted }).2⟩
  · exact ⟨some .ret, _, run_endLoop (P := P) hk.1 (by simp [rec0]), hstop _ pre _ (Nat.le_refl _) hs (hIx _ _ _ _ hi (grownBy_putObj' Y (w.heap.size + 1) _) (by omega)) (hk.put { rec0 .done (some .ret) with state := .exhausted }).2⟩

end Go.Proofs.Ytejngjhdmneaiaa

