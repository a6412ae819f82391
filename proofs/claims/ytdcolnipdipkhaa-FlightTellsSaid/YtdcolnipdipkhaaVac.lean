/- Package ratio: a number that is divided: double, takeOff. -/
/- A loop over an iterator that writes one block of cells between two rounds: what the loop's caller owes, and what it is told. -/
/- The law of XOver again, where the body of a round is told which front of what comes it stands at. -/
import Derived.Test.YtdcolnipdipkhaaVab
import Derived.RegionTactic
import Derived.Deep.RegionHeld3
import Derived.RangeFuncNested

namespace Go.Proofs.Ytdcolnipdipkhaa
open Go.RowKit

/-- Limbs, doubled. -/
def dbl (f : Nat → Nat) (j : Nat) : Nat := f j * 2 % 4294967296 + (if j = 0 then 0 else f (j - 1) / 2147483648)
theorem dbl_lt {f : Nat → Nat} (hf : ∀ j, f j < 4294967296) (j : Nat) : dbl f j < 4294967296 := by
  unfold dbl
  have h1 := hf j
  have h2 := hf (j - 1)
  split <;> omega
theorem vl_dbl {f : Nat → Nat} (hf : ∀ j, f j < 4294967296) : ∀ k, vl (dbl f) (k + 1) + f k / 2147483648 * pw (k + 1) = 2 * vl f (k + 1)
  | 0 => by
    have h := hf 0
    simp [vl, pw, dbl]
    omega
  | k + 1 => by
    have ih := vl_dbl hf k
    have h := hf (k + 1)
    rw [vl_succ, vl_succ f (k + 1), pw_succ (k + 1)]
    have e : dbl f (k + 1) = f (k + 1) * 2 % 4294967296 + f k / 2147483648 := by
      unfold dbl
      rw [if_neg (by omega), Nat.add_sub_cancel]
    rw [e, Nat.add_mul]
    have e2 : f (k + 1) * 2 % 4294967296 * pw (k + 1) + f (k + 1) / 2147483648 * (pw (k + 1) * 4294967296) = 2 * (f (k + 1) * pw (k + 1)) := by
      have e3 : f (k + 1) * 2 % 4294967296 + f (k + 1) / 2147483648 * 4294967296 = 2 * f (k + 1) := by omega
      rw [Nat.mul_comm (pw (k + 1)) 4294967296, ← Nat.mul_assoc (f (k + 1) / 2147483648), ← Nat.add_mul, e3, Nat.mul_assoc]
    generalize f (k + 1) * 2 % 4294967296 * pw (k + 1) = x1 at *
    generalize f (k + 1) / 2147483648 * (pw (k + 1) * 4294967296) = x2 at *
    generalize f k / 2147483648 * pw (k + 1) = x3 at *
    generalize f (k + 1) * pw (k + 1) = x4 at *
    omega
theorem or_low (x y : Nat) (hy : y ≤ 1) (hx : x % 2 = 0) (hx2 : x < 4294967296) : bits BinOp.or IntKind.u32 (x : Int) (y : Int) = ((x + y : Nat) : Int) := by
  rw [u32_or_nat x y hx2 (by omega), nat_join1 x y hx (by omega)]

theorem gset {w w' : World} {g : Nat} (h : w.grownBy w' (some g)) (j : Nat) (u : Value) : w.grownBy (w'.setCell ⟨g, j, none⟩ u).drew (some g) :=
  ⟨h.os, h.tape, h.output, by simpa [World.setCell, World.drew] using h.size, fun i hi hne => (Below.heap_setCell w' ⟨g, j, none⟩ u i (by rintro rfl; exact hne rfl)).trans (h.block i hi hne)⟩
theorem gset0 {w w' : World} {g : Nat} (h : w.grownBy w' (some g)) (j : Nat) (u : Value) : w.grownBy (w'.setCell ⟨g, j, none⟩ u) (some g) :=
  ⟨h.os, h.tape, h.output, by simpa [World.setCell] using h.size, fun i hi hne => (Below.heap_setCell w' ⟨g, j, none⟩ u i (by rintro rfl; exact hne rfl)).trans (h.block i hi hne)⟩
theorem grefl (w : World) (g : Nat) : w.grownBy w (some g) := ⟨rfl, rfl, rfl, Nat.le_refl _, fun _ _ _ => rfl⟩

end Go.Proofs.Ytdcolnipdipkhaa


namespace Go.Proofs.Ytdcolnipdipkhaa
set_option maxRecDepth 100000
open Go.RowKit

/-- The blocks of K lie as they lay. -/
structure Kb (K : Nat → Prop) (W W' : World) : Prop where
  size : W.heap.size ≤ W'.heap.size
  block : ∀ b, K b → W'.heap[b]? = W.heap[b]?
theorem Kb.trans {K : Nat → Prop} {A B C : World} (h : Kb K A B) (k : Kb K B C) : Kb K A C := ⟨Nat.le_trans h.size k.size, fun b hb => (k.block b hb).trans (h.block b hb)⟩
theorem Kb.refl (K : Nat → Prop) (W : World) : Kb K W W := ⟨Nat.le_refl _, fun _ _ => rfl⟩
theorem Kb.putObj {K : Nat → Prop} {W : World} {l : Nat} (o : Obj) (hl : ¬ K l) : Kb K W (W.putObj l o) := ⟨by simp, fun b hb => World.putObj_heap_other (by rintro rfl; exact hl hb)⟩
theorem Kb.setCell {K : Nat → Prop} {A W : World} (h : Kb K A W) {p : Addr} (hl : ¬ K p.block) (v : Value) : Kb K A (W.setCell p v) := ⟨by simpa [World.setCell] using h.size, fun b hb => (Below.heap_setCell W p v b (by rintro rfl; exact hl hb)).trans (h.block b hb)⟩
theorem Kb.drew {K : Nat → Prop} {A W : World} (h : Kb K A W) : Kb K A W.drew := ⟨h.size, h.block⟩
theorem cell_of_block' {W W' : World} {b : Nat} (h : W'.heap[b]? = W.heap[b]?) (j : Nat) : W'.cell? ⟨b, j, none⟩ = W.cell? ⟨b, j, none⟩ := World.cell?_of_block h

/-- How the body of a round may be left: it goes on, or returns. -/
def outOf {α : Type} (k : Nat) (K : Nat → Prop) (I Ix : List α → World → Prop) (xs : List α) (W : World) : Exit → Act → World → Prop
  | .normal, _, W' => KeepsFrom k W W' ∧ Kb K W W' ∧ I xs W'
  | .ret, _, W' => KeepsFrom k W W' ∧ Ix xs W'
  | _, _, _ => False

/-- What the iterator keeps to: what it is asked between two rounds may be told again when its own block g has been written. -/
def Comes {α : Type} (F : Fence) (n : Nat) (P : Program) (gf : Nat) (lb : Array Value) (encs : α → Array Value) (K : Nat → Prop) (g : Nat) (S : List α → World → Prop) (Sp : List α → Prop) (w : World) : Prop :=
  ∀ (l : Nat) (J Jx : List α → World → Prop) (W : World), Below w.heap.size w W → (∀ s X Y, J s X → X.grownBy Y (some g) → J s Y) →
    (∀ pre x X, J pre X → YieldAt F (n - 1) P l (encs x) X fun e Y => (e = .returned (.bool true) ∧ J (pre ++ [x]) Y ∧ Kb K X Y) ∨ (e = .returned (.bool false) ∧ Jx (pre ++ [x]) Y)) →
    J [] W → CallsIn F n P gf (#[.func (.yield l) #[] #[]] ++ lb) W fun e Y => (∃ v, e = .returned v) ∧ ((∃ xs, S xs Y ∧ J xs Y) ∨ ∃ pre, Sp pre ∧ Jx pre Y)

/-- The loop's two blocks lie as the loop wants them. -/
def Kept (k : Nat) (r : Loop) (W : World) : Prop := W.heap[k + 1]? = some (.loop r) ∧ W.heap[k]? = some (.deferred (some []))

theorem Kept.grown {k : Nat} {r : Loop} {X Y : World} (h : Kept k r X) {j : Nat} (hg : X.grownBy Y (some j)) (hj : j < k) : Kept k r Y :=
  ⟨(hg.block _ (Array.getElem?_eq_some_iff.1 h.1).1 (by intro e; injection e with e; omega)).trans h.1, (hg.block _ (Array.getElem?_eq_some_iff.1 h.2).1 (by intro e; injection e with e; omega)).trans h.2⟩
theorem Kept.keeps {k : Nat} {r : Loop} {X Y : World} (h : Kept k r X) (hk : KeepsFrom k X Y) : Kept k r Y := ⟨hk.same _ _ (by omega) h.1 rfl, hk.same _ _ (Nat.le_refl _) h.2 rfl⟩
theorem Kept.put {k : Nat} {r : Loop} {X : World} (h : Kept k r X) (r' : Loop) : Kept k r' (X.putObj (k + 1) (.loop r')) :=
  ⟨World.putObj_heap_same (Array.getElem?_eq_some_iff.1 h.1).1, (World.putObj_heap_other (by omega)).trans h.2⟩

set_option maxHeartbeats 1000000 in
theorem range_over {F : Fence} {n : Nat} {P : Program} {α : Type} {gop : Operand} {ps : Array Tmp} {assign body : Code} {Q : Exit → Act → World → Prop} {a : Act} {w : World}
    (hro : F.round = none) (h1 : 1 ≤ n) {gf : Nat} {lb : Array Value} (hv : a.eval gop = .func (.func gf) #[] lb) (hF : F.fn gf) (en : ∀ args w, (callFunc gf args).run P w = .ok (.enter gf args) w)
    {encs : α → Array Value} {K : Nat → Prop} {g : Nat} (hgn : K g) (hnw : ∀ b, K b → b < w.heap.size) {S : List α → World → Prop} {Sp : List α → Prop} (hseq : Comes F (n - 1) P gf lb encs K g S Sp w) (hps : ∀ x, (encs x).size = ps.size)
    (I Ix : List α → World → Prop) (hI : ∀ s X Y r, I s X → X.grownBy Y (some r) → (w.heap.size ≤ r ∨ r = g) → I s Y)
    (hIx : ∀ s X Y r, Ix s X → X.grownBy Y (some r) → w.heap.size ≤ r → Ix s Y) (hS : ∀ s X Y r, S s X → X.grownBy Y (some r) → w.heap.size ≤ r → S s Y) (h0 : I [] w) (a₁ : α → Act)
    (hassign : ∀ (l : Nat) (x : α) (W : World) (K : Act → World → Prop), K (a₁ x) W →
      assign.wpIn (F.inRound l) (n - 1 - 1) P (Exit.then K (fun _ _ _ => False)) { tmps := (ps.zip (encs x)).foldl (fun t (p, v) => t.setIfInBounds p v) a.tmps, defers := [] } W)
    (hbody : ∀ (l : Nat) (pre : List α) (x : α) (W : World), I pre W → body.wpIn (F.inRound l) (n - 1 - 1) P (outOf w.heap.size K I Ix (pre ++ [x]) W) (a₁ x) W)
    (hdone : ∀ (D : Nat) (xs : List α) (W : World), w.heap.size ≤ D → S xs W → I xs W → W.heap[D]? = some (.deferred (some [])) → Q .normal { a with defers := { target := .collected D, args := #[] } :: a.defers } W)
    (hstop : ∀ (D : Nat) (pre : List α) (W : World), w.heap.size ≤ D → Sp pre → Ix pre W → W.heap[D]? = some (.deferred (some [])) → Code.ret.wpIn F n P Q { a with defers := { target := .collected D, args := #[] } :: a.defers } W) :
    (Code.rangeFunc gop ps assign body).wpIn F n P Q a w := by
  refine wpIn_rangeFunc fun fn hfn => ?_
  rw [hro]
  let rec0 (st : LoopState) (pe : Option Code) : Loop := { state := st, pending := pe, fn, tmps := a.tmps, params := ps, assign, body, defers := w.heap.size }
  have hsz1 : (w.alloc (.deferred (some []))).heap.size = w.heap.size + 1 := by simp
  have hkept : Kept w.heap.size (rec0 .ready none) ((w.alloc (.deferred (some []))).alloc (.loop (rec0 .ready none))) := by
    refine ⟨?_, (Below.heap_alloc _ _ _ (by simp)).trans (World.alloc_heap_new w _)⟩
    have := World.alloc_heap_new (w.alloc (.deferred (some []))) (.loop (rec0 .ready none))
    rwa [hsz1] at this
  have hI1 : I [] ((w.alloc (.deferred (some []))).alloc (.loop (rec0 .ready none))) :=
    hI _ _ _ _ (hI _ _ _ _ h0 (World.grownBy_alloc w _ (some w.heap.size)) (.inl (Nat.le_refl _))) (World.grownBy_alloc _ _ (some w.heap.size)) (.inl (Nat.le_refl _))
  have hb1 : Below w.heap.size w ((w.alloc (.deferred (some []))).alloc (.loop (rec0 .ready none))) := ((Below.refl _ w).alloc (Nat.le_refl _) _).alloc (by simp) _
  generalize hW1 : (w.alloc (.deferred (some []))).alloc (.loop (rec0 .ready none)) = W1 at hkept hI1 hb1
  refine ⟨w.heap.size + 1, [{ target := .collected w.heap.size, args := #[] }], W1, { target := .fn (.func gf) lb, args := #[.func (.yield (w.heap.size + 1)) #[] #[]] }, W1, gf,
    #[.func (.yield (w.heap.size + 1)) #[] #[]] ++ lb, W1, ?_, ?_, ?_, ?_, fun _ => h1, ?_⟩
  · rw [← hW1]; exact run_enterLoop_outer _ _ _ _ _
  · simp only [resolve, hv]
    simp [go_sem]
  · intro f hf; simp [Target.leads] at hf; exact hf ▸ hF
  · simp [invoke, go_sem, en]
  have hround : ∀ (pre : List α) (x : α) (X : World), (I pre X ∧ Kept w.heap.size (rec0 .ready none) X) →
      YieldAt F (n - 1 - 1) P (w.heap.size + 1) (encs x) X fun e Y =>
        (e = .returned (.bool true) ∧ (I (pre ++ [x]) Y ∧ Kept w.heap.size (rec0 .ready none) Y) ∧ Kb K X Y) ∨
        (e = .returned (.bool false) ∧ (Ix (pre ++ [x]) Y ∧ Kept w.heap.size (rec0 .done (some .ret)) Y)) := by
    rintro pre x X ⟨hi, hk⟩
    refine ⟨fn, _, assign, body, run_yield (P := P) (args := encs x) hk.1 (hps x), roundIn_of_wpIn hfn (hassign _ x X _ ⟨_, run_beginRound hk.1 rfl, ?_⟩)⟩
    have hnK : ¬ K (w.heap.size + 1) := fun h => by have := hnw _ h; omega
    have hbz : Kb K X (X.putObj (w.heap.size + 1) (.loop { rec0 .ready none with state := .busy })) := Kb.putObj _ hnK
    have hkz := hk.put (rec0 .busy none)
    refine wpIn_mono (hbody _ pre x _ (hI _ _ _ _ hi (grownBy_putObj' X (w.heap.size + 1) _) (.inl (by omega)))) ?_
    rintro e a3 Z hp
    cases e with
    | normal =>
      obtain ⟨hkp, hbl, hi3⟩ := hp
      have hkZ := hkz.keeps hkp
      exact ⟨_, _, run_endRound (P := P) none hkZ.1, .inl ⟨rfl, ⟨hI _ _ _ _ hi3 (grownBy_putObj' Z (w.heap.size + 1) _) (.inl (by omega)), hkZ.put _⟩, (hbz.trans hbl).trans (Kb.putObj _ hnK)⟩⟩
    | ret =>
      obtain ⟨hkp, hi3⟩ := hp
      have hkZ := hkz.keeps hkp
      exact ⟨_, _, run_endRound (P := P) (some .ret) hkZ.1, .inr ⟨rfl, hIx _ _ _ _ hi3 (grownBy_putObj' Z (w.heap.size + 1) _) (by omega), hkZ.put _⟩⟩
    | exit _ => exact hp.elim
    | goto _ => exact hp.elim
    | panic _ => exact hp.elim
    | outgrown => exact hp.elim
  refine (hseq (w.heap.size + 1) (fun pre X => I pre X ∧ Kept w.heap.size (rec0 .ready none) X) (fun pre X => Ix pre X ∧ Kept w.heap.size (rec0 .done (some .ret)) X) W1 hb1
    (fun s X Y h hg => ⟨hI _ _ _ _ h.1 hg (.inr rfl), h.2.grown hg (hnw _ hgn)⟩) hround ⟨hI1, hkept⟩).mono ?_
  rintro e Y ⟨⟨v, rfl⟩, (⟨xs, hs, hi, hk⟩ | ⟨pre, hs, hi, hk⟩)⟩
  · exact ⟨none, _, run_endLoop (P := P) hk.1 (by simp [rec0]), hdone _ xs _ (Nat.le_refl _) (hS _ _ _ _ hs (grownBy_putObj' Y (w.heap.size + 1) _) (by omega)) (hI _ _ _ _ hi (grownBy_putObj' Y (w.heap.size + 1) _) (.inl (by omega))) (hk.put { rec0 .ready none with state := .exhausted }).2⟩
  · exact ⟨some .ret, _, run_endLoop (P := P) hk.1 (by simp [rec0]), hstop _ pre _ (Nat.le_refl _) hs (hIx _ _ _ _ hi (grownBy_putObj' Y (w.heap.size + 1) _) (by omega)) (hk.put { rec0 .done (some .ret) with state := .exhausted }).2⟩

end Go.Proofs.Ytdcolnipdipkhaa


namespace Go.Proofs.Ytdcolnipdipkhaa
set_option maxRecDepth 100000
open Go.RowKit

/-- What the iterator keeps to, where each front of what comes is as Gd says: what it is asked between two rounds may be told again when its own block g has been written. -/
def ComesG {α : Type} (F : Fence) (n : Nat) (P : Program) (gf : Nat) (lb : Array Value) (encs : α → Array Value) (K : Nat → Prop) (g : Nat) (Gd : List α → Prop) (S : List α → World → Prop) (Sp : List α → Prop) (w : World) : Prop :=
  ∀ (l : Nat) (J Jx : List α → World → Prop) (W : World), Below w.heap.size w W → (∀ s X Y, J s X → X.grownBy Y (some g) → J s Y) →
    (∀ pre x X, Gd (pre ++ [x]) → J pre X → YieldAt F (n - 1) P l (encs x) X fun e Y => (e = .returned (.bool true) ∧ J (pre ++ [x]) Y ∧ Kb K X Y) ∨ (e = .returned (.bool false) ∧ Jx (pre ++ [x]) Y)) →
    J [] W → CallsIn F n P gf (#[.func (.yield l) #[] #[]] ++ lb) W fun e Y => (∃ v, e = .returned v) ∧ ((∃ xs, S xs Y ∧ J xs Y) ∨ ∃ pre, Sp pre ∧ Jx pre Y)

set_option maxHeartbeats 1000000 in
theorem range_overG {F : Fence} {n : Nat} {P : Program} {α : Type} {gop : Operand} {ps : Array Tmp} {assign body : Code} {Q : Exit → Act → World → Prop} {a : Act} {w : World}
    (hro : F.round = none) (h1 : 1 ≤ n) {gf : Nat} {lb : Array Value} (hv : a.eval gop = .func (.func gf) #[] lb) (hF : F.fn gf) (en : ∀ args w, (callFunc gf args).run P w = .ok (.enter gf args) w)
    {encs : α → Array Value} {K : Nat → Prop} {g : Nat} (hgn : K g) (hnw : ∀ b, K b → b < w.heap.size) {Gd : List α → Prop} {S : List α → World → Prop} {Sp : List α → Prop} (hseq : ComesG F (n - 1) P gf lb encs K g Gd S Sp w) (hps : ∀ x, (encs x).size = ps.size)
    (I Ix : List α → World → Prop) (hI : ∀ s X Y r, I s X → X.grownBy Y (some r) → (r = w.heap.size ∨ r = w.heap.size + 1 ∨ r = g) → I s Y)
    (hIx : ∀ s X Y r, Ix s X → X.grownBy Y (some r) → r = w.heap.size ∨ r = w.heap.size + 1 → Ix s Y) (hS : ∀ s X Y r, S s X → X.grownBy Y (some r) → r = w.heap.size ∨ r = w.heap.size + 1 → S s Y) (h0 : I [] w) (a₁ : α → Act)
    (hassign : ∀ (l : Nat) (x : α) (W : World) (K : Act → World → Prop), K (a₁ x) W →
      assign.wpIn (F.inRound l) (n - 1 - 1) P (Exit.then K (fun _ _ _ => False)) { tmps := (ps.zip (encs x)).foldl (fun t (p, v) => t.setIfInBounds p v) a.tmps, defers := [] } W)
    (hbody : ∀ (l : Nat) (pre : List α) (x : α) (W : World), Gd (pre ++ [x]) → w.heap.size + 2 ≤ W.heap.size → I pre W → body.wpIn (F.inRound l) (n - 1 - 1) P (outOf w.heap.size K I Ix (pre ++ [x]) W) (a₁ x) W)
    (hdone : ∀ (D : Nat) (xs : List α) (W : World), D = w.heap.size → S xs W → I xs W → W.heap[D]? = some (.deferred (some [])) → Q .normal { a with defers := { target := .collected D, args := #[] } :: a.defers } W)
    (hstop : ∀ (D : Nat) (pre : List α) (W : World), D = w.heap.size → Sp pre → Ix pre W → W.heap[D]? = some (.deferred (some [])) → Code.ret.wpIn F n P Q { a with defers := { target := .collected D, args := #[] } :: a.defers } W) :
    (Code.rangeFunc gop ps assign body).wpIn F n P Q a w := by
  refine wpIn_rangeFunc fun fn hfn => ?_
  rw [hro]
  let rec0 (st : LoopState) (pe : Option Code) : Loop := { state := st, pending := pe, fn, tmps := a.tmps, params := ps, assign, body, defers := w.heap.size }
  have hsz1 : (w.alloc (.deferred (some []))).heap.size = w.heap.size + 1 := by simp
  have hkept : Kept w.heap.size (rec0 .ready none) ((w.alloc (.deferred (some []))).alloc (.loop (rec0 .ready none))) := by
    refine ⟨?_, (Below.heap_alloc _ _ _ (by simp)).trans (World.alloc_heap_new w _)⟩
    have := World.alloc_heap_new (w.alloc (.deferred (some []))) (.loop (rec0 .ready none))
    rwa [hsz1] at this
  have hI1 : I [] ((w.alloc (.deferred (some []))).alloc (.loop (rec0 .ready none))) :=
    hI _ _ _ _ (hI _ _ _ _ h0 (World.grownBy_alloc w _ (some w.heap.size)) (.inl rfl)) (World.grownBy_alloc _ _ (some w.heap.size)) (.inl rfl)
  have hb1 : Below w.heap.size w ((w.alloc (.deferred (some []))).alloc (.loop (rec0 .ready none))) := ((Below.refl _ w).alloc (Nat.le_refl _) _).alloc (by simp) _
  generalize hW1 : (w.alloc (.deferred (some []))).alloc (.loop (rec0 .ready none)) = W1 at hkept hI1 hb1
  refine ⟨w.heap.size + 1, [{ target := .collected w.heap.size, args := #[] }], W1, { target := .fn (.func gf) lb, args := #[.func (.yield (w.heap.size + 1)) #[] #[]] }, W1, gf,
    #[.func (.yield (w.heap.size + 1)) #[] #[]] ++ lb, W1, ?_, ?_, ?_, ?_, fun _ => h1, ?_⟩
  · rw [← hW1]; exact run_enterLoop_outer _ _ _ _ _
  · simp only [resolve, hv]
    simp [go_sem]
  · intro f hf; simp [Target.leads] at hf; exact hf ▸ hF
  · simp [invoke, go_sem, en]
  have hround : ∀ (pre : List α) (x : α) (X : World), Gd (pre ++ [x]) → (I pre X ∧ Kept w.heap.size (rec0 .ready none) X) →
      YieldAt F (n - 1 - 1) P (w.heap.size + 1) (encs x) X fun e Y =>
        (e = .returned (.bool true) ∧ (I (pre ++ [x]) Y ∧ Kept w.heap.size (rec0 .ready none) Y) ∧ Kb K X Y) ∨
        (e = .returned (.bool false) ∧ (Ix (pre ++ [x]) Y ∧ Kept w.heap.size (rec0 .done (some .ret)) Y)) := by
    rintro pre x X hgd ⟨hi, hk⟩
    refine ⟨fn, _, assign, body, run_yield (P := P) (args := encs x) hk.1 (hps x), roundIn_of_wpIn hfn (hassign _ x X _ ⟨_, run_beginRound hk.1 rfl, ?_⟩)⟩
    have hnK : ¬ K (w.heap.size + 1) := fun h => by have := hnw _ h; omega
    have hbz : Kb K X (X.putObj (w.heap.size + 1) (.loop { rec0 .ready none with state := .busy })) := Kb.putObj _ hnK
    have hkz := hk.put (rec0 .busy none)
    refine wpIn_mono (hbody _ pre x _ hgd (by have := lt_of_heap hk.1; simp; omega) (hI _ _ _ _ hi (grownBy_putObj' X (w.heap.size + 1) _) (.inr (.inl rfl)))) ?_
    rintro e a3 Z hp
    cases e with
    | normal =>
      obtain ⟨hkp, hbl, hi3⟩ := hp
      have hkZ := hkz.keeps hkp
      exact ⟨_, _, run_endRound (P := P) none hkZ.1, .inl ⟨rfl, ⟨hI _ _ _ _ hi3 (grownBy_putObj' Z (w.heap.size + 1) _) (.inr (.inl rfl)), hkZ.put _⟩, (hbz.trans hbl).trans (Kb.putObj _ hnK)⟩⟩
    | ret =>
      obtain ⟨hkp, hi3⟩ := hp
      have hkZ := hkz.keeps hkp
      exact ⟨_, _, run_endRound (P := P) (some .ret) hkZ.1, .inr ⟨rfl, hIx _ _ _ _ hi3 (grownBy_putObj' Z (w.heap.size + 1) _) (.inr rfl), hkZ.put _⟩⟩
    | exit _ => exact hp.elim
    | goto _ => exact hp.elim
    | panic _ => exact hp.elim
    | outgrown => exact hp.elim
  refine (hseq (w.heap.size + 1) (fun pre X => I pre X ∧ Kept w.heap.size (rec0 .ready none) X) (fun pre X => Ix pre X ∧ Kept w.heap.size (rec0 .done (some .ret)) X) W1 hb1
    (fun s X Y h hg => ⟨hI _ _ _ _ h.1 hg (.inr (.inr rfl)), h.2.grown hg (hnw _ hgn)⟩) hround ⟨hI1, hkept⟩).mono ?_
  rintro e Y ⟨⟨v, rfl⟩, (⟨xs, hs, hi, hk⟩ | ⟨pre, hs, hi, hk⟩)⟩
  · exact ⟨none, _, run_endLoop (P := P) hk.1 (by simp [rec0]), hdone _ xs _ rfl (hS _ _ _ _ hs (grownBy_putObj' Y (w.heap.size + 1) _) (.inr rfl)) (hI _ _ _ _ hi (grownBy_putObj' Y (w.heap.size + 1) _) (.inr (.inl rfl))) (hk.put { rec0 .ready none with state := .exhausted }).2⟩
  · exact ⟨some .ret, _, run_endLoop (P := P) hk.1 (by simp [rec0]), hstop _ pre _ rfl hs (hIx _ _ _ _ hi (grownBy_putObj' Y (w.heap.size + 1) _) (.inr rfl)) (hk.put { rec0 .done (some .ret) with state := .exhausted }).2⟩

end Go.Proofs.Ytdcolnipdipkhaa

