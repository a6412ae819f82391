/- A loop over a method value, or over whatever function, whose rounds may leave a block further out; what a loop's mark asks where the function returns. No program is named here. -/
import Derived.RangeFuncNested
import Derived.RangeFuncLeaves
import Derived.RangeFuncRecord
namespace Go.Proofs.YtbpijlghdpflgaaDoor
open Go.RowKit

/-- The blocks of K lie as they lay. -/
structure Kb (K : Nat → Prop) (W W' : World) : Prop where
  size : W.heap.size ≤ W'.heap.size
  block : ∀ b, K b → W'.heap[b]? = W.heap[b]?
theorem Kb.trans {K : Nat → Prop} {A B C : World} (h : Kb K A B) (k : Kb K B C) : Kb K A C := ⟨Nat.le_trans h.size k.size, fun b hb => (k.block b hb).trans (h.block b hb)⟩
theorem Kb.refl (K : Nat → Prop) (W : World) : Kb K W W := ⟨Nat.le_refl _, fun _ _ => rfl⟩
theorem Kb.putObj {K : Nat → Prop} {W : World} {l : Nat} (o : Obj) (hl : ¬ K l) : Kb K W (W.putObj l o) := ⟨by simp, fun b hb => World.putObj_heap_other (by rintro rfl; exact hl hb)⟩
theorem Kb.of_below {N : Nat} {W W' : World} (h : Below N W W') : Kb (fun b => b < N) W W' := ⟨h.size, fun b hb => h.block b hb⟩

/-- The loop's two blocks lie as the loop wants them. -/
def Kept (k : Nat) (r : Loop) (W : World) : Prop := W.heap[k + 1]? = some (.loop r) ∧ W.heap[k]? = some (.deferred (some []))
theorem Kept.none {k : Nat} {r : Loop} {X Y : World} (h : Kept k r X) (hg : X.grownBy Y none) : Kept k r Y :=
  ⟨(hg.block _ (Array.getElem?_eq_some_iff.1 h.1).1 (by simp)).trans h.1, (hg.block _ (Array.getElem?_eq_some_iff.1 h.2).1 (by simp)).trans h.2⟩
theorem Kept.keeps {k : Nat} {r : Loop} {X Y : World} (h : Kept k r X) (hk : KeepsFrom k X Y) : Kept k r Y := ⟨hk.same _ _ (by omega) h.1 rfl, hk.same _ _ (Nat.le_refl _) h.2 rfl⟩
theorem Kept.put {k : Nat} {r : Loop} {X : World} (h : Kept k r X) (r' : Loop) : Kept k r' (X.putObj (k + 1) (.loop r')) :=
  ⟨World.putObj_heap_same (Array.getElem?_eq_some_iff.1 h.1).1, (World.putObj_heap_other (by omega)).trans h.2⟩

/-- How the body of a round may be left: it goes on, or it leaves a block further out. -/
def outE {α : Type} (k : Nat) (K : Nat → Prop) (I : List α → World → Prop) (Ix : Nat → List α → World → Prop) (xs : List α) (W : World) : Exit → Act → World → Prop
  | .normal, _, W' => KeepsFrom k W W' ∧ Kb K W W' ∧ I xs W'
  | .exit id, _, W' => KeepsFrom k W W' ∧ Ix id xs W'
  | _, _, _ => False

/-- What an iterator keeps to that writes nothing but new memory, where each front of what comes is as Gd says. -/
def ComesE {α : Type} (F : Fence) (n : Nat) (P : Program) (gf : Nat) (bd lb : Array Value) (encs : α → Array Value) (K : Nat → Prop) (Gd : List α → Prop) (S Sp : List α → Prop) (w : World) : Prop :=
  ∀ (l : Nat) (J Jx : List α → World → Prop) (W : World), Below w.heap.size w W → (∀ s X Y, J s X → X.grownBy Y none → J s Y) →
    (∀ pre x X, Gd (pre ++ [x]) → J pre X → YieldAt F (n - 1) P l (encs x) X fun e Y => (e = .returned (.bool true) ∧ J (pre ++ [x]) Y ∧ Kb K X Y) ∨ (e = .returned (.bool false) ∧ Jx (pre ++ [x]) Y)) →
    J [] W → CallsIn F n P gf (bd ++ #[.func (.yield l) #[] #[]] ++ lb) W fun e Y => (∃ v, e = .returned v) ∧ ((∃ xs, S xs ∧ J xs Y) ∨ ∃ pre, Sp pre ∧ Jx pre Y)

set_option maxHeartbeats 1000000 in
theorem range_overE {F : Fence} {n : Nat} {P : Program} {α : Type} {gop : Operand} {ps : Array Tmp} {assign body : Code} {Q : Exit → Act → World → Prop} {a : Act} {w : World}
    (hro : F.round = none) (h1 : 1 ≤ n) {gf : Nat} {bd lb : Array Value} (hv : a.eval gop = .func (.func gf) bd lb) (hF : F.fn gf) (en : ∀ args w, (callFunc gf args).run P w = .ok (.enter gf args) w)
    {encs : α → Array Value} {K : Nat → Prop} (hnw : ∀ b, K b → b < w.heap.size) {Gd S Sp : List α → Prop} (hseq : ComesE F (n - 1) P gf bd lb encs K Gd S Sp w) (hps : ∀ x, (encs x).size = ps.size)
    (I : List α → World → Prop) (Ix : Nat → List α → World → Prop) (hI : ∀ s X Y r, I s X → X.grownBy Y r → (r = none ∨ r = some w.heap.size ∨ r = some (w.heap.size + 1)) → I s Y)
    (hIx : ∀ id s X Y r, Ix id s X → X.grownBy Y (some r) → (r = w.heap.size ∨ r = w.heap.size + 1) → (∃ o, X.heap[r]? = some o ∧ o.isCells = false) → Ix id s Y) (h0 : I [] w)
    (Ax : α → Act → World → Prop) (hAx : ∀ x a' X Y, Ax x a' X → X.grownBy Y (some (w.heap.size + 1)) → Ax x a' Y)
    (hassign : ∀ (l : Nat) (pre : List α) (x : α) (W : World) (K' : Act → World → Prop), Gd (pre ++ [x]) → w.heap.size + 2 ≤ W.heap.size → I pre W → (∀ a' W', KeepsFrom w.heap.size W W' → Kb K W W' → I pre W' → Ax x a' W' → K' a' W') →
      assign.wpIn (F.inRound l) (n - 1 - 1) P (Exit.then K' (fun _ _ _ => False)) { tmps := (ps.zip (encs x)).foldl (fun t (p, v) => t.setIfInBounds p v) a.tmps, defers := [] } W)
    (hbody : ∀ (l : Nat) (pre : List α) (x : α) (a' : Act) (W : World), Gd (pre ++ [x]) → w.heap.size + 2 ≤ W.heap.size → I pre W → Ax x a' W → body.wpIn (F.inRound l) (n - 1 - 1) P (outE w.heap.size K I Ix (pre ++ [x]) W) a' W)
    (hdone : ∀ (xs : List α) (W : World), S xs → I xs W → W.heap[w.heap.size]? = some (.deferred (some [])) → Q .normal { a with defers := { target := .collected w.heap.size, args := #[] } :: a.defers } W)
    (hstop : ∀ (id : Nat) (pre : List α) (W : World), Sp pre → Ix id pre W → W.heap[w.heap.size]? = some (.deferred (some [])) → (Code.exit id).wpIn F n P Q { a with defers := { target := .collected w.heap.size, args := #[] } :: a.defers } W) :
    (Code.rangeFunc gop ps assign body).wpIn F n P Q a w := by
  refine wpIn_rangeFunc fun fn hfn => ?_
  rw [hro]
  let rec0 (st : LoopState) (pe : Option Code) : Loop := { state := st, pending := pe, fn, tmps := a.tmps, params := ps, assign, body, defers := w.heap.size }
  have hsz1 : (w.alloc (.deferred (some []))).heap.size = w.heap.size + 1 := by simp
  have hkept : Kept w.heap.size (rec0 .ready none) ((w.alloc (.deferred (some []))).alloc (.loop (rec0 .ready none))) := by
    refine ⟨?_, (Below.heap_alloc _ _ _ (by simp)).trans (World.alloc_heap_new w _)⟩
    have := World.alloc_heap_new (w.alloc (.deferred (some []))) (.loop (rec0 .ready none))
    rwa [hsz1] at this
  have hI1 : I [] ((w.alloc (.deferred (some []))).alloc (.loop (rec0 .ready none))) :=
    hI _ _ _ _ (hI _ _ _ _ h0 (World.grownBy_alloc w _ none) (.inl rfl)) (World.grownBy_alloc _ _ none) (.inl rfl)
  have hb1 : Below w.heap.size w ((w.alloc (.deferred (some []))).alloc (.loop (rec0 .ready none))) := ((Below.refl _ w).alloc (Nat.le_refl _) _).alloc (by simp) _
  generalize hW1 : (w.alloc (.deferred (some []))).alloc (.loop (rec0 .ready none)) = W1 at hkept hI1 hb1
  refine ⟨w.heap.size + 1, [{ target := .collected w.heap.size, args := #[] }], W1, { target := .fn (.func gf) lb, args := bd ++ #[.func (.yield (w.heap.size + 1)) #[] #[]] }, W1, gf,
    bd ++ #[.func (.yield (w.heap.size + 1)) #[] #[]] ++ lb, W1, ?_, ?_, ?_, ?_, fun _ => h1, ?_⟩
  · rw [← hW1]; exact run_enterLoop_outer _ _ _ _ _
  · simp only [resolve, hv]
    simp [go_sem]
  · intro f hf; simp [Target.leads] at hf; exact hf ▸ hF
  · simp [invoke, go_sem, en]
  have hnK : ¬ K (w.heap.size + 1) := fun h => by have := hnw _ h; omega
  have hround : ∀ (pre : List α) (x : α) (X : World), Gd (pre ++ [x]) → (I pre X ∧ Kept w.heap.size (rec0 .ready none) X) →
      YieldAt F (n - 1 - 1) P (w.heap.size + 1) (encs x) X fun e Y =>
        (e = .returned (.bool true) ∧ (I (pre ++ [x]) Y ∧ Kept w.heap.size (rec0 .ready none) Y) ∧ Kb K X Y) ∨
        (e = .returned (.bool false) ∧ (∃ id, Ix id (pre ++ [x]) Y ∧ Kept w.heap.size (rec0 .done (some (.exit id))) Y)) := by
    rintro pre x X hgd ⟨hi, hk⟩
    have hlt := (Array.getElem?_eq_some_iff.1 hk.1).1
    refine ⟨fn, _, assign, body, run_yield (P := P) (args := encs x) hk.1 (hps x), roundIn_of_wpIn hfn (hassign _ pre x X _ hgd (by omega) hi ?_)⟩
    intro a' Xa hka hba hia hax
    have hk' := hk.keeps hka
    have hlt' := (Array.getElem?_eq_some_iff.1 hk'.1).1
    refine ⟨_, run_beginRound hk'.1 rfl, ?_⟩
    have hbz : Kb K Xa (Xa.putObj (w.heap.size + 1) (.loop { rec0 .ready none with state := .busy })) := Kb.putObj _ hnK
    have hkz := hk'.put (rec0 .busy none)
    refine wpIn_mono (hbody _ pre x a' _ hgd (by simp; omega) (hI _ _ _ _ hia (grownBy_putObj' Xa (w.heap.size + 1) _) (.inr (.inr rfl))) (hAx _ _ _ _ hax (grownBy_putObj' Xa (w.heap.size + 1) _))) ?_
    rintro e a3 Z hp
    cases e with
    | normal =>
      obtain ⟨hkp, hbl, hi3⟩ := hp
      have hkZ := hkz.keeps hkp
      exact ⟨_, _, run_endRound (P := P) none hkZ.1, .inl ⟨rfl, ⟨hI _ _ _ _ hi3 (grownBy_putObj' Z (w.heap.size + 1) _) (.inr (.inr rfl)), hkZ.put _⟩, ((hba.trans hbz).trans hbl).trans (Kb.putObj _ hnK)⟩⟩
    | exit id =>
      obtain ⟨hkp, hi3⟩ := hp
      have hkZ := hkz.keeps hkp
      exact ⟨_, _, run_endRound (P := P) (some (.exit id)) hkZ.1, .inr ⟨rfl, id, hIx _ _ _ _ _ hi3 (grownBy_putObj' Z (w.heap.size + 1) _) (.inr rfl) ⟨_, hkZ.1, rfl⟩, hkZ.put _⟩⟩
    | ret => exact hp.elim
    | goto _ => exact hp.elim
    | panic _ => exact hp.elim
    | outgrown => exact hp.elim
  refine (hseq (w.heap.size + 1) (fun pre X => I pre X ∧ Kept w.heap.size (rec0 .ready none) X) (fun pre X => ∃ id, Ix id pre X ∧ Kept w.heap.size (rec0 .done (some (.exit id))) X) W1 hb1
    (fun s X Y h hg => ⟨hI _ _ _ _ h.1 hg (.inl rfl), h.2.none hg⟩) hround ⟨hI1, hkept⟩).mono ?_
  rintro e Y ⟨⟨v, rfl⟩, (⟨xs, hs, hi, hk⟩ | ⟨pre, hs, id, hi, hk⟩)⟩
  · exact ⟨none, _, run_endLoop (P := P) hk.1 (by simp [rec0]), hdone xs _ hs (hI _ _ _ _ hi (grownBy_putObj' Y (w.heap.size + 1) _) (.inr (.inr rfl))) (hk.put { rec0 .ready none with state := .exhausted }).2⟩
  · exact ⟨some (.exit id), _, run_endLoop (P := P) hk.1 (by simp [rec0]), hstop id pre _ hs (hIx _ _ _ _ _ hi (grownBy_putObj' Y (w.heap.size + 1) _) (.inr rfl) ⟨_, hk.1, rfl⟩) (hk.put { rec0 .done (some (.exit id)) with state := .exhausted }).2⟩

/-- The marks of loops that are over. -/
def marks (L : List Nat) : List Deferred := L.map fun D => { target := .collected D, args := #[] }
/-- Nothing but the blocks of L has turned. -/
structure Shut (L : List Nat) (W W' : World) : Prop where
  os : W'.os = W.os
  tape : W'.tape = W.tape
  output : W'.output = W.output
  size : W'.heap.size = W.heap.size
  block : ∀ b, b ∉ L → W'.heap[b]? = W.heap[b]?
theorem Shut.refl (L : List Nat) (W : World) : Shut L W W := ⟨rfl, rfl, rfl, rfl, fun _ _ => rfl⟩

/-- A function leaves by the marks of its loops. -/
theorem leave_marks {F : Fence} {n : Nat} {P : Program} {fn : Func} {tmps : Array Value} {R : Ending → World → Prop} : ∀ (L : List Nat) (w : World), L.Nodup → (∀ D ∈ L, w.heap[D]? = some (.deferred (some []))) →
    (∀ w', Shut L w w' → LeavesInM F n P fn tmps R [] .returning w') → LeavesInM F n P fn tmps R (marks L) .returning w
  | [], w, _, _, h => h w (Shut.refl _ _)
  | D :: L, w, hN, hd, h => by
    rw [List.nodup_cons] at hN
    refine ⟨by simp, .inl ⟨D, _, rfl, run_takeDeferred (hd D List.mem_cons_self), ?_⟩⟩
    refine leave_marks L _ hN.2 (fun E hE => (World.putObj_heap_other (by rintro rfl; exact hN.1 hE)).trans (hd E (List.mem_cons_of_mem _ hE))) fun w' hs => h w' ⟨hs.os, hs.tape, hs.output, by rw [hs.size]; simp, fun b hb => ?_⟩
    rw [List.mem_cons, not_or] at hb
    exact (hs.block b hb.2).trans (World.putObj_heap_other hb.1)
end Go.Proofs.YtbpijlghdpflgaaDoor
