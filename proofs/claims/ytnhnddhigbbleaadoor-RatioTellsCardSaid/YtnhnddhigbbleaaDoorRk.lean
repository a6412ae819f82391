/- A loop over an iterator that writes one block of cells between two rounds: what the loop's caller owes, and what it is told. -/
/- Package ratio: the digits of a quotient, one by one. -/
import Derived.RangeFuncNested
import Derived.Test.YtnhnddhigbbleaaDoorRh
import Derived.Test.YtnhnddhigbbleaaDoorRi

namespace Go.Proofs.YtnhnddhigbbleaaDoor
open Go.RowKit

/-- The blocks of K lie as they lay. -/
structure Kb (K : Nat → Prop) (W W' : World) : Prop where
  size : W.heap.size ≤ W'.heap.size
  block : ∀ b, K b → W'.heap[b]? = W.heap[b]?
theorem Kb.trans {K : Nat → Prop} {A B C : World} (h : Kb K A B) (k : Kb K B C) : Kb K A C := ⟨Nat.le_trans h.size k.size, fun b hb => (k.block b hb).trans (h.block b hb)⟩
theorem Kb.refl (K : Nat → Prop) (W : World) : Kb K W W := ⟨Nat.le_refl _, fun _ _ => rfl⟩
theorem Kb.putObj {K : Nat → Prop} {W : World} {l : Nat} (o : Obj) (hl : ¬ K l) : Kb K W (W.putObj l o) := ⟨by simp, fun b hb => World.putObj_heap_other (by rintro rfl; exact hl hb)⟩
theorem Kb.setCell {K : Nat → Prop} {A W : World} (h : Kb K A W) {p : Addr} (hl : ¬ K p.block) (v : Value) : Kb K A (W.setCell p v) := ⟨by simpa [World.setCell] using h.size, fun b hb => (Below.heap_setCell W p v b (by rintro rfl; exact hl hb)).trans (h.block b hb)⟩
theorem Kb.drew {K : Nat → Prop} {A W : World} (h : Kb K A W) : Kb K A W.drew := ⟨h.size, h.block⟩
theorem cell_of_block' {W W' : World} {b : Nat} (h : W'.heap[b]? = W.heap[b]?) (j : Nat) : W'.cell? ⟨b, j, none⟩ = W.cell? ⟨b, j, none⟩ := World.cell?_of_block h

/-- How the body of a round may be left: it goes on, or returns. -/
def outOf {α : Type} (k : Nat) (K : Nat → Prop) (I Ix : List α → World → Prop) (xs : List α) (W : World) : Exit → Act → World → Prop
  | .normal, _, W' => KeepsFrom k W W' ∧ Kb K W W' ∧ I xs W'
  | .ret, _, W' => KeepsFrom k W W' ∧ Ix xs W'
  | _, _, _ => False

/-- What the iterator keeps to: what it is asked between two rounds may be told again when its own block g has been written. -/
def Comes {α : Type} (F : Fence) (n : Nat) (P : Program) (gf : Nat) (lb : Array Value) (encs : α → Array Value) (K : Nat → Prop) (g : Nat) (S : List α → World → Prop) (Sp : List α → Prop) (w : World) : Prop :=
  ∀ (l : Nat) (J Jx : List α → World → Prop) (W : World), Below w.heap.size w W → (∀ s X Y, J s X → X.grownBy Y (some g) → J s Y) →
    (∀ pre x X, J pre X → YieldAt F (n - 1) P l (encs x) X fun e Y => (e = .returned (.bool true) ∧ J (pre ++ [x]) Y ∧ Kb K X Y) ∨ (e = .returned (.bool false) ∧ Jx (pre ++ [x]) Y)) →
    J [] W → CallsIn F n P gf (#[.func (.yield l) #[] #[]] ++ lb) W fun e Y => (∃ v, e = .returned v) ∧ ((∃ xs, S xs Y ∧ J xs Y) ∨ ∃ pre, Sp pre ∧ Jx pre Y)

/-- The loop's two blocks lie as the loop wants them. -/
def Kept (k : Nat) (r : Loop) (W : World) : Prop := W.heap[k + 1]? = some (.loop r) ∧ W.heap[k]? = some (.deferred (some []))

theorem Kept.grown {k : Nat} {r : Loop} {X Y : World} (h : Kept k r X) {j : Nat} (hg : X.grownBy Y (some j)) (hj : j < k) : Kept k r Y :=
  ⟨(hg.block _ (Array.getElem?_eq_some_iff.1 h.1).1 (by intro e; injection e with e; omega)).trans h.1, (hg.block _ (Array.getElem?_eq_some_iff.1 h.2).1 (by intro e; injection e with e; omega)).trans h.2⟩
theorem Kept.keeps {k : Nat} {r : Loop} {X Y : World} (h : Kept k r X) (hk : KeepsFrom k X Y) : Kept k r Y := ⟨hk.same _ _ (by omega) h.1 rfl, hk.same _ _ (Nat.le_refl _) h.2 rfl⟩
theorem Kept.put {k : Nat} {r : Loop} {X : World} (h : Kept k r X) (r' : Loop) : Kept k r' (X.putObj (k + 1) (.loop r')) :=
  ⟨World.putObj_heap_same (Array.getElem?_eq_some_iff.1 h.1).1, (World.putObj_heap_other (by omega)).trans h.2⟩

set_option maxHeartbeats 1000000 in
theorem range_over {F : Fence} {n : Nat} {P : Program} {α : Type} {gop : Operand} {ps : Array Tmp} {assign body : Code} {Q : Exit → Act → World → Prop} {a : Act} {w : World}
    (hro : F.round = none) (h1 : 1 ≤ n) {gf : Nat} {lb : Array Value} (hv : a.eval gop = .func (.func gf) #[] lb) (hF : F.fn gf) (en : ∀ args w, (callFunc gf args).run P w = .ok (.enter gf args) w)
    {encs : α → Array Value} {K : Nat → Prop} {g : Nat} (hgn : K g) (hnw : ∀ b, K b → b < w.heap.size) {S : List α → World → Prop} {Sp : List α → Prop} (hseq : Comes F (n - 1) P gf lb encs K g S Sp w) (hps : ∀ x, (encs x).size = ps.size)
    (I Ix : List α → World → Prop) (hI : ∀ s X Y r, I s X → X.grownBy Y (some r) → (w.heap.size ≤ r ∨ r = g) → I s Y)
    (hIx : ∀ s X Y r, Ix s X → X.grownBy Y (some r) → w.heap.size ≤ r → Ix s Y) (hS : ∀ s X Y r, S s X → X.grownBy Y (some r) → w.heap.size ≤ r → S s Y) (h0 : I [] w) (a₁ : α → Act)
    (hassign : ∀ (l : Nat) (x : α) (W : World) (K : Act → World → Prop), K (a₁ x) W →
      assign.wpIn (F.inRound l) (n - 1 - 1) P (Exit.then K (fun _ _ _ => False)) { tmps := (ps.zip (encs x)).foldl (fun t (p, v) => t.setIfInBounds p v) a.tmps, defers := [] } W)
    (hbody : ∀ (l : Nat) (pre : List α) (x : α) (W : World), I pre W → body.wpIn (F.inRound l) (n - 1 - 1) P (outOf w.heap.size K I Ix (pre ++ [x]) W) (a₁ x) W)
    (hdone : ∀ (D : Nat) (xs : List α) (W : World), w.heap.size ≤ D → S xs W → I xs W → W.heap[D]? = some (.deferred (some [])) → Q .normal { a with defers := { target := .collected D, args := #[] } :: a.defers } W)
    (hstop : ∀ (D : Nat) (pre : List α) (W : World), w.heap.size ≤ D → Sp pre → Ix pre W → W.heap[D]? = some (.deferred (some [])) → Code.ret.wpIn F n P Q { a with defers := { target := .collected D, args := #[] } :: a.defers } W) :
    (Code.rangeFunc gop ps assign body).wpIn F n P Q a w := by
  refine wpIn_rangeFunc fun fn hfn => ?_
  rw [hro]
  let rec0 (st : LoopState) (pe : Option Code) : Loop := { state := st, pending := pe, fn, tmps := a.tmps, params := ps, assign, body, defers := w.heap.size }
  have hsz1 : (w.alloc (.deferred (some []))).heap.size = w.heap.size + 1 := by simp
  have hkept : Kept w.heap.size (rec0 .ready none) ((w.alloc (.deferred (some []))).alloc (.loop (rec0 .ready none))) := by
    refine ⟨?_, (Below.heap_alloc _ _ _ (by simp)).trans (World.alloc_heap_new w _)⟩
    have := World.alloc_heap_new (w.alloc (.deferred (some []))) (.loop (rec0 .ready none))
    rwa [hsz1] at this
  have hI1 : I [] ((w.alloc (.deferred (some []))).alloc (.loop (rec0 .ready none))) :=
    hI _ _ _ _ (hI _ _ _ _ h0 (World.grownBy_alloc w _ (some w.heap.size)) (.inl (Nat.le_refl _))) (World.grownBy_alloc _ _ (some w.heap.size)) (.inl (Nat.le_refl _))
  have hb1 : Below w.heap.size w ((w.alloc (.deferred (some []))).alloc (.loop (rec0 .ready none))) := ((Below.refl _ w).alloc (Nat.le_refl _) _).alloc (by simp) _
  generalize hW1 : (w.alloc (.deferred (some []))).alloc (.loop (rec0 .ready none)) = W1 at hkept hI1 hb1
  refine ⟨w.heap.size + 1, [{ target := .collected w.heap.size, args := #[] }], W1, { target := .fn (.func gf) lb, args := #[.func (.yield (w.heap.size + 1)) #[] #[]] }, W1, gf,
    #[.func (.yield (w.heap.size + 1)) #[] #[]] ++ lb, W1, ?_, ?_, ?_, ?_, fun _ => h1, ?_⟩
  · rw [← hW1]; exact run_enterLoop_outer _ _ _ _ _
  · simp only [resolve, hv]
    simp [go_sem]
  · intro f hf; simp [Target.leads] at hf; exact hf ▸ hF
  · simp [invoke, go_sem, en]
  have hround : ∀ (pre : List α) (x : α) (X : World), (I pre X ∧ Kept w.heap.size (rec0 .ready none) X) →
      YieldAt F (n - 1 - 1) P (w.heap.size + 1) (encs x) X fun e Y =>
        (e = .returned (.bool true) ∧ (I (pre ++ [x]) Y ∧ Kept w.heap.size (rec0 .ready none) Y) ∧ Kb K X Y) ∨
        (e = .returned (.bool false) ∧ (Ix (pre ++ [x]) Y ∧ Kept w.heap.size (rec0 .done (some .ret)) Y)) := by
    rintro pre x X ⟨hi, hk⟩
    refine ⟨fn, _, assign, body, run_yield (P := P) (args := encs x) hk.1 (hps x), roundIn_of_wpIn hfn (hassign _ x X _ ⟨_, run_beginRound hk.1 rfl, ?_⟩)⟩
    have hnK : ¬ K (w.heap.size + 1) := fun h => by have := hnw _ h; omega
    have hbz : Kb K X (X.putObj (w.heap.size + 1) (.loop { rec0 .ready none with state := .busy })) := Kb.putObj _ hnK
    have hkz := hk.put (rec0 .busy none)
    refine wpIn_mono (hbody _ pre x _ (hI _ _ _ _ hi (grownBy_putObj' X (w.heap.size + 1) _) (.inl (by omega)))) ?_
    rintro e a3 Z hp
    cases e with
    | normal =>
      obtain ⟨hkp, hbl, hi3⟩ := hp
      have hkZ := hkz.keeps hkp
      exact ⟨_, _, run_endRound (P := P) none hkZ.1, .inl ⟨rfl, ⟨hI _ _ _ _ hi3 (grownBy_putObj' Z (w.heap.size + 1) _) (.inl (by omega)), hkZ.put _⟩, (hbz.trans hbl).trans (Kb.putObj _ hnK)⟩⟩
    | ret =>
      obtain ⟨hkp, hi3⟩ := hp
      have hkZ := hkz.keeps hkp
      exact ⟨_, _, run_endRound (P := P) (some .ret) hkZ.1, .inr ⟨rfl, hIx _ _ _ _ hi3 (grownBy_putObj' Z (w.heap.size + 1) _) (by omega), hkZ.put _⟩⟩
    | exit _ => exact hp.elim
    | goto _ => exact hp.elim
    | panic _ => exact hp.elim
    | outgrown => exact hp.elim
  refine (hseq (w.heap.size + 1) (fun pre X => I pre X ∧ Kept w.heap.size (rec0 .ready none) X) (fun pre X => Ix pre X ∧ Kept w.heap.size (rec0 .done (some .ret)) X) W1 hb1
    (fun s X Y h hg => ⟨hI _ _ _ _ h.1 hg (.inr rfl), h.2.grown hg (hnw _ hgn)⟩) hround ⟨hI1, hkept⟩).mono ?_
  rintro e Y ⟨⟨v, rfl⟩, (⟨xs, hs, hi, hk⟩ | ⟨pre, hs, hi, hk⟩)⟩
  · exact ⟨none, _, run_endLoop (P := P) hk.1 (by simp [rec0]), hdone _ xs _ (Nat.le_refl _) (hS _ _ _ _ hs (grownBy_putObj' Y (w.heap.size + 1) _) (by omega)) (hI _ _ _ _ hi (grownBy_putObj' Y (w.heap.size + 1) _) (.inl (by omega))) (hk.put { rec0 .ready none with state := .exhausted }).2⟩
  · exact ⟨some .ret, _, run_endLoop (P := P) hk.1 (by simp [rec0]), hstop _ pre _ (Nat.le_refl _) hs (hIx _ _ _ _ hi (grownBy_putObj' Y (w.heap.size + 1) _) (by omega)) (hk.put { rec0 .done (some .ret) with state := .exhausted }).2⟩

end Go.Proofs.YtnhnddhigbbleaaDoor


namespace Go.Proofs.YtnhnddhigbbleaaDoor
open Go.RowKit Go.Shelf
attribute [local go_sem] Oper.semAt_some

/-- A place between two, and a digit. -/
abbrev Plc (first last : Int) := { p : Int × Nat // last ≤ p.1 ∧ p.1 ≤ first ∧ p.2 ≤ 1 }
/-- What comes at round k. -/
def dgt (first : Int) (R D k : Nat) : Int × Nat := (first - k, R * 2 ^ (k + 1) / D % 2)

theorem dgt_step {R D k d r : Nat} (hD : 0 < D) (hd : d ≤ 1) (h : r + d * D = 2 * (R * 2 ^ k % D)) (hr : r < D) : r = R * 2 ^ (k + 1) % D ∧ d = R * 2 ^ (k + 1) / D % 2 := by
  have h1 := Nat.div_add_mod (R * 2 ^ k) D
  generalize R * 2 ^ k % D = m at *
  generalize hq : R * 2 ^ k / D = q at *
  have h2 : R * 2 ^ (k + 1) = r + D * (2 * q + d) := by
    rw [Nat.pow_succ, ← Nat.mul_assoc, ← h1, Nat.mul_add, Nat.mul_left_comm, Nat.mul_comm D d]
    rw [Nat.add_mul, Nat.mul_comm _ 2, Nat.mul_comm m 2]
    omega
  constructor
  · rw [h2, Nat.add_mul_mod_self_left, Nat.mod_eq_of_lt hr]
  · rw [h2, Nat.add_mul_div_left _ _ hD, Nat.div_eq_of_lt hr]
    omega

theorem Rd.kept {w w' : World} {B n c : Nat} {A : Option Addr} {f : Nat → Nat} (h : Rd w B A n c f) (hb : ∀ b, b < B → w'.heap[b]? = w.heap[b]?) : Rd w' B A n c f :=
  ⟨h.cap, h.max, h.lt, h.out, fun hn => by
    obtain ⟨b, off, rfl, hB, hc⟩ := h.at_ hn
    exact ⟨b, off, rfl, hB, fun j hj => (World.cell?_of_block (hb b hB)).trans (hc j hj)⟩⟩
theorem Blk.kept {w w' : World} {e : TypeId} {g n : Nat} {f : Nat → Nat} (h : Blk w e g n f) (hb : w'.heap[g]? = w.heap[g]?) : Blk w' e g n f := by
  obtain ⟨cs, h, h2⟩ := h
  exact ⟨cs, hb.trans h, h2⟩

set_option maxRecDepth 100000 in
set_option maxHeartbeats 4000000 in
theorem dig1_in (n : Nat) (hn : 1 ≤ n) (l g Bd m c B1 B2 B3 B4 : Nat) (K : Nat → Prop) (A : Option Addr) (f : Nat → Nat) (first last : Int) (R : Nat) (hf1 : -9223372036854775807 ≤ last) (hf2 : first ≤ 9223372036854775806) (J Jx : List (Plc first last) → World → Prop)
    (hJg : ∀ s X Y, J s X → X.grownBy Y (some g) → J s Y)
    (hY : ∀ pre x W, J pre W → YieldAt Fence.wide (n - 1) Tryd.prog l #[.int .i64 x.1.1, .int .u32 (x.1.2 : Int)] W fun e W' =>
      (e = .returned (.bool true) ∧ J (pre ++ [x]) W' ∧ Kb K W W') ∨ (e = .returned (.bool false) ∧ Jx (pre ++ [x]) W'))
    (W : World) (h1 : W.cell? ⟨B1, 0, none⟩ = some (.int .i64 first)) (h2 : W.cell? ⟨B2, 0, none⟩ = some (.int .i64 last))
    (h3 : W.cell? ⟨B3, 0, none⟩ = some (.func (.func 43) #[.pointer (some ⟨g, 0, none⟩)] #[])) (h4 : W.cell? ⟨B4, 0, none⟩ = some (.slice A m c))
    (k1 : K B1 ∧ B1 ≠ g) (k2 : K B2 ∧ B2 ≠ g) (k3 : K B3 ∧ B3 ≠ g) (k4 : K B4 ∧ B4 ≠ g) (kg : K g) (hn₀ : ∀ b, K b → b < W.heap.size) (hKd : ∀ b, b < Bd → K b) (hBg : Bd ≤ g)
    (hr : Rd W Bd A m c f) (hm : m ≤ 40) {F0 : Nat → Nat} (hb : Blk W 68 g 81 F0) (hF0 : ∀ j, F0 j < 4294967296) (hR : vl F0 81 = R) (hlt : R < vl f m * pw 40) (h0 : J [] W) :
    CallsIn Fence.wide n Tryd.prog 53 #[.func (.yield l) #[] #[], .pointer (some ⟨B1, 0, none⟩), .pointer (some ⟨B2, 0, none⟩), .pointer (some ⟨B3, 0, none⟩), .pointer (some ⟨B4, 0, none⟩)] W fun e W' => (∃ v, e = .returned v) ∧
      ((∃ ys : List (Plc first last), ys.map (·.1) = upto (dgt first R (vl f m * pw 40)) (first - last + 1).toNat ∧ J ys W' ∧ ∃ F, Blk W' 68 g 81 F ∧ (∀ j, F j < 4294967296) ∧ vl F 81 = R * 2 ^ (first - last + 1).toNat % (vl f m * pw 40)) ∨
       (∃ (k : Nat) (pre : List (Plc first last)), pre.map (·.1) = upto (dgt first R (vl f m * pw 40)) k ∧ Jx pre W')) := by
  have hD : 0 < vl f m * pw 40 := by omega
  refine callsIn_of_wp Tryd.func53 rfl trivial ?_ rfl
  simp only [Tryd.ntmps53, List.size_toArray, List.length_cons, List.length_nil, Nat.reduceAdd, Nat.reduceSub, Array.replicate_succ, Array.replicate_zero, List.push_toArray, List.append_toArray, List.nil_append, List.cons_append]
  gi_wp2
  gi_loopw [6] (fun i wr => ∃ (k : Nat) (z : Int) (pre : List (Plc first last)), i = .int .i64 z ∧ z = first - k ∧ (last ≤ z + 1 ∨ k = 0) ∧ pre.map (·.1) = upto (dgt first R (vl f m * pw 40)) k ∧ J pre wr ∧ Hid (wr.cell? ⟨B1, 0, none⟩ = some (.int .i64 first) ∧ wr.cell? ⟨B2, 0, none⟩ = some (.int .i64 last) ∧
      wr.cell? ⟨B3, 0, none⟩ = some (.func (.func 43) #[.pointer (some ⟨g, 0, none⟩)] #[]) ∧ wr.cell? ⟨B4, 0, none⟩ = some (.slice A m c)) ∧ Hid (Rd wr Bd A m c f ∧ ∀ b, K b → b < wr.heap.size) ∧
      Hid (∃ F, Blk wr 68 g 81 F ∧ (∀ j, F j < 4294967296) ∧ vl F 81 = R * 2 ^ k % (vl f m * pw 40)))
    (fun i _ => (intOf i - last + 1).toNat)
  case atStart => exact ⟨0, first, [], rfl, by omega, .inr rfl, rfl, h0, hid ⟨h1, h2, h3, h4⟩, hid ⟨hr, hn₀⟩, hid ⟨F0, hb, hF0, by rw [hR, Nat.pow_zero, Nat.mul_one, Nat.mod_eq_of_lt hlt]⟩⟩
  case round =>
    obtain ⟨k, z, pre, rfl, hz, hzl, hpre, hJs, hcs, hro, hblk⟩ := hrel
    obtain ⟨c1, c2, c3, c4⟩ := hcs.out
    have Hz := hid hz
    have Hzl := hid hzl
    have Hpre := hid hpre
    clear hz hzl hpre h1 h2 h3 h4 hb hR hr
    by_cases hcon : last ≤ z
    · obtain ⟨F, hbF, hFl, hFv⟩ := hblk.out
      have CN := hid (next_any hbF hFl hro.out.1 hBg hm (by rw [hFv]; exact Nat.mod_lt _ hD))
      have Hbl := hid hblk.out
      clear hbF
      gi_wp2_with fail
      refine ⟨trivial, ?_⟩
      refine (callsIn_wide.2 CN.out).mono ?_
      rintro e w1 ⟨d, rfl, hd, hg1⟩
      clear CN
      have kpt : ∀ (B : Nat) (v : Value), K B ∧ B ≠ g → wr.cell? ⟨B, 0, none⟩ = some v → w1.cell? ⟨B, 0, none⟩ = some v := fun B v hB hc =>
        (World.cell?_of_block (hg1.out.block B (hro.out.2 B hB.1) (by intro e; injection e with e; exact hB.2 e))).trans hc
      have D1 := hid (kpt _ _ k1 c1)
      have D2 := hid (kpt _ _ k2 c2)
      have D3 := hid (kpt _ _ k3 c3)
      have D4 := hid (kpt _ _ k4 c4)
      have Hro1 := hid (show Rd w1 Bd A m c f ∧ ∀ b, K b → b < w1.heap.size from ⟨hro.out.1.ngrown hg1.out hBg (by have := hro.out.2 g kg; omega), fun b hb => Nat.lt_of_lt_of_le (hro.out.2 b hb) hg1.out.size⟩)
      have hd1 := hd.out.1
      have Hz' := hid (show last ≤ z ∧ z ≤ first ∧ d ≤ 1 from ⟨hcon, by have := Hz.out; omega, hd1⟩)
      obtain ⟨fn, tmps, assign, body, hy, hR'⟩ := hY pre ⟨(z, d), Hz'.out⟩ w1 (hJg _ _ _ hJs hg1.out)
      dsimp only at hy
      have hnew : Hid (∃ F, Blk w1 68 g 81 F ∧ (∀ j, F j < 4294967296) ∧ vl F 81 = R * 2 ^ (k + 1) % (vl f m * pw 40) ∧ d = R * 2 ^ (k + 1) / (vl f m * pw 40) % 2) := by
        obtain ⟨_, F', hb', hF', hv', hlt'⟩ := hd.out
        obtain ⟨e1, e2⟩ := dgt_step hD hd1 (by rw [hv', hFv]) hlt'
        exact hid ⟨F', hb', hF', e1, e2⟩
      have hcome : Hid ((pre ++ [(⟨(z, d), Hz'.out⟩ : Plc first last)]).map (·.1) = upto (dgt first R (vl f m * pw 40)) (k + 1)) := by
        refine hid ?_
        obtain ⟨_, _, _, _, e2⟩ := hnew.out
        rw [List.map_append, Hpre.out, upto_succ]
        show _ ++ [(z, d)] = _ ++ [dgt first R (vl f m * pw 40) k]
        rw [show dgt first R (vl f m * pw 40) k = (z, d) by unfold dgt; rw [← e2, ← Hz.out]]
      have hwz : IntKind.i64.wrap (z - 1) = z - 1 := IntWalk.i64_in _ (by have := Hz'.out; omega)
      clear hFv hFl Hbl hblk hcs c1 c2 c3 c4 kpt hd hd1
      gi_wp2
      refine hR'.mono ?_
      rintro e W3 (⟨rfl, hJ3, hk3⟩ | ⟨rfl, hJx3⟩)
      · gi_wp2
        go_roundw
        case rel =>
          refine ⟨k + 1, z - 1, _, rfl, by have := Hz.out; omega, .inl (by omega), hcome.out, hJ3, hid ⟨(cell_of_block' (hk3.block _ k1.1) 0).trans D1.out, (cell_of_block' (hk3.block _ k2.1) 0).trans D2.out, (cell_of_block' (hk3.block _ k3.1) 0).trans D3.out, (cell_of_block' (hk3.block _ k4.1) 0).trans D4.out⟩,
            hid ⟨Hro1.out.1.kept (fun b hb => hk3.block b (hKd b hb)), fun b hb => Nat.lt_of_lt_of_le (Hro1.out.2 b hb) hk3.size⟩, hid ?_⟩
          obtain ⟨F', hb', hF', hv', _⟩ := hnew.out
          exact ⟨F', hb'.kept (hk3.block _ kg), hF', hv'⟩
        case measure => simp [intOf]; omega
      · gi_wp2
        refine bodyPost_ret (results_none rfl _ _ _) rfl ?_
        exact ⟨⟨_, rfl⟩, .inr ⟨k + 1, _, hcome.out, hJx3⟩⟩
    · have hcon' : z < last := by omega
      gi_wp2
      go_end0
      have hk : (first - last + 1).toNat = k := by have := Hz.out; have := Hzl.out; omega
      rw [hk]
      exact ⟨⟨_, rfl⟩, .inl ⟨pre, Hpre.out, hJs, hblk.out⟩⟩

set_option maxHeartbeats 1000000 in
theorem dig_in (F : Fence) (n : Nat) (h1 : F.fn 42) (hro : F.round = none) (g m c : Nat) (A : Option Addr) (first last : Int) (w : World) :
    CallsIn F n Tryd.prog 42 #[.func (.func 43) #[.pointer (some ⟨g, 0, none⟩)] #[], .slice A m c, .int .i64 first, .int .i64 last] w fun e w' =>
      e = .returned (.func (.func 53) #[] #[.pointer (some ⟨w.heap.size + 2, 0, none⟩), .pointer (some ⟨w.heap.size + 3, 0, none⟩), .pointer (some ⟨w.heap.size, 0, none⟩), .pointer (some ⟨w.heap.size + 1, 0, none⟩)]) ∧
      w' = (((w.alloc (.cells #[.func (.func 43) #[.pointer (some ⟨g, 0, none⟩)] #[]] 65)).alloc (.cells #[.slice A m c] 22)).alloc (.cells #[.int .i64 first] 3)).alloc (.cells #[.int .i64 last] 3) := by
  refine callsIn_of_wp Tryd.func42 rfl h1 ?_ hro
  simp only [Tryd.ntmps42, List.size_toArray, List.length_cons, List.length_nil, Nat.reduceAdd, Nat.reduceSub, Array.replicate_succ, Array.replicate_zero, List.push_toArray, List.append_toArray, List.nil_append, List.cons_append]
  gi_wp2
  go_ret
  exact ⟨rfl, rfl⟩

end Go.Proofs.YtnhnddhigbbleaaDoor

