/- Masses: words for what is handed in, and for what is answered. -/
/- Bits, the lowest first, as slices of uint8: what is read; the reference's Cut. -/
/- The reference's Digits: the bits of limbs. -/
/- The reference's Limbs: the limbs of bits. -/
/- The reference's Same, May, told; the law's spoil and own copies. -/
/- Limbs of one number, however many: what they are when they may be. -/
/- 'append(x, y...)', and copies by it. -/
import Derived.Test.YtbankbehfjogpaaVad
import Derived.Test.YtbankbehfjogpaaVaa
import Derived.Test.YtbankbehfjogpaaVab
import Derived.Laws.AppendOwnNone

namespace Go.Proofs.Ytbankbehfjogpaa
set_option maxRecDepth 100000
open Go.RowKit Go.Shelf

/-- A dyad's value. -/
abbrev dyv (d : Dy) : Value := .agg #[.bool d.s, .slice d.A d.n d.c, .int .i64 d.x]
/-- The dyad d reads: it may be just if q; then it is M. -/
structure Dyr (w : World) (q : Prop) (M : Int) (d : Dy) : Prop where
  rd : Rd w w.heap.size d.A d.n d.c d.f
  may : q ↔ DMay d.s d.n d.f d.x
  val : q → ∃ X : Nat, d.x = (X : Int) ∧ M = dv d.s (vl d.f d.n) X
  nil : d.A = none → d.n = 0 ∧ d.c = 0
section
variable {w w' : World} {q : Prop} {M : Int} {d : Dy} {B : Nat}
theorem Dyr.arg (h : Dyr w q M d) : DArg w q M (dyv d) := ⟨_, _, _, _, _, _, rfl, h.rd, h.may, h.val⟩
theorem Dyr.below (h : Dyr w q M d) (hb : Below w.heap.size w w') : Dyr w' q M d := ⟨(h.rd.below hb).mono hb.size, h.may, h.val, h.nil⟩
theorem Dyr.zero (w : World) : Dyr w True 0 ⟨false, none, 0, 0, 0, fun _ => 0⟩ :=
  ⟨Rd.nil w _, ⟨fun _ => ⟨⟨by simp, fun h => absurd h (by simp)⟩, by simp, by simp, fun _ => rfl, fun h => absurd h (by simp)⟩, fun _ => trivial⟩, fun _ => ⟨0, rfl, by simp [vl, dv, num]⟩, fun _ => ⟨rfl, rfl⟩⟩
theorem Dyr.sure (h : Dyr w q M d) (hq : q) : Dyr w True M d := ⟨h.rd, ⟨fun _ => h.may.1 hq, fun _ => trivial⟩, fun _ => h.val hq, h.nil⟩
/-- The dyad d is of the call's own memory, from block B on; it is M. -/
structure Owd (B : Nat) (w : World) (M : Int) (d : Dy) : Prop where
  lim : Mk w 34 B d.A d.n d.c d.f
  may : DMay d.s d.n d.f d.x
  val : ∃ X : Nat, d.x = (X : Int) ∧ Canon d.s (vl d.f d.n) X ∧ X ≤ 1024 ∧ M = dv d.s (vl d.f d.n) X
theorem Mk.nil_of {e : TypeId} {A : Option Addr} {n c : Nat} {f : Nat → Nat} (h : Mk w e B A n c f) (hA : A = none) : n = 0 ∧ c = 0 := by
  rcases h.own with ⟨_, h0, h1⟩ | ⟨g, cs, hA2, _⟩
  · exact ⟨h0, h1⟩
  · rw [hA] at hA2
    cases hA2
theorem Owd.own (h : Owd B w M d) : Dn B w M (dyv d) := by
  obtain ⟨X, hx, hc, hX, rfl⟩ := h.val
  exact ⟨d.s, _, X, vl d.f d.n, by rw [← hx], ⟨d.A, d.n, d.c, d.f, rfl, h.lim, h.may.1, rfl⟩, hc, hX, rfl⟩
theorem Owd.read (h : Owd B w M d) : Dyr w True M d := by
  obtain ⟨X, hx, hc, hX, rfl⟩ := h.val
  exact ⟨h.lim.rd, ⟨fun _ => h.may, fun _ => trivial⟩, fun _ => ⟨X, hx, rfl⟩, h.lim.nil_of⟩
theorem Dn.own {v : Value} (h : Dn B w M v) : ∃ d, v = dyv d ∧ Owd B w M d := by
  obtain ⟨s, u, X, V, rfl, hn, hc, hX, hd⟩ := h
  obtain ⟨A, n, c, f, rfl, hm, hf, rfl⟩ := hn
  exact ⟨⟨s, A, n, c, (X : Int), f⟩, rfl, hm, canon_may hf hc hX, X, rfl, hc, hX, hd.symm⟩
theorem Mk.grown {e : TypeId} {A : Option Addr} {n c r : Nat} {f : Nat → Nat} (h : Mk w e B A n c f) (hg : w.grownBy w' (some r)) (hr : r < B) : Mk w' e B A n c f :=
  ⟨h.cap, h.max, h.lt, h.out, by
    rcases h.own with h0 | ⟨g, cs, hA, hB, hh, hs, hc⟩
    · exact .inl h0
    · exact .inr ⟨g, cs, hA, hB, (hg.block g (lt_of_heap hh) (by intro e; injection e with e; omega)).trans hh, hs, hc⟩⟩
theorem Mk.far_ {e : TypeId} {g n c : Nat} {A : Option Addr} {f : Nat → Nat} (h : Mk w e B A n c f) (hg : g < B) (j : Nat) (u : Value) : Mk (w.setCell ⟨g, j, none⟩ u) e B A n c f :=
  ⟨h.cap, h.max, h.lt, h.out, by
    rcases h.own with h0 | ⟨k, cs, hA, hk, hh, hs, hc⟩
    · exact .inl h0
    · exact .inr ⟨k, cs, hA, hk, (Below.heap_setCell w ⟨g, j, none⟩ u k (by show k ≠ g; omega)).trans hh, hs, hc⟩⟩
theorem Owd.below (h : Owd B w M d) (hb : Below w.heap.size w w') : Owd B w' M d := ⟨h.lim.below hb (Nat.le_refl _), h.may, h.val⟩
theorem Owd.mono {B' : Nat} (h : Owd B w M d) (hB : B' ≤ B) : Owd B' w M d := ⟨h.lim.mono hB, h.may, h.val⟩
theorem Owd.grown {r : Nat} (h : Owd B w M d) (hg : w.grownBy w' (some r)) (hr : r < B) : Owd B w' M d := ⟨h.lim.grown hg hr, h.may, h.val⟩
theorem Owd.zero (B : Nat) (w : World) : Owd B w 0 ⟨false, none, 0, 0, 0, fun _ => 0⟩ :=
  ⟨Mk.nil w _ B, ⟨⟨by simp, fun h => absurd h (by simp)⟩, by simp, by simp, fun _ => rfl, fun h => absurd h (by simp)⟩, 0, rfl, ⟨fun _ => ⟨rfl, rfl⟩, fun h => absurd h (by omega)⟩, by omega, by simp [vl, dv, num]⟩
/-- r is d's twin, of the call's own memory. -/
structure Twd (B : Nat) (w : World) (d r : Dy) : Prop where
  lim : Mk w 34 B r.A r.n r.c r.f
  s : r.s = d.s
  n : r.n = d.n
  x : r.x = d.x
  f : r.f = d.f
variable {r : Dy}
theorem Twd.below (h : Twd B w d r) (hb : Below w.heap.size w w') : Twd B w' d r := ⟨h.lim.below hb (Nat.le_refl _), h.s, h.n, h.x, h.f⟩
theorem Twd.mono {B' : Nat} (h : Twd B w d r) (hB : B' ≤ B) : Twd B' w d r := ⟨h.lim.mono hB, h.s, h.n, h.x, h.f⟩
theorem Twd.grown {k : Nat} (h : Twd B w d r) (hg : w.grownBy w' (some k)) (hr : k < B) : Twd B w' d r := ⟨h.lim.grown hg hr, h.s, h.n, h.x, h.f⟩
/-- What d is, its twin is. -/
theorem Twd.read {w0 : World} (h : Twd B w d r) (k : Dyr w0 q M d) : Dyr w q M r := by
  refine ⟨h.lim.rd, ?_, ?_, h.lim.nil_of⟩
  · rw [h.s, h.n, h.x, h.f]; exact k.may
  · rw [h.s, h.n, h.x, h.f]; exact k.val
theorem Twd.own {B0 : Nat} {w0 : World} (h : Twd B w d r) (k : Owd B0 w0 M d) : Owd B w M r := by
  refine ⟨h.lim, ?_, ?_⟩
  · rw [h.s, h.n, h.x, h.f]; exact k.may
  · rw [h.s, h.n, h.x, h.f]; exact k.val
end

theorem Twd.mow {B : Nat} {w w0 : World} {q : Prop} {M : Int} {d r : Dy} (h : Twd B w d r) (k : Dyr w0 q M d) (hq : q) : Owd B w M r := by
  obtain ⟨X, hx, hM⟩ := k.val hq
  have hm := k.may.1 hq
  obtain ⟨X', hx', c1, l1⟩ := may_canon hm k.rd.out
  obtain rfl : X = X' := by omega
  refine ⟨h.lim, ?_, X, ?_, ?_, l1, ?_⟩
  · rw [h.s, h.n, h.x, h.f]; exact hm
  · rw [h.x]; exact hx
  · rw [h.s, h.n, h.f]; exact c1
  · rw [h.s, h.n, h.f]; exact hM
/-- All four. -/
def All4 (q : Nat → Prop) : Prop := ∀ k, k < 4 → q k
/-- A mass that was handed in: part k may be just if q k; then it is M k. -/
def Mar (w : World) (q : Nat → Prop) (M : Nat → Int) (D : Nat → Dy) : Prop := ∀ k, k < 4 → Dyr w (q k) (M k) (D k)
/-- A mass of the call's own. -/
def Mow (B : Nat) (w : World) (M : Nat → Int) (D : Nat → Dy) : Prop := ∀ k, k < 4 → Owd B w (M k) (D k)
section
variable {w w' : World} {q : Nat → Prop} {M : Nat → Int} {D : Nat → Dy} {B : Nat}
theorem Mar.below (h : Mar w q M D) (hb : Below w.heap.size w w') : Mar w' q M D := fun k hk => (h k hk).below hb
theorem Mow.below (h : Mow B w M D) (hb : Below w.heap.size w w') : Mow B w' M D := fun k hk => (h k hk).below hb
theorem Mow.mono {B' : Nat} (h : Mow B w M D) (hB : B' ≤ B) : Mow B' w M D := fun k hk => (h k hk).mono hB
theorem Mow.mar (h : Mow B w M D) : Mar w (fun _ => True) M D := fun k hk => (h k hk).read
theorem Mar.mrd (h : Mar w q M D) : Mrd w w.heap.size D := fun k hk => (h k hk).rd
theorem Mar.may (h : Mar w q M D) : All4 q ↔ MMay D := ⟨fun ha k hk => (h k hk).may.1 (ha k hk), fun hm k hk => (h k hk).may.2 (hm k hk)⟩
end
/-- The mass of nothing. -/
def D0 : Nat → Dy := fun _ => ⟨false, none, 0, 0, 0, fun _ => 0⟩
theorem Mow.zero (B : Nat) (w : World) : Mow B w (fun _ => 0) D0 := fun _ _ => Owd.zero B w

/-- The error where the parts M are to be told. -/
def Merr (M : Nat → Int) (er : Int) : Prop := (All4 (fun k => Okay (M k)) ∧ er = 0) ∨ (¬ All4 (fun k => Okay (M k)) ∧ er = 10)
/-- The error of a call on masses: bad ones first, then 'over'. -/
def Merrs (p : Prop) (M : Nat → Int) (er : Int) : Prop := (p → Merr M er) ∧ (¬ p → er = 8)
theorem Merr.uniq {M : Nat → Int} {a b : Int} (h : Merr M a) (k : Merr M b) : a = b := by
  rcases h with ⟨h, rfl⟩ | ⟨h, rfl⟩ <;> rcases k with ⟨k, rfl⟩ | ⟨k, rfl⟩
  · rfl
  · exact absurd h k
  · exact absurd k h
  · rfl
theorem Merrs.good {p : Prop} {M : Nat → Int} {er : Int} (h : Merrs p M er) (hp : p) (ho : All4 (fun k => Okay (M k))) : er = 0 := (h.1 hp).uniq (.inl ⟨ho, rfl⟩)
theorem Merrs.zero {p : Prop} {M : Nat → Int} (h : Merrs p M 0) : p ∧ All4 (fun k => Okay (M k)) := by
  by_cases hp : p
  · rcases h.1 hp with ⟨ho, _⟩ | ⟨_, h0⟩
    · exact ⟨hp, ho⟩
    · cases h0
  · have := h.2 hp
    cases this
/-- What is told beside an error. -/
def resM (er : Int) (M : Nat → Int) : Nat → Int := if er = 0 then M else fun _ => 0
theorem resM_ok {er : Int} {M : Nat → Int} (h : er = 0) : resM er M = M := if_pos h
theorem resM_bad {er : Int} {M : Nat → Int} (h : er ≠ 0) : resM er M = fun _ => 0 := if_neg h
/-- What a call hands back that answers a mass and an error. -/
def MRes (w : World) (E : Int → Prop) (M : Nat → Int) (e : Ending) (w' : World) : Prop := ∃ D er, e = .returned (.tuple #[.agg (mcells D), .int .i64 er]) ∧ Hid (E er) ∧ Hid (Mow w.heap.size w' (resM er M) D) ∧ Hid (Below w.heap.size w w')

theorem Mbox.frozen {w : World} {g : Nat} {M : Nat → Dy} (h : Mbox w g M) (j : Nat) : w.frozen? ⟨g, j, none⟩ = false := frozen_of_row w g j _ _ h
/-- One part is written over. -/
def updD (D : Nat → Dy) (k : Nat) (d : Dy) : Nat → Dy := fun j => if j = k then d else D j
theorem updD_same (D : Nat → Dy) (k : Nat) (d : Dy) : updD D k d k = d := if_pos rfl
theorem updD_ne (D : Nat → Dy) {k j : Nat} (d : Dy) (h : j ≠ k) : updD D k d j = D j := if_neg h
/-- The world behind a part that is stored into a mass's box. -/
def mput (w : World) (g k : Nat) (d : Dy) : World := ((w.setCell ⟨g, 3 * k, none⟩ (.bool d.s)).setCell ⟨g, 3 * k + 1, none⟩ (.slice d.A d.n d.c)).setCell ⟨g, 3 * k + 2, none⟩ (.int .i64 d.x)
theorem Mbox.put {w : World} {g k : Nat} {D : Nat → Dy} (h : Mbox w g D) (hk : k < 4) (d : Dy) : Mbox (mput w g k d) g (updD D k d) := by
  have hc : k = 0 ∨ k = 1 ∨ k = 2 ∨ k = 3 := by omega
  rcases hc with rfl | rfl | rfl | rfl
  · exact heap_setCell_same _ g (3 * 0 + 2) _ _ (.int .i64 d.x) (heap_setCell_same _ g (3 * 0 + 1) _ _ (.slice d.A d.n d.c) (heap_setCell_same w g (3 * 0) _ _ (.bool d.s) h))
  · exact heap_setCell_same _ g (3 * 1 + 2) _ _ (.int .i64 d.x) (heap_setCell_same _ g (3 * 1 + 1) _ _ (.slice d.A d.n d.c) (heap_setCell_same w g (3 * 1) _ _ (.bool d.s) h))
  · exact heap_setCell_same _ g (3 * 2 + 2) _ _ (.int .i64 d.x) (heap_setCell_same _ g (3 * 2 + 1) _ _ (.slice d.A d.n d.c) (heap_setCell_same w g (3 * 2) _ _ (.bool d.s) h))
  · exact heap_setCell_same _ g (3 * 3 + 2) _ _ (.int .i64 d.x) (heap_setCell_same _ g (3 * 3 + 1) _ _ (.slice d.A d.n d.c) (heap_setCell_same w g (3 * 3) _ _ (.bool d.s) h))
theorem below_mput {B : Nat} {w w' : World} {g k : Nat} {d : Dy} (h : Below B w w') (hg : B ≤ g) : Below B w (mput w' g k d) :=
  ((h.setCell (p := ⟨g, 3 * k, none⟩) hg _).setCell (p := ⟨g, 3 * k + 1, none⟩) hg _).setCell (p := ⟨g, 3 * k + 2, none⟩) hg _
theorem mput_size (w : World) (g k : Nat) (d : Dy) : (mput w g k d).heap.size = w.heap.size := by simp [mput, World.setCell]
theorem Boxed.mput {w : World} {g k B : Nat} {d : Dy} {t : TypeId} {v : Value} (h : Boxed w B t v) (hne : B ≠ g) : Boxed (Proofs.Ytbankbehfjogpaa.mput w g k d) B t v :=
  (Below.heap_setCell _ ⟨g, 3 * k + 2, none⟩ _ B hne).trans ((Below.heap_setCell _ ⟨g, 3 * k + 1, none⟩ _ B hne).trans ((Below.heap_setCell _ ⟨g, 3 * k, none⟩ _ B hne).trans h))
theorem Mbox.mput_far {w : World} {g h k : Nat} {d : Dy} {D : Nat → Dy} (hm : Mbox w h D) (hne : h ≠ g) : Mbox (mput w g k d) h D :=
  (Below.heap_setCell _ ⟨g, 3 * k + 2, none⟩ _ h hne).trans ((Below.heap_setCell _ ⟨g, 3 * k + 1, none⟩ _ h hne).trans ((Below.heap_setCell _ ⟨g, 3 * k, none⟩ _ h hne).trans hm))

theorem Mk.mput {w : World} {e : TypeId} {B g k n c : Nat} {A : Option Addr} {f : Nat → Nat} {d : Dy} (h : Mk w e B A n c f) (hg : g < B) : Mk (Proofs.Ytbankbehfjogpaa.mput w g k d) e B A n c f := ((h.far_ hg _ _).far_ hg _ _).far_ hg _ _
theorem Owd.mput {w : World} {B g k : Nat} {M : Int} {d e : Dy} (h : Owd B w M e) (hg : g < B) : Owd B (Proofs.Ytbankbehfjogpaa.mput w g k d) M e := ⟨h.lim.mput hg, h.may, h.val⟩
theorem Twd.mput {w : World} {B g k : Nat} {d e r : Dy} (h : Twd B w e r) (hg : g < B) : Twd B (Proofs.Ytbankbehfjogpaa.mput w g k d) e r := ⟨h.lim.mput hg, h.s, h.n, h.x, h.f⟩

/-- The world behind a mass that is stored into its box. -/
def mstore (w : World) (g : Nat) (D : Nat → Dy) : World := w.setCells g 0 (mcells D).toList
theorem grown_setCells (g : Nat) : ∀ (vs : List Value) (o : Nat) (w : World), w.grownBy (w.setCells g o vs) (some g)
  | [], _, w => ⟨rfl, rfl, rfl, Nat.le_refl _, fun _ _ _ => rfl⟩
  | v :: vs, o, w => by
    rw [World.setCells]
    have h := grown_setCells g vs (o + 1) (w.setCell ⟨g, o, none⟩ v)
    refine ⟨h.os, h.tape, h.output, by simpa [World.setCell] using h.size, fun b hb hne => ?_⟩
    exact (h.block b (by simpa [World.setCell] using hb) hne).trans (Below.heap_setCell w ⟨g, o, none⟩ v b (by rintro rfl; exact hne rfl))
theorem grown_mstore (w : World) (g : Nat) (D : Nat → Dy) : w.grownBy (mstore w g D) (some g) := grown_setCells g _ 0 w
theorem heap_setCells (g : Nat) (t : TypeId) : ∀ (vs : List Value) (o : Nat) (w : World) (cs : Array Value), w.heap[g]? = some (.cells cs t (0, 0)) →
    ∃ cs' : Array Value, (w.setCells g o vs).heap[g]? = some (.cells cs' t (0, 0)) ∧ cs'.size = cs.size ∧ ∀ j, j < cs.size → cs'[j]? = if o ≤ j ∧ j < o + vs.length then vs[j - o]? else cs[j]?
  | [], o, w, cs, h => ⟨cs, h, rfl, fun j _ => by rw [if_neg (by simp <;> omega)]⟩
  | v :: vs, o, w, cs, h => by
    rw [World.setCells]
    obtain ⟨cs', h1, h2, h3⟩ := heap_setCells g t vs (o + 1) (w.setCell ⟨g, o, none⟩ v) _ (heap_setCell_same w g o cs t v h)
    refine ⟨cs', h1, by rw [h2, Array.size_setIfInBounds], fun j hj => ?_⟩
    rw [h3 j (by rw [Array.size_setIfInBounds]; exact hj), List.length_cons]
    by_cases h4 : o + 1 ≤ j ∧ j < o + 1 + vs.length
    · rw [if_pos h4, if_pos (by omega), show j - o = (j - (o + 1)) + 1 by omega, List.getElem?_cons_succ]
    · rw [if_neg h4, Array.getElem?_setIfInBounds]
      by_cases h5 : o = j
      · subst h5
        rw [if_pos rfl, if_pos hj, if_pos (by omega), Nat.sub_self, List.getElem?_cons_zero]
      · rw [if_neg h5, if_neg (by omega)]
theorem Mbox.store {w : World} {g : Nat} {D : Nat → Dy} (h : Mbox w g D) (E : Nat → Dy) : Mbox (mstore w g E) g E := by
  obtain ⟨cs', h1, h2, h3⟩ := heap_setCells g _ (mcells E).toList 0 w _ h
  have e : cs' = mcells E := by
    apply Array.ext_getElem?
    intro j
    have h12 : (mcells D).size = 12 := rfl
    by_cases hj : j < 12
    · rw [h3 j (by omega), if_pos ⟨Nat.zero_le _, by show j < 0 + 12; omega⟩, Nat.sub_zero, Array.getElem?_toList]
    · rw [Array.getElem?_eq_none (by omega), Array.getElem?_eq_none (by show 12 ≤ j; omega)]
  rw [e] at h1
  exact h1
theorem Mbox.there {w : World} {g : Nat} {D : Nat → Dy} (h : Mbox w g D) (E : Nat → Dy) : w.there g 0 (mcells E).size := fun j hj => by
  rw [Nat.zero_add]
  refine ⟨?_, h.frozen j⟩
  rw [cell_of_row w g j _ _ (0, 0) h]
  have : j < 12 := hj
  simp [this]
theorem mcells_one (E : Nat → Dy) : (mcells E).all (·.oneCell') = true := all_oneCell_toArray (cs := (mcells E).toList) (by intro v hv; simp at hv; rcases hv with rfl | rfl | rfl | rfl | rfl | rfl | rfl | rfl | rfl | rfl | rfl | rfl <;> rfl)

theorem keeps_mput {B g k : Nat} {w w' : World} {d : Dy} (h : KeepsFrom B w w') : KeepsFrom B w (mput w' g k d) := h.trans ((((KeepsOthers.setCell _ _ _).trans (KeepsOthers.setCell _ _ _)).trans (KeepsOthers.setCell _ _ _)).from _)
theorem Kb.mput {K : Nat → Prop} {A W : World} {g k : Nat} {d : Dy} (h : Kb K A W) (hl : ¬ K g) : Kb K A (Proofs.Ytbankbehfjogpaa.mput W g k d) :=
  ((h.setCell (p := ⟨g, 3 * k, none⟩) hl _).setCell (p := ⟨g, 3 * k + 1, none⟩) hl _).setCell (p := ⟨g, 3 * k + 2, none⟩) hl _

/-- No limbs lie in a mass's box. -/
theorem Mk.grown_box {w w' : World} {B g n c : Nat} {A : Option Addr} {f : Nat → Nat} {D : Nat → Dy} (h : Mk w 34 B A n c f) (hm : Mbox w g D) (hg : w.grownBy w' (some g)) : Mk w' 34 B A n c f :=
  ⟨h.cap, h.max, h.lt, h.out, by
    rcases h.own with h0 | ⟨b, cs, hA, hB, hh, hs, hc⟩
    · exact .inl h0
    · refine .inr ⟨b, cs, hA, hB, (hg.block b (lt_of_heap hh) ?_).trans hh, hs, hc⟩
      intro e
      injection e with e
      subst e
      unfold Mbox at hm
      rw [hm] at hh
      injection hh with hh
      injection hh with _ ht
      exact absurd ht (by decide)⟩
theorem Owd.grown_box {w w' : World} {B g : Nat} {M : Int} {d : Dy} {D : Nat → Dy} (h : Owd B w M d) (hm : Mbox w g D) (hg : w.grownBy w' (some g)) : Owd B w' M d := ⟨h.lim.grown_box hm hg, h.may, h.val⟩
theorem Mow.grown_box {w w' : World} {B g : Nat} {M : Nat → Int} {E D : Nat → Dy} (h : Mow B w M E) (hm : Mbox w g D) (hg : w.grownBy w' (some g)) : Mow B w' M E := fun k hk => (h k hk).grown_box hm hg
theorem grown_mput (w : World) (g k : Nat) (d : Dy) : w.grownBy (mput w g k d) (some g) :=
  ⟨rfl, rfl, rfl, Nat.le_of_eq (mput_size w g k d).symm, fun b _ hne => by
    have hb : b ≠ g := by rintro rfl; exact hne rfl
    exact (Below.heap_setCell _ ⟨g, 3 * k + 2, none⟩ _ b hb).trans ((Below.heap_setCell _ ⟨g, 3 * k + 1, none⟩ _ b hb).trans (Below.heap_setCell _ ⟨g, 3 * k, none⟩ _ b hb))⟩

theorem mass_size : (Try.prog.info? 26).map (·.size) = some 12 := by kernel_rfl
theorem mass_size_ (E : Nat → Dy) : (Try.prog.info? 26).map (·.size) = some (mcells E).size := mass_size
/-- A mass is loaded out of its box, and stored into it. -/
theorem wp_mload {ops : Array Oper} {rest : List Oper} {o : Oper} {a : Act} {w : World} {Q : Exit → Act → World → Prop} (hgd : o.guard = none) (x : Operand) (ho : o.op = .load 26 x)
    (g : Nat) (D : Nat → Dy) (hx : a.eval x = .pointer (some ⟨g, 0, none⟩)) (hg : Mbox w g D) (h : wpList Try.prog ops Q rest (a.put o.dst (.agg (mcells D))) w) : wpList Try.prog ops Q (o :: rest) a w :=
  wpList_load_row hgd _ x ho g hx _ _ _ _ hg Try.underlying26 rfl (mass_size_ D) h
/-- The same, behind a guard. -/
theorem wp_mload_g {ops : Array Oper} {rest : List Oper} {o : Oper} {a : Act} {w : World} {Q : Exit → Act → World → Prop} (hw : Region.wanted o (yielded ops a.tmps) = true) (x : Operand) (ho : o.op = .load 26 x)
    (g : Nat) (D : Nat → Dy) (hx : a.eval x = .pointer (some ⟨g, 0, none⟩)) (hg : Mbox w g D) (h : wpList Try.prog ops Q rest (a.put o.dst (.agg (mcells D))) w) : wpList Try.prog ops Q (o :: rest) a w :=
  wpList_step fun _ hK => by
    rw [if_pos hw]
    exact wp_load_row _ x ho g hx _ _ _ _ hg Try.underlying26 rfl (mass_size_ D) (hK _ _ h)
theorem wp_mstore {ops : Array Oper} {rest : List Oper} {o : Oper} {a : Act} {w : World} {Q : Exit → Act → World → Prop} (hgd : o.guard = none) (x y : Operand) (ho : o.op = .store 26 x y)
    (g : Nat) (D E : Nat → Dy) (hx : a.eval x = .pointer (some ⟨g, 0, none⟩)) (hy : a.eval y = .agg (mcells E)) (hg : Mbox w g D) (h : wpList Try.prog ops Q rest (a.put o.dst undef) (mstore w g E)) : wpList Try.prog ops Q (o :: rest) a w :=
  wpList_store_mid hgd _ x y ho g 0 (mcells E) hx hy (hg.there E) (mass_size_ E) (mcells_one E) h
theorem wp_mstore_ {ops : Array Oper} {rest : List Oper} {o : Oper} {a : Act} {w : World} {Q : Exit → Act → World → Prop} (hgd : o.guard = none) (x y : Operand) (ho : o.op = .store 26 x y)
    (g : Nat) (D E : Nat → Dy) (cs : Array Value) (hx : a.eval x = .pointer (some ⟨g, 0, none⟩)) (hy : a.eval y = .agg cs) (he : cs = mcells E) (hg : Mbox w g D) (h : wpList Try.prog ops Q rest (a.put o.dst undef) (mstore w g E)) : wpList Try.prog ops Q (o :: rest) a w :=
  wp_mstore hgd x y ho g D E hx (he ▸ hy) hg h
theorem wp_mzero {ops : Array Oper} {rest : List Oper} {o : Oper} {a : Act} {w : World} {Q : Exit → Act → World → Prop} (hgd : o.guard = none) (x y : Operand) (ho : o.op = .store 26 x y)
    (g : Nat) (D : Nat → Dy) (hx : a.eval x = .pointer (some ⟨g, 0, none⟩)) (hy : a.eval y = .agg #[.bool false, .slice none 0 0, .int .i64 0, .bool false, .slice none 0 0, .int .i64 0, .bool false, .slice none 0 0, .int .i64 0, .bool false, .slice none 0 0, .int .i64 0]) (hg : Mbox w g D) (h : wpList Try.prog ops Q rest (a.put o.dst undef) (mstore w g D0)) : wpList Try.prog ops Q (o :: rest) a w :=
  wp_mstore hgd x y ho g D D0 hx hy hg h
/-- The same, in a round. -/
theorem wpin_mzero {l n : Nat} {ops : Array Oper} {rest : List Oper} {o : Oper} {a : Act} {w : World} {Q : Exit → Act → World → Prop} (hgd : o.guard = none) (x y : Operand) (ho : o.op = .store 26 x y)
    (g : Nat) (D : Nat → Dy) (hx : a.eval x = .pointer (some ⟨g, 0, none⟩)) (hy : a.eval y = .agg #[.bool false, .slice none 0 0, .int .i64 0, .bool false, .slice none 0 0, .int .i64 0, .bool false, .slice none 0 0, .int .i64 0, .bool false, .slice none 0 0, .int .i64 0]) (hg : Mbox w g D) (h : wpListIn (Fence.wide.inRound l) n Try.prog ops Q rest (a.put o.dst undef) (mstore w g D0)) : wpListIn (Fence.wide.inRound l) n Try.prog ops Q (o :: rest) a w :=
  wpListIn_plain hgd fun _ hK => oper_in (fun c e => by rw [ho] at e; cases e) (wp_store_mid _ x y ho g 0 (mcells D0) hx hy (hg.there D0) (mass_size_ D0) (mcells_one D0) (hK _ _ h))
/-- A result that lies in one variable: a mass. -/
theorem mass_cell {fn : Func} {p : Tmp} (h : fn.results = #[.cell p 26]) (tmps : Array Value) (w : World) (g : Nat) (D : Nat → Dy) (hp : tmps.getD p undef = .pointer (some ⟨g, 0, none⟩)) (hg : Mbox w g D) :
    (results fn tmps).run Try.prog w = .ok (.agg (mcells D)) w := results_cell_row h tmps w g _ _ _ _ hp hg Try.underlying26 rfl mass_size
theorem results_cc {fn : Func} {p q : Tmp} {ty tz : TypeId} (h : fn.results = #[.cell p ty, .cell q tz]) (tmps : Array Value) (P : Program) (w : World) :
    (results fn tmps).run P w =
      ((asAddr (tmps.getD p undef)).run P w).andThen fun a w₁ => ((loadVar ty a).run P w₁).andThen fun x w₂ => ((asAddr (tmps.getD q undef)).run P w₂).andThen fun b w₃ => ((loadVar tz b).run P w₃).andThen fun y w₄ => .ok (.tuple #[x, y]) w₄ := by
  simp only [results, h]
  simp [Sem.run_bind, Result.andThen]
theorem load_errno {w : World} {k : Nat} {er : Int} (hk : Boxed w k 35 (.int .i64 er)) : (loadVar 35 ⟨k, 0, none⟩).run Try.prog w = .ok (.int .i64 er) w := by
  have hc := hk.cell
  simp [go_sem, hc]
/-- A mass and an error, each in a variable. -/
theorem mass_cells {fn : Func} {p u : Tmp} (h : fn.results = #[.cell p 26, .cell u 35]) (tmps : Array Value) (w : World) (g k : Nat) (D : Nat → Dy) (er : Int) (hp : tmps.getD p undef = .pointer (some ⟨g, 0, none⟩)) (hu : tmps.getD u undef = .pointer (some ⟨k, 0, none⟩)) (hg : Mbox w g D) (hk : Boxed w k 35 (.int .i64 er)) :
    (results fn tmps).run Try.prog w = .ok (.tuple #[.agg (mcells D), .int .i64 er]) w := by
  have e1 := run_loadVar_row w g _ 26 _ _ _ hg Try.underlying26 rfl mass_size
  have e2 := load_errno hk
  rw [results_cc h, hp, hu]
  simp only [asAddr, Result.andThen, Sem.run_pure, e1, e2]

end Go.Proofs.Ytbankbehfjogpaa


namespace Go.Proofs.Ytbankbehfjogpaa
open Go.RowKit

/-- Powers of two, kept shut. -/
def tw (k : Nat) : Nat := 2 ^ k
theorem tw_zero : tw 0 = 1 := rfl
theorem tw_succ (k : Nat) : tw (k + 1) = tw k * 2 := by unfold tw; rw [Nat.pow_succ]
theorem tw_pos (k : Nat) : 0 < tw k := by unfold tw; exact Nat.pow_pos (by omega)
theorem tw_add (j k : Nat) : tw (j + k) = tw j * tw k := by unfold tw; rw [Nat.pow_add]
theorem tw_mono {j k : Nat} (h : j ≤ k) : tw j ≤ tw k := by unfold tw; exact Nat.pow_le_pow_right (by omega) h
theorem tw_pw (k : Nat) : pw k = tw (32 * k) := by
  unfold tw pw
  rw [Nat.pow_mul]

/-- A number's digits. -/
def bt (V j : Nat) : Nat := V / tw j % 2
theorem bt_le (V j : Nat) : bt V j ≤ 1 := by unfold bt; omega
theorem bt_low {V k : Nat} (h : V < tw (k + 1)) (hz : bt V k = 0) : V < tw k := by
  unfold bt at hz
  rw [tw_succ] at h
  have hp := tw_pos k
  have h2 : V / tw k < 2 := (Nat.div_lt_iff_lt_mul hp).2 (by rw [Nat.mul_comm]; exact h)
  have h0 : V / tw k = 0 := by
    generalize V / tw k = q at *
    omega
  rcases Nat.lt_or_ge V (tw k) with hlt | hge
  · exact hlt
  · have := Nat.div_pos hge hp
    omega
theorem bt_high {V k : Nat} (hz : bt V k ≠ 0) : tw k ≤ V := by
  rcases Nat.lt_or_ge V (tw k) with hlt | hge
  · unfold bt at hz
    rw [Nat.div_eq_of_lt hlt] at hz
    exact absurd rfl hz
  · exact hge
theorem bt_out {V k : Nat} (h : V < tw k) : bt V k = 0 := by
  unfold bt
  rw [Nat.div_eq_of_lt h]

/-- The slice '.slice A n c' reads, in the world w, as the n lowest digits of V, which has no more. -/
structure Bits (w : World) (B : Nat) (A : Option Addr) (n c V : Nat) : Prop where
  cap : n ≤ c
  max : n ≤ 140737488355328
  nil : A = none → c = 0
  lt : V < tw n
  at_ : 0 < n → ∃ b off, A = some ⟨b, off, none⟩ ∧ b < B ∧ ∀ j, j < n → w.cell? ⟨b, off + j, none⟩ = some (.int .u8 (bt V j : Int))

theorem Bits.below {w w' : World} {B n c V : Nat} {A : Option Addr} (h : Bits w B A n c V) (hb : Below B w w') : Bits w' B A n c V :=
  ⟨h.cap, h.max, h.nil, h.lt, fun hn => by
    obtain ⟨b, off, rfl, hB, hc⟩ := h.at_ hn
    exact ⟨b, off, rfl, hB, fun j hj => (hb.cell (p := ⟨b, off + j, none⟩) hB).trans (hc j hj)⟩⟩
theorem Bits.mono {w : World} {B B' n c V : Nat} {A : Option Addr} (h : Bits w B A n c V) (hb : B ≤ B') : Bits w B' A n c V :=
  ⟨h.cap, h.max, h.nil, h.lt, fun hn => by
    obtain ⟨b, off, rfl, hB, hc⟩ := h.at_ hn
    exact ⟨b, off, rfl, by omega, hc⟩⟩
theorem Bits.cut {w : World} {B n m c V : Nat} {A : Option Addr} (h : Bits w B A n c V) (hm : m ≤ n) (hV : V < tw m) : Bits w B A m c V :=
  ⟨Nat.le_trans hm h.cap, Nat.le_trans hm h.max, h.nil, hV, fun hn => by
    obtain ⟨b, off, rfl, hB, hc⟩ := h.at_ (by omega)
    exact ⟨b, off, rfl, hB, fun j hj => hc j (by omega)⟩⟩

/-- The digits of V, none that is 0 at the end. -/
def Bt (w : World) (B V : Nat) (v : Value) : Prop := ∃ A n c, v = .slice A n c ∧ Bits w B A n c V ∧ (0 < n → tw (n - 1) ≤ V)

theorem Bt.below {w w' : World} {B V : Nat} {v : Value} (h : Bt w B V v) (hb : Below B w w') : Bt w' B V v := by
  obtain ⟨A, n, c, hv, hr, hl⟩ := h
  exact ⟨A, n, c, hv, hr.below hb, hl⟩
theorem Bt.mono {w : World} {B B' V : Nat} {v : Value} (h : Bt w B V v) (hb : B ≤ B') : Bt w B' V v := by
  obtain ⟨A, n, c, hv, hr, hl⟩ := h
  exact ⟨A, n, c, hv, hr.mono hb, hl⟩

end Go.Proofs.Ytbankbehfjogpaa


namespace Go.Proofs.Ytbankbehfjogpaa
open Go.RowKit

theorem bt_vl {f : Nat → Nat} {i n t : Nat} (hf : ∀ j, f j < 4294967296) (hi : i < n) (ht : t < 32) : bt (vl f n) (32 * i + t) = bt (f i) t := by
  obtain ⟨L, rfl⟩ : ∃ L, n = i + (1 + L) := ⟨n - i - 1, by omega⟩
  have ha := vl_lt (f := f) (k := i) (fun j _ => hf j)
  rw [vl_shift, vl_shift, show vl (fun j => f (i + j)) 1 = f i by simp [vl, pw]]
  generalize vl (fun j => f (i + (1 + j))) L = r
  generalize f i = x
  generalize vl f i = a at *
  unfold bt
  obtain ⟨d, hd⟩ : ∃ d, 32 = t + (1 + d) := ⟨31 - t, by omega⟩
  have e1 : pw 1 = tw t * (2 * tw d) := by
    rw [tw_pw, show 32 * 1 = t + (1 + d) by omega, tw_add, tw_add]
    rfl
  rw [tw_add, ← tw_pw, ← Nat.div_div_eq_div_mul, Nat.add_mul_div_left _ _ (pw_pos i), Nat.div_eq_of_lt ha, Nat.zero_add, e1, Nat.mul_assoc, Nat.add_mul_div_left _ _ (tw_pos t), Nat.mul_assoc, Nat.add_mul_mod_self_left]

/-- The first n digits of V, as cells. -/
def dg (V n : Nat) : List Value := (List.range n).map fun j => Value.int .u8 (bt V j : Int)
theorem dg_len (V n : Nat) : (dg V n).length = n := by simp [dg]
theorem dg_succ (V n : Nat) : dg V (n + 1) = dg V n ++ [Value.int .u8 (bt V n : Int)] := by simp [dg, List.range_succ]
theorem dg_at {V n j : Nat} (h : j < n) : (dg V n)[j]? = some (.int .u8 (bt V j : Int)) := by
  simp [dg, h]

/-- What is gathered of V's digits, in a row of the call's own. -/
def Row (w : World) (B V n : Nat) (v : Value) : Prop := w.ownsRow B 5 1 v n (dg V n)

theorem Row.nil (w : World) (B V : Nat) : Row w B V 0 (.slice none 0 0) := ⟨rfl, .inl ⟨rfl, rfl⟩⟩
theorem Row.shape {w : World} {B V n : Nat} {v : Value} (h : Row w B V n v) (hV : V < tw n) (hmax : n ≤ 140737488355328) : ∃ A c, v = .slice A n c ∧ Bits w w.heap.size A n c V := by
  obtain ⟨_, hor⟩ := h
  rcases hor with ⟨rfl, rfl⟩ | ⟨g, cap, cur, rfl, hg, hh, hn, hc, hs, ht⟩
  · exact ⟨none, 0, rfl, ⟨Nat.le_refl _, hmax, fun _ => rfl, hV, fun h => absurd h (by omega)⟩⟩
  · refine ⟨some ⟨g, 0, none⟩, cap, rfl, ⟨hn, hmax, fun h => (by cases h), hV, fun _ => ⟨g, 0, rfl, lt_of_heap hh, fun j hj => ?_⟩⟩⟩
    rw [Nat.zero_add, cell_of_row w g j cur 5 (0, 0) hh, ← Array.getElem?_toList]
    have e := dg_at (V := V) hj
    rw [← ht, List.getElem?_take, Nat.mul_one, if_pos hj] at e
    exact e

theorem info_u8 : (Try.prog.info? 5).map (fun i => (i.zero, i.size, i.bytes)) = some (some (.int .u8 0), 1, 1) := by kernel_rfl

/-- 'x = append(x, u)', x a row of the call's own, u one cell. -/
theorem wpList_append_one {P : Program} {ops : Array Oper} {rest : List Oper} {o : Oper} {a : Act} {Q : Exit → Act → World → Prop} (hgd : o.guard = none) (s x : Operand) (t : TypeId)
    (ho : o.op = .call { callee := .builtin .append, args := #[s, x], argTypes := #[t, t] }) (e : TypeId) (z : Value) (bytes : Nat) (ht : P.underlying t = some (.slice e))
    (hi : (P.info? e).map (fun i => (i.zero, i.size, i.bytes)) = some (some z, 1, bytes)) (hz : z.cells.size = 1) (hby : bytes ≤ 8)
    {w0 wr : World} {n : Nat} {v u : Value} {xs : List Value} (hs : a.eval s = v) (hx : a.eval x = .slice (some ⟨wr.heap.size, 0, none⟩) 1 1) (hown : wr.ownsRow w0.heap.size e 1 v n xs) (hbel : Below w0.heap.size w0 wr)
    (hu : u.oneCell' = true) (hn : n + 1 ≤ 17592186044416)
    (h : ∀ v' w', Hid (w'.ownsRow w0.heap.size e 1 v' (n + 1) (xs ++ [u])) → Hid (Below w0.heap.size w0 w') → wpList P ops Q rest (a.put o.dst v') w') : wpList P ops Q (o :: rest) a (wr.alloc (.cells #[u] e)) := by
  obtain ⟨i0, hi, hz0, hz1, hz2⟩ := info_one hi
  have hsz := hbel.size
  refine wpList_append_own _ hgd s x t ho w0.heap.size e i0 z 1 bytes ht hi hz0 hz1 hz2 hz (by decide) v n xs hs (hown.alloc _) ⟨wr.heap.size, 0, none⟩ 1 1 [u] hx rfl ?_ ?_ ?_ ?_ ?_ ?_
  · intro j y hj
    match j, hj with
    | 0, hj =>
      simp at hj
      subst hj
      exact Box.cell (Box.new wr e u)
  · intro y hy
    simp at hy
    subst hy
    exact hu
  · unfold maxLen
    omega
  · have : (n + 1) * bytes ≤ (n + 1) * 8 := Nat.mul_le_mul_left _ hby
    omega
  · simp
    omega
  · intro v' w' hown' hgr _
    refine h v' w' hown' ((hbel.alloc hsz _).grown hgr (by simp; omega) ?_)
    intro k hk
    rcases hown with ⟨_, ⟨rfl, _⟩ | ⟨g, cap, cur, rfl, hg, _⟩⟩
    · cases hk
    · injection hk with hk
      subst hk
      exact hg

theorem tw_half (x t : Nat) : x / tw (t + 1) = x / tw t / 2 := by rw [tw_succ, Nat.div_div_eq_div_mul]

end Go.Proofs.Ytbankbehfjogpaa


namespace Go.Proofs.Ytbankbehfjogpaa
open Go.RowKit

/-- A number's limbs. -/
def lb (V j : Nat) : Nat := V / pw j % 4294967296
theorem lb_lt (V j : Nat) : lb V j < 4294967296 := by unfold lb; omega
theorem lb_out {V q j : Nat} (h : V < pw q) (hj : q ≤ j) : lb V j = 0 := by
  unfold lb
  rw [Nat.div_eq_of_lt (Nat.lt_of_lt_of_le h (pw_mono hj))]
theorem vl_lb (V : Nat) : ∀ q, vl (lb V) q = V % pw q
  | 0 => by simp [vl, pw, Nat.mod_one]
  | q + 1 => by rw [vl_succ, vl_lb V q, pw_succ, Nat.mod_mul, Nat.mul_comm (pw q)]; rfl
theorem vl_lb_all {V q : Nat} (h : V < pw q) : vl (lb V) q = V := by rw [vl_lb, Nat.mod_eq_of_lt h]

theorem limb_step {V q t : Nat} (h2 : t < 32 * q + 32) : V % tw (32 * q + 32) / tw t = 2 * (V % tw (32 * q + 32) / tw (t + 1)) + bt V t := by
  obtain ⟨d, hd⟩ : ∃ d, 32 * q + 32 = t + (1 + d) := ⟨32 * q + 31 - t, by omega⟩
  rw [tw_half, hd, tw_add, Nat.mod_mul_right_div_self, tw_add, show tw 1 = 2 from rfl]
  unfold bt
  have h := Nat.mod_mul_right_mod (V / tw t) 2 (tw d)
  generalize V / tw t % (2 * tw d) = a at *
  omega
theorem limb_end (V q : Nat) : V % tw (32 * q + 32) / tw (32 * q) = lb V q := by
  rw [tw_add, Nat.mod_mul_right_div_self, ← tw_pw]
  rfl
theorem limb_lt {V q t : Nat} (h : 32 * q ≤ t) : V % tw (32 * q + 32) / tw t < 4294967296 := by
  have h1 := lb_lt V q
  rw [← limb_end] at h1
  exact Nat.lt_of_le_of_lt (Nat.div_le_div_left (tw_mono h) (tw_pos _)) h1
theorem limb_start {V n q t : Nat} (hV : V < tw n) (h : t = n ∨ t = 32 * q + 32) : V % tw (32 * q + 32) / tw t = 0 := by
  apply Nat.div_eq_of_lt
  rcases h with rfl | rfl
  · exact Nat.lt_of_le_of_lt (Nat.mod_le _ _) hV
  · exact Nat.mod_lt _ (tw_pos _)

/-- The first n limbs of V, as cells. -/
def lg (V n : Nat) : List Value := (List.range n).map fun j => Value.int .u32 (lb V j : Int)
theorem lg_succ (V n : Nat) : lg V (n + 1) = lg V n ++ [Value.int .u32 (lb V n : Int)] := by simp [lg, List.range_succ]
theorem lg_at {V n j : Nat} (h : j < n) : (lg V n)[j]? = some (.int .u32 (lb V j : Int)) := by
  simp [lg, h]

/-- What is gathered of V's limbs, in a row of the call's own. -/
def Lrow (w : World) (B V n : Nat) (v : Value) : Prop := w.ownsRow B 34 1 v n (lg V n)
theorem Lrow.nil (w : World) (B V : Nat) : Lrow w B V 0 (.slice none 0 0) := ⟨rfl, .inl ⟨rfl, rfl⟩⟩
theorem Lrow.shape {w : World} {B V n : Nat} {v : Value} (h : Lrow w B V n v) (hV : V < pw n) (hmax : n ≤ 140737488355328) : ∃ A c, v = .slice A n c ∧ Rd w w.heap.size A n c (lb V) := by
  obtain ⟨_, hor⟩ := h
  rcases hor with ⟨rfl, rfl⟩ | ⟨g, cap, cur, rfl, hg, hh, hn, hc, hs, ht⟩
  · exact ⟨none, 0, rfl, ⟨Nat.le_refl _, hmax, lb_lt V, fun j hj => lb_out hV hj, fun h => absurd h (by omega)⟩⟩
  · refine ⟨some ⟨g, 0, none⟩, cap, rfl, ⟨hn, hmax, lb_lt V, fun j hj => lb_out hV hj, fun _ => ⟨g, 0, rfl, lt_of_heap hh, fun j hj => ?_⟩⟩⟩
    rw [Nat.zero_add, cell_of_row w g j cur 34 (0, 0) hh, ← Array.getElem?_toList]
    have e := lg_at (V := V) hj
    rw [← ht, List.getElem?_take, Nat.mul_one, if_pos hj] at e
    exact e


/-- A number's limbs, however many, none that is 0 at the end. -/
def Lm (w : World) (B V : Nat) (v : Value) : Prop := ∃ A k c h, v = .slice A k c ∧ Rd w B A k c h ∧ (0 < k → h (k - 1) ≠ 0) ∧ vl h k = V

theorem Lm.below {w w' : World} {B V : Nat} {v : Value} (h : Lm w B V v) (hb : Below B w w') : Lm w' B V v := by
  obtain ⟨A, k, c, f, hv, hr, hl⟩ := h
  exact ⟨A, k, c, f, hv, hr.below hb, hl⟩
theorem Lm.mono {w : World} {B B' V : Nat} {v : Value} (h : Lm w B V v) (hb : B ≤ B') : Lm w B' V v := by
  obtain ⟨A, k, c, f, hv, hr, hl⟩ := h
  exact ⟨A, k, c, f, hv, hr.mono hb, hl⟩

theorem limbs_end {V n q : Nat} (hV : V < tw n) (hl : 0 < n → tw (n - 1) ≤ V) (h1 : n ≤ 32 * q) (h2 : 32 * q ≤ n + 31) : V < pw q ∧ (0 < q → lb V (q - 1) ≠ 0) := by
  have a : V < pw q := by
    rw [tw_pw]
    exact Nat.lt_of_lt_of_le hV (tw_mono h1)
  refine ⟨a, fun hq => ?_⟩
  obtain ⟨p, rfl⟩ : ∃ p, q = p + 1 := ⟨q - 1, by omega⟩
  have b : pw p ≤ V := by
    rw [tw_pw]
    exact Nat.le_trans (tw_mono (by omega)) (hl (by omega))
  rw [Nat.add_sub_cancel]
  unfold lb
  rw [pw_succ] at a
  have c := Nat.div_pos b (pw_pos p)
  have d : V / pw p < 4294967296 := (Nat.div_lt_iff_lt_mul (pw_pos p)).2 (by rw [Nat.mul_comm]; exact a)
  generalize V / pw p = x at *
  omega

end Go.Proofs.Ytbankbehfjogpaa


namespace Go.Proofs.Ytbankbehfjogpaa
open Go.RowKit

end Go.Proofs.Ytbankbehfjogpaa


namespace Go.Proofs.Ytbankbehfjogpaa
open Go.RowKit

theorem lm_40 {n V : Nat} {h : Nat → Nat} (hlt : ∀ j, h j < 4294967296) (h1 : 0 < n → h (n - 1) ≠ 0) (hV : vl h n = V) : n ≤ 40 ↔ V < pw 40 := by
  subst hV
  constructor
  · intro hn
    exact Nat.lt_of_lt_of_le (vl_lt fun j _ => hlt j) (pw_mono hn)
  · intro hV
    rcases Nat.lt_or_ge 40 n with h2 | h2
    · have a := vl_ge (f := h) (k := n) (by omega) (h1 (by omega))
      have b : pw 40 ≤ pw (n - 1) := pw_mono (by omega)
      omega
    · exact h2

theorem lm_val {w : World} {V : Nat} {v : Value} (h : Lm w w.heap.size V v) (hV : V < pw 40) : Val w V v := by
  obtain ⟨A, n, c, f, rfl, hr, hl, hv⟩ := h
  exact ⟨A, n, c, f, rfl, hr, ⟨(lm_40 hr.lt hl hv).2 hV, hl⟩, hv⟩
theorem Val.lm {w : World} {V : Nat} {v : Value} (h : Val w V v) : Lm w w.heap.size V v := by
  obtain ⟨A, n, c, f, rfl, hr, hf, hv⟩ := h
  exact ⟨A, n, c, f, rfl, hr, hf.2, hv⟩

end Go.Proofs.Ytbankbehfjogpaa


namespace Go.Proofs.Ytbankbehfjogpaa
open Go.RowKit

/-- 'append(x, y...)', x a row of the call's own, y read from wherever, or nil. -/
theorem wpList_append_src {P : Program} {ops : Array Oper} {rest : List Oper} {o : Oper} {a : Act} {Q : Exit → Act → World → Prop} (hgd : o.guard = none) (s x : Operand) (t : TypeId)
    (ho : o.op = .call { callee := .builtin .append, args := #[s, x], argTypes := #[t, t] }) (e : TypeId) (z : Value) (bytes : Nat) (ht : P.underlying t = some (.slice e))
    (hi : (P.info? e).map (fun i => (i.zero, i.size, i.bytes)) = some (some z, 1, bytes)) (hz : z.cells.size = 1) (hby : bytes ≤ 8)
    {w : World} {B n m c : Nat} {v : Value} {xs news : List Value} {A : Option Addr} (hs : a.eval s = v) (hx : a.eval x = .slice A m c) (hown : w.ownsRow B e 1 v n xs) (hB : B ≤ w.heap.size)
    (hl : news.length = m) (hnil : A = none → m = 0 ∧ c = 0) (hcells : ∀ p, A = some p → ∀ j u, news[j]? = some u → w.cell? (p.add j) = some u) (hu : ∀ u ∈ news, u.oneCell' = true) (hn : n + m ≤ 17592186044416)
    (h : ∀ v' w', Hid (w'.ownsRow B e 1 v' (n + m) (xs ++ news)) → Hid (Below B w w') → wpList P ops Q rest (a.put o.dst v') w') : wpList P ops Q (o :: rest) a w := by
  obtain ⟨i0, hi, hz0, hz1, hz2⟩ := info_one hi
  cases A with
  | none =>
    obtain ⟨rfl, rfl⟩ := hnil rfl
    obtain rfl : news = [] := List.length_eq_zero_iff.1 hl
    refine wpList_append_own_none hgd s x t ho B e i0 1 ht hi v n xs hs hown hx ?_
    have hh := h v w
    rw [List.append_nil, Nat.add_zero] at hh
    exact hh hown (Below.refl _ _)
  | some p =>
    refine wpList_append_own _ hgd s x t ho B e i0 z 1 bytes ht hi hz0 hz1 hz2 hz (by decide) v n xs hs hown p m c news hx (by omega) (hcells p rfl) hu ?_ ?_ hB ?_
    · unfold maxLen
      omega
    · have : (n + m) * bytes ≤ (n + m) * 8 := Nat.mul_le_mul_left _ hby
      omega
    · intro v' w' hown' hgr _
      refine h v' w' hown' ((Below.refl _ _).grown hgr hB ?_)
      intro k hk
      rcases hown with ⟨_, ⟨rfl, _⟩ | ⟨g, cap, cur, rfl, hg, _⟩⟩
      · cases hk
      · injection hk with hk
        subst hk
        exact hg

/-- 'append([]T{}, y...)': what is handed back is of the call's own, and reads as y does. -/
theorem wpList_append_copy {P : Program} {ops : Array Oper} {rest : List Oper} {o : Oper} {a : Act} {Q : Exit → Act → World → Prop} (hgd : o.guard = none) (s x : Operand) (t : TypeId)
    (ho : o.op = .call { callee := .builtin .append, args := #[s, x], argTypes := #[t, t] }) (e : TypeId) (z : Value) (bytes : Nat) (ht : P.underlying t = some (.slice e))
    (hi : (P.info? e).map (fun i => (i.zero, i.size, i.bytes)) = some (some z, 1, bytes)) (hz : z.cells.size = 1) (hby : bytes ≤ 8)
    {w : World} {m c : Nat} {news : List Value} {A : Option Addr} (hs : a.eval s = .slice (some ⟨w.heap.size, 0, none⟩) 0 0) (hx : a.eval x = .slice A m c)
    (hl : news.length = m) (hnil : A = none → m = 0 ∧ c = 0) (hcells : ∀ p, A = some p → ∀ j u, news[j]? = some u → w.cell? (p.add j) = some u) (hu : ∀ u ∈ news, u.oneCell' = true) (hn : m ≤ 17592186044416)
    (h : ∀ v' w', Hid (w'.ownsRow w.heap.size e 1 v' m news) → Hid (Below w.heap.size w w') → wpList P ops Q rest (a.put o.dst v') w') : wpList P ops Q (o :: rest) a (w.alloc (.cells #[] e)) := by
  have bel : Below w.heap.size w (w.alloc (.cells #[] e)) := (Below.refl _ w).alloc (Nat.le_refl _) _
  refine wpList_append_src hgd s x t ho e z bytes ht hi hz hby (B := w.heap.size) (n := 0) (xs := []) hs hx ⟨rfl, .inr ⟨w.heap.size, 0, #[], rfl, Nat.le_refl _, heap_alloc_new w _, Nat.le_refl _, by unfold maxLen; omega, rfl, rfl⟩⟩ (by simp) hl hnil ?_ hu (by omega) ?_
  · intro p hp j u hj
    have hc := hcells p hp j u hj
    have hb : (p.add j).block < w.heap.size := block_lt_of_cell hc
    exact (bel.cell hb).trans hc
  · intro v' w' hown' hbel'
    rw [Nat.zero_add, List.nil_append] at hown'
    exact h v' w' hown' (bel.trans hbel'.out)

/-- A row of the call's own, its cells the limbs f. -/
theorem rd_of_row {w : World} {B n : Nat} {v : Value} {f : Nat → Nat} (h : w.ownsRow B 34 1 v n ((List.range n).map fun j => Value.int .u32 (f j : Int))) (hmax : n ≤ 140737488355328) (hlt : ∀ j, f j < 4294967296) (hout : ∀ j, n ≤ j → f j = 0) :
    ∃ A c, v = .slice A n c ∧ Rd w w.heap.size A n c f := by
  obtain ⟨_, hor⟩ := h
  rcases hor with ⟨rfl, rfl⟩ | ⟨g, cap, cur, rfl, hg, hh, hn, hc, hs, ht⟩
  · exact ⟨none, 0, rfl, ⟨Nat.le_refl _, hmax, hlt, hout, fun h => absurd h (by omega)⟩⟩
  · refine ⟨some ⟨g, 0, none⟩, cap, rfl, ⟨hn, hmax, hlt, hout, fun _ => ⟨g, 0, rfl, lt_of_heap hh, fun j hj => ?_⟩⟩⟩
    rw [Nat.zero_add, cell_of_row w g j cur 34 (0, 0) hh, ← Array.getElem?_toList]
    have e : ((List.range n).map fun j => Value.int .u32 (f j : Int))[j]? = some (.int .u32 (f j : Int)) := by simp [hj]
    rw [← ht, List.getElem?_take, Nat.mul_one, if_pos hj] at e
    exact e

theorem cells_of_rd {w : World} {B n c : Nat} {A : Option Addr} {f : Nat → Nat} (h : Rd w B A n c f) : ∀ p, A = some p → ∀ (j : Nat) (u : Value), ((List.range n).map fun j => Value.int .u32 (f j : Int))[j]? = some u → w.cell? (p.add j) = some u := by
  intro p hp j u hj
  have hjn : j < n := by
    rcases Nat.lt_or_ge j n with h | h
    · exact h
    · rw [List.getElem?_eq_none (by simpa using h)] at hj; cases hj
  obtain ⟨b, off, rfl, _, hc⟩ := h.at_ (by omega)
  injection hp with hp
  subst hp
  simp [hjn] at hj
  subst hj
  have : (⟨b, off, none⟩ : Addr).add j = ⟨b, off + j, none⟩ := by unfold Addr.add; simp
  rw [this]
  exact hc j hjn


end Go.Proofs.Ytbankbehfjogpaa

