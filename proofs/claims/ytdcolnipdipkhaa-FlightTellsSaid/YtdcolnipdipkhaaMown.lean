/- Masses: words for what is handed in, and for what is answered. -/
import Derived.Test.YtdcolnipdipkhaaVaf
namespace Go.Proofs.Ytdcolnipdipkhaa
set_option maxRecDepth 100000
open Go.RowKit Go.Shelf

/-- A dyad's value. -/
abbrev dyv (d : Dy) : Value := .agg #[.bool d.s, .slice d.A d.n d.c, .int .i64 d.x]
/-- The dyad d reads: it may be just if q; then it is M. -/
structure Dyr (w : World) (q : Prop) (M : Int) (d : Dy) : Prop where
  rd : Rd w w.heap.size d.A d.n d.c d.f
  may : q ↔ DMay d.s d.n d.f d.x
  val : q → ∃ X : Nat, d.x = (X : Int) ∧ M = dv d.s (vl d.f d.n) X
  nil : d.A = none → d.n = 0 ∧ d.c = 0
section
variable {w w' : World} {q : Prop} {M : Int} {d : Dy} {B : Nat}
theorem Dyr.arg (h : Dyr w q M d) : DArg w q M (dyv d) := ⟨_, _, _, _, _, _, rfl, h.rd, h.may, h.val⟩
theorem Dyr.below (h : Dyr w q M d) (hb : Below w.heap.size w w') : Dyr w' q M d := ⟨(h.rd.below hb).mono hb.size, h.may, h.val, h.nil⟩
theorem Dyr.zero (w : World) : Dyr w True 0 ⟨false, none, 0, 0, 0, fun _ => 0⟩ :=
  ⟨Rd.nil w _, ⟨fun _ => ⟨⟨by simp, fun h => absurd h (by simp)⟩, by simp, by simp, fun _ => rfl, fun h => absurd h (by simp)⟩, fun _ => trivial⟩, fun _ => ⟨0, rfl, by simp [vl, dv, num]⟩, fun _ => ⟨rfl, rfl⟩⟩
theorem Dyr.sure (h : Dyr w q M d) (hq : q) : Dyr w True M d := ⟨h.rd, ⟨fun _ => h.may.1 hq, fun _ => trivial⟩, fun _ => h.val hq, h.nil⟩
/-- The dyad d is of the call's own memory, from block B on; it is M. -/
structure Owd (B : Nat) (w : World) (M : Int) (d : Dy) : Prop where
  lim : Mk w 70 B d.A d.n d.c d.f
  may : DMay d.s d.n d.f d.x
  val : ∃ X : Nat, d.x = (X : Int) ∧ Canon d.s (vl d.f d.n) X ∧ X ≤ 1024 ∧ M = dv d.s (vl d.f d.n) X
theorem Mk.nil_of {e : TypeId} {A : Option Addr} {n c : Nat} {f : Nat → Nat} (h : Mk w e B A n c f) (hA : A = none) : n = 0 ∧ c = 0 := by
  rcases h.own with ⟨_, h0, h1⟩ | ⟨g, cs, hA2, _⟩
  · exact ⟨h0, h1⟩
  · rw [hA] at hA2
    cases hA2
theorem Owd.own (h : Owd B w M d) : Dn B w M (dyv d) := by
  obtain ⟨X, hx, hc, hX, rfl⟩ := h.val
  exact ⟨d.s, _, X, vl d.f d.n, by rw [← hx], ⟨d.A, d.n, d.c, d.f, rfl, h.lim, h.may.1, rfl⟩, hc, hX, rfl⟩
theorem Owd.read (h : Owd B w M d) : Dyr w True M d := by
  obtain ⟨X, hx, hc, hX, rfl⟩ := h.val
  exact ⟨h.lim.rd, ⟨fun _ => h.may, fun _ => trivial⟩, fun _ => ⟨X, hx, rfl⟩, h.lim.nil_of⟩
theorem Dn.own {v : Value} (h : Dn B w M v) : ∃ d, v = dyv d ∧ Owd B w M d := by
  obtain ⟨s, u, X, V, rfl, hn, hc, hX, hd⟩ := h
  obtain ⟨A, n, c, f, rfl, hm, hf, rfl⟩ := hn
  exact ⟨⟨s, A, n, c, (X : Int), f⟩, rfl, hm, canon_may hf hc hX, X, rfl, hc, hX, hd.symm⟩
theorem Mk.grown {e : TypeId} {A : Option Addr} {n c r : Nat} {f : Nat → Nat} (h : Mk w e B A n c f) (hg : w.grownBy w' (some r)) (hr : r < B) : Mk w' e B A n c f :=
  ⟨h.cap, h.max, h.lt, h.out, by
    rcases h.own with h0 | ⟨g, cs, hA, hB, hh, hs, hc⟩
    · exact .inl h0
    · exact .inr ⟨g, cs, hA, hB, (hg.block g (lt_of_heap hh) (by intro e; injection e with e; omega)).trans hh, hs, hc⟩⟩
theorem Mk.far_ {e : TypeId} {g n c : Nat} {A : Option Addr} {f : Nat → Nat} (h : Mk w e B A n c f) (hg : g < B) (j : Nat) (u : Value) : Mk (w.setCell ⟨g, j, none⟩ u) e B A n c f :=
  ⟨h.cap, h.max, h.lt, h.out, by
    rcases h.own with h0 | ⟨k, cs, hA, hk, hh, hs, hc⟩
    · exact .inl h0
    · exact .inr ⟨k, cs, hA, hk, (Below.heap_setCell w ⟨g, j, none⟩ u k (by show k ≠ g; omega)).trans hh, hs, hc⟩⟩
theorem Owd.below (h : Owd B w M d) (hb : Below w.heap.size w w') : Owd B w' M d := ⟨h.lim.below hb (Nat.le_refl _), h.may, h.val⟩
theorem Owd.mono {B' : Nat} (h : Owd B w M d) (hB : B' ≤ B) : Owd B' w M d := ⟨h.lim.mono hB, h.may, h.val⟩
theorem Owd.grown {r : Nat} (h : Owd B w M d) (hg : w.grownBy w' (some r)) (hr : r < B) : Owd B w' M d := ⟨h.lim.grown hg hr, h.may, h.val⟩
theorem Owd.zero (B : Nat) (w : World) : Owd B w 0 ⟨false, none, 0, 0, 0, fun _ => 0⟩ :=
  ⟨Mk.nil w _ B, ⟨⟨by simp, fun h => absurd h (by simp)⟩, by simp, by simp, fun _ => rfl, fun h => absurd h (by simp)⟩, 0, rfl, ⟨fun _ => ⟨rfl, rfl⟩, fun h => absurd h (by omega)⟩, by omega, by simp [vl, dv, num]⟩
/-- r is d's twin, of the call's own memory. -/
structure Twd (B : Nat) (w : World) (d r : Dy) : Prop where
  lim : Mk w 70 B r.A r.n r.c r.f
  s : r.s = d.s
  n : r.n = d.n
  x : r.x = d.x
  f : r.f = d.f
variable {r : Dy}
theorem Twd.below (h : Twd B w d r) (hb : Below w.heap.size w w') : Twd B w' d r := ⟨h.lim.below hb (Nat.le_refl _), h.s, h.n, h.x, h.f⟩
theorem Twd.mono {B' : Nat} (h : Twd B w d r) (hB : B' ≤ B) : Twd B' w d r := ⟨h.lim.mono hB, h.s, h.n, h.x, h.f⟩
theorem Twd.grown {k : Nat} (h : Twd B w d r) (hg : w.grownBy w' (some k)) (hr : k < B) : Twd B w' d r := ⟨h.lim.grown hg hr, h.s, h.n, h.x, h.f⟩
/-- What d is, its twin is. -/
theorem Twd.read {w0 : World} (h : Twd B w d r) (k : Dyr w0 q M d) : Dyr w q M r := by
  refine ⟨h.lim.rd, ?_, ?_, h.lim.nil_of⟩
  · rw [h.s, h.n, h.x, h.f]; exact k.may
  · rw [h.s, h.n, h.x, h.f]; exact k.val
theorem Twd.own {B0 : Nat} {w0 : World} (h : Twd B w d r) (k : Owd B0 w0 M d) : Owd B w M r := by
  refine ⟨h.lim, ?_, ?_⟩
  · rw [h.s, h.n, h.x, h.f]; exact k.may
  · rw [h.s, h.n, h.x, h.f]; exact k.val
end

theorem Twd.mow {B : Nat} {w w0 : World} {q : Prop} {M : Int} {d r : Dy} (h : Twd B w d r) (k : Dyr w0 q M d) (hq : q) : Owd B w M r := by
  obtain ⟨X, hx, hM⟩ := k.val hq
  have hm := k.may.1 hq
  obtain ⟨X', hx', c1, l1⟩ := may_canon hm k.rd.out
  obtain rfl : X = X' := by omega
  refine ⟨h.lim, ?_, X, ?_, ?_, l1, ?_⟩
  · rw [h.s, h.n, h.x, h.f]; exact hm
  · rw [h.x]; exact hx
  · rw [h.s, h.n, h.f]; exact c1
  · rw [h.s, h.n, h.f]; exact hM
/-- All four. -/
def All4 (q : Nat → Prop) : Prop := ∀ k, k < 4 → q k
/-- A mass that was handed in: part k may be just if q k; then it is M k. -/
def Mar (w : World) (q : Nat → Prop) (M : Nat → Int) (D : Nat → Dy) : Prop := ∀ k, k < 4 → Dyr w (q k) (M k) (D k)
/-- A mass of the call's own. -/
def Mow (B : Nat) (w : World) (M : Nat → Int) (D : Nat → Dy) : Prop := ∀ k, k < 4 → Owd B w (M k) (D k)
section
variable {w w' : World} {q : Nat → Prop} {M : Nat → Int} {D : Nat → Dy} {B : Nat}
theorem Mar.below (h : Mar w q M D) (hb : Below w.heap.size w w') : Mar w' q M D := fun k hk => (h k hk).below hb
theorem Mow.below (h : Mow B w M D) (hb : Below w.heap.size w w') : Mow B w' M D := fun k hk => (h k hk).below hb
theorem Mow.mono {B' : Nat} (h : Mow B w M D) (hB : B' ≤ B) : Mow B' w M D := fun k hk => (h k hk).mono hB
theorem Mow.mar (h : Mow B w M D) : Mar w (fun _ => True) M D := fun k hk => (h k hk).read
theorem Mar.mrd (h : Mar w q M D) : Mrd w w.heap.size D := fun k hk => (h k hk).rd
theorem Mar.may (h : Mar w q M D) : All4 q ↔ MMay D := ⟨fun ha k hk => (h k hk).may.1 (ha k hk), fun hm k hk => (h k hk).may.2 (hm k hk)⟩
end
/-- The mass of nothing. -/
def D0 : Nat → Dy := fun _ => ⟨false, none, 0, 0, 0, fun _ => 0⟩
theorem Mow.zero (B : Nat) (w : World) : Mow B w (fun _ => 0) D0 := fun _ _ => Owd.zero B w

/-- The error where the parts M are to be told. -/
def Merr (M : Nat → Int) (er : Int) : Prop := (All4 (fun k => Okay (M k)) ∧ er = 0) ∨ (¬ All4 (fun k => Okay (M k)) ∧ er = 10)
/-- The error of a call on masses: bad ones first, then 'over'. -/
def Merrs (p : Prop) (M : Nat → Int) (er : Int) : Prop := (p → Merr M er) ∧ (¬ p → er = 8)
theorem Merr.uniq {M : Nat → Int} {a b : Int} (h : Merr M a) (k : Merr M b) : a = b := by
  rcases h with ⟨h, rfl⟩ | ⟨h, rfl⟩ <;> rcases k with ⟨k, rfl⟩ | ⟨k, rfl⟩
  · rfl
  · exact absurd h k
  · exact absurd k h
  · rfl
theorem Merrs.good {p : Prop} {M : Nat → Int} {er : Int} (h : Merrs p M er) (hp : p) (ho : All4 (fun k => Okay (M k))) : er = 0 := (h.1 hp).uniq (.inl ⟨ho, rfl⟩)
theorem Merrs.zero {p : Prop} {M : Nat → Int} (h : Merrs p M 0) : p ∧ All4 (fun k => Okay (M k)) := by
  by_cases hp : p
  · rcases h.1 hp with ⟨ho, _⟩ | ⟨_, h0⟩
    · exact ⟨hp, ho⟩
    · cases h0
  · have := h.2 hp
    cases this
/-- What is told beside an error. -/
def resM (er : Int) (M : Nat → Int) : Nat → Int := if er = 0 then M else fun _ => 0
theorem resM_ok {er : Int} {M : Nat → Int} (h : er = 0) : resM er M = M := if_pos h
theorem resM_bad {er : Int} {M : Nat → Int} (h : er ≠ 0) : resM er M = fun _ => 0 := if_neg h
/-- What a call hands back that answers a mass and an error. -/
def MRes (w : World) (E : Int → Prop) (M : Nat → Int) (e : Ending) (w' : World) : Prop := ∃ D er, e = .returned (.tuple #[.agg (mcells D), .int .i64 er]) ∧ Hid (E er) ∧ Hid (Mow w.heap.size w' (resM er M) D) ∧ Hid (Below w.heap.size w w')

theorem Mbox.frozen {w : World} {g : Nat} {M : Nat → Dy} (h : Mbox w g M) (j : Nat) : w.frozen? ⟨g, j, none⟩ = false := frozen_of_row w g j _ _ h
/-- One part is written over. -/
def updD (D : Nat → Dy) (k : Nat) (d : Dy) : Nat → Dy := fun j => if j = k then d else D j
theorem updD_same (D : Nat → Dy) (k : Nat) (d : Dy) : updD D k d k = d := if_pos rfl
theorem updD_ne (D : Nat → Dy) {k j : Nat} (d : Dy) (h : j ≠ k) : updD D k d j = D j := if_neg h
/-- The world behind a part that is stored into a mass's box. -/
def mput (w : World) (g k : Nat) (d : Dy) : World := ((w.setCell ⟨g, 3 * k, none⟩ (.bool d.s)).setCell ⟨g, 3 * k + 1, none⟩ (.slice d.A d.n d.c)).setCell ⟨g, 3 * k + 2, none⟩ (.int .i64 d.x)
theorem Mbox.put {w : World} {g k : Nat} {D : Nat → Dy} (h : Mbox w g D) (hk : k < 4) (d : Dy) : Mbox (mput w g k d) g (updD D k d) := by
  have hc : k = 0 ∨ k = 1 ∨ k = 2 ∨ k = 3 := by omega
  rcases hc with rfl | rfl | rfl | rfl
  · exact heap_setCell_same _ g (3 * 0 + 2) _ _ (.int .i64 d.x) (heap_setCell_same _ g (3 * 0 + 1) _ _ (.slice d.A d.n d.c) (heap_setCell_same w g (3 * 0) _ _ (.bool d.s) h))
  · exact heap_setCell_same _ g (3 * 1 + 2) _ _ (.int .i64 d.x) (heap_setCell_same _ g (3 * 1 + 1) _ _ (.slice d.A d.n d.c) (heap_setCell_same w g (3 * 1) _ _ (.bool d.s) h))
  · exact heap_setCell_same _ g (3 * 2 + 2) _ _ (.int .i64 d.x) (heap_setCell_same _ g (3 * 2 + 1) _ _ (.slice d.A d.n d.c) (heap_setCell_same w g (3 * 2) _ _ (.bool d.s) h))
  · exact heap_setCell_same _ g (3 * 3 + 2) _ _ (.int .i64 d.x) (heap_setCell_same _ g (3 * 3 + 1) _ _ (.slice d.A d.n d.c) (heap_setCell_same w g (3 * 3) _ _ (.bool d.s) h))
theorem below_mput {B : Nat} {w w' : World} {g k : Nat} {d : Dy} (h : Below B w w') (hg : B ≤ g) : Below B w (mput w' g k d) :=
  ((h.setCell (p := ⟨g, 3 * k, none⟩) hg _).setCell (p := ⟨g, 3 * k + 1, none⟩) hg _).setCell (p := ⟨g, 3 * k + 2, none⟩) hg _
theorem mput_size (w : World) (g k : Nat) (d : Dy) : (mput w g k d).heap.size = w.heap.size := by simp [mput, World.setCell]
theorem Boxed.mput {w : World} {g k B : Nat} {d : Dy} {t : TypeId} {v : Value} (h : Boxed w B t v) (hne : B ≠ g) : Boxed (Proofs.Ytdcolnipdipkhaa.mput w g k d) B t v :=
  (Below.heap_setCell _ ⟨g, 3 * k + 2, none⟩ _ B hne).trans ((Below.heap_setCell _ ⟨g, 3 * k + 1, none⟩ _ B hne).trans ((Below.heap_setCell _ ⟨g, 3 * k, none⟩ _ B hne).trans h))
theorem Mbox.mput_far {w : World} {g h k : Nat} {d : Dy} {D : Nat → Dy} (hm : Mbox w h D) (hne : h ≠ g) : Mbox (mput w g k d) h D :=
  (Below.heap_setCell _ ⟨g, 3 * k + 2, none⟩ _ h hne).trans ((Below.heap_setCell _ ⟨g, 3 * k + 1, none⟩ _ h hne).trans ((Below.heap_setCell _ ⟨g, 3 * k, none⟩ _ h hne).trans hm))

theorem Mk.mput {w : World} {e : TypeId} {B g k n c : Nat} {A : Option Addr} {f : Nat → Nat} {d : Dy} (h : Mk w e B A n c f) (hg : g < B) : Mk (Proofs.Ytdcolnipdipkhaa.mput w g k d) e B A n c f := ((h.far_ hg _ _).far_ hg _ _).far_ hg _ _
theorem Owd.mput {w : World} {B g k : Nat} {M : Int} {d e : Dy} (h : Owd B w M e) (hg : g < B) : Owd B (Proofs.Ytdcolnipdipkhaa.mput w g k d) M e := ⟨h.lim.mput hg, h.may, h.val⟩
theorem Twd.mput {w : World} {B g k : Nat} {d e r : Dy} (h : Twd B w e r) (hg : g < B) : Twd B (Proofs.Ytdcolnipdipkhaa.mput w g k d) e r := ⟨h.lim.mput hg, h.s, h.n, h.x, h.f⟩

/-- The world behind a mass that is stored into its box. -/
def mstore (w : World) (g : Nat) (D : Nat → Dy) : World := w.setCells g 0 (mcells D).toList
theorem grown_setCells (g : Nat) : ∀ (vs : List Value) (o : Nat) (w : World), w.grownBy (w.setCells g o vs) (some g)
  | [], _, w => ⟨rfl, rfl, rfl, Nat.le_refl _, fun _ _ _ => rfl⟩
  | v :: vs, o, w => by
    rw [World.setCells]
    have h := grown_setCells g vs (o + 1) (w.setCell ⟨g, o, none⟩ v)
    refine ⟨h.os, h.tape, h.output, by simpa [World.setCell] using h.size, fun b hb hne => ?_⟩
    exact (h.block b (by simpa [World.setCell] using hb) hne).trans (Below.heap_setCell w ⟨g, o, none⟩ v b (by rintro rfl; exact hne rfl))
theorem grown_mstore (w : World) (g : Nat) (D : Nat → Dy) : w.grownBy (mstore w g D) (some g) := grown_setCells g _ 0 w
theorem heap_setCells (g : Nat) (t : TypeId) : ∀ (vs : List Value) (o : Nat) (w : World) (cs : Array Value), w.heap[g]? = some (.cells cs t (0, 0)) →
    ∃ cs' : Array Value, (w.setCells g o vs).heap[g]? = some (.cells cs' t (0, 0)) ∧ cs'.size = cs.size ∧ ∀ j, j < cs.size → cs'[j]? = if o ≤ j ∧ j < o + vs.length then vs[j - o]? else cs[j]?
  | [], o, w, cs, h => ⟨cs, h, rfl, fun j _ => by rw [if_neg (by simp <;> omega)]⟩
  | v :: vs, o, w, cs, h => by
    rw [World.setCells]
    obtain ⟨cs', h1, h2, h3⟩ := heap_setCells g t vs (o + 1) (w.setCell ⟨g, o, none⟩ v) _ (heap_setCell_same w g o cs t v h)
    refine ⟨cs', h1, by rw [h2, Array.size_setIfInBounds], fun j hj => ?_⟩
    rw [h3 j (by rw [Array.size_setIfInBounds]; exact hj), List.length_cons]
    by_cases h4 : o + 1 ≤ j ∧ j < o + 1 + vs.length
    · rw [if_pos h4, if_pos (by omega), show j - o = (j - (o + 1)) + 1 by omega, List.getElem?_cons_succ]
    · rw [if_neg h4, Array.getElem?_setIfInBounds]
      by_cases h5 : o = j
      · subst h5
        rw [if_pos rfl, if_pos hj, if_pos (by omega), Nat.sub_self, List.getElem?_cons_zero]
      · rw [if_neg h5, if_neg (by omega)]
theorem Mbox.store {w : World} {g : Nat} {D : Nat → Dy} (h : Mbox w g D) (E : Nat → Dy) : Mbox (mstore w g E) g E := by
  obtain ⟨cs', h1, h2, h3⟩ := heap_setCells g _ (mcells E).toList 0 w _ h
  have e : cs' = mcells E := by
    apply Array.ext_getElem?
    intro j
    have h12 : (mcells D).size = 12 := rfl
    by_cases hj : j < 12
    · rw [h3 j (by omega), if_pos ⟨Nat.zero_le _, by show j < 0 + 12; omega⟩, Nat.sub_zero, Array.getElem?_toList]
    · rw [Array.getElem?_eq_none (by omega), Array.getElem?_eq_none (by show 12 ≤ j; omega)]
  rw [e] at h1
  exact h1
theorem Mbox.there {w : World} {g : Nat} {D : Nat → Dy} (h : Mbox w g D) (E : Nat → Dy) : w.there g 0 (mcells E).size := fun j hj => by
  rw [Nat.zero_add]
  refine ⟨?_, h.frozen j⟩
  rw [cell_of_row w g j _ _ (0, 0) h]
  have : j < 12 := hj
  simp [this]
theorem mcells_one (E : Nat → Dy) : (mcells E).all (·.oneCell') = true := all_oneCell_toArray (cs := (mcells E).toList) (by intro v hv; simp at hv; rcases hv with rfl | rfl | rfl | rfl | rfl | rfl | rfl | rfl | rfl | rfl | rfl | rfl <;> rfl)

theorem keeps_mput {B g k : Nat} {w w' : World} {d : Dy} (h : KeepsFrom B w w') : KeepsFrom B w (mput w' g k d) := h.trans ((((KeepsOthers.setCell _ _ _).trans (KeepsOthers.setCell _ _ _)).trans (KeepsOthers.setCell _ _ _)).from _)
theorem Kb.mput {K : Nat → Prop} {A W : World} {g k : Nat} {d : Dy} (h : Kb K A W) (hl : ¬ K g) : Kb K A (Proofs.Ytdcolnipdipkhaa.mput W g k d) :=
  ((h.setCell (p := ⟨g, 3 * k, none⟩) hl _).setCell (p := ⟨g, 3 * k + 1, none⟩) hl _).setCell (p := ⟨g, 3 * k + 2, none⟩) hl _

/-- No limbs lie in a mass's box. -/
theorem Mk.grown_box {w w' : World} {B g n c : Nat} {A : Option Addr} {f : Nat → Nat} {D : Nat → Dy} (h : Mk w 70 B A n c f) (hm : Mbox w g D) (hg : w.grownBy w' (some g)) : Mk w' 70 B A n c f :=
  ⟨h.cap, h.max, h.lt, h.out, by
    rcases h.own with h0 | ⟨b, cs, hA, hB, hh, hs, hc⟩
    · exact .inl h0
    · refine .inr ⟨b, cs, hA, hB, (hg.block b (lt_of_heap hh) ?_).trans hh, hs, hc⟩
      intro e
      injection e with e
      subst e
      unfold Mbox at hm
      rw [hm] at hh
      injection hh with hh
      injection hh with _ ht
      exact absurd ht (by decide)⟩
theorem Owd.grown_box {w w' : World} {B g : Nat} {M : Int} {d : Dy} {D : Nat → Dy} (h : Owd B w M d) (hm : Mbox w g D) (hg : w.grownBy w' (some g)) : Owd B w' M d := ⟨h.lim.grown_box hm hg, h.may, h.val⟩
theorem Mow.grown_box {w w' : World} {B g : Nat} {M : Nat → Int} {E D : Nat → Dy} (h : Mow B w M E) (hm : Mbox w g D) (hg : w.grownBy w' (some g)) : Mow B w' M E := fun k hk => (h k hk).grown_box hm hg
theorem grown_mput (w : World) (g k : Nat) (d : Dy) : w.grownBy (mput w g k d) (some g) :=
  ⟨rfl, rfl, rfl, Nat.le_of_eq (mput_size w g k d).symm, fun b _ hne => by
    have hb : b ≠ g := by rintro rfl; exact hne rfl
    exact (Below.heap_setCell _ ⟨g, 3 * k + 2, none⟩ _ b hb).trans ((Below.heap_setCell _ ⟨g, 3 * k + 1, none⟩ _ b hb).trans (Below.heap_setCell _ ⟨g, 3 * k, none⟩ _ b hb))⟩

theorem mass_size : (Try.prog.info? 27).map (·.size) = some 12 := by kernel_rfl
theorem mass_size_ (E : Nat → Dy) : (Try.prog.info? 27).map (·.size) = some (mcells E).size := mass_size
/-- A mass is loaded out of its box, and stored into it. -/
theorem wp_mload {ops : Array Oper} {rest : List Oper} {o : Oper} {a : Act} {w : World} {Q : Exit → Act → World → Prop} (hgd : o.guard = none) (x : Operand) (ho : o.op = .load 27 x)
    (g : Nat) (D : Nat → Dy) (hx : a.eval x = .pointer (some ⟨g, 0, none⟩)) (hg : Mbox w g D) (h : wpList Try.prog ops Q rest (a.put o.dst (.agg (mcells D))) w) : wpList Try.prog ops Q (o :: rest) a w :=
  wpList_load_row hgd _ x ho g hx _ _ _ _ hg Try.underlying27 rfl (mass_size_ D) h
/-- The same, behind a guard. -/
theorem wp_mload_g {ops : Array Oper} {rest : List Oper} {o : Oper} {a : Act} {w : World} {Q : Exit → Act → World → Prop} (hw : Region.wanted o (yielded ops a.tmps) = true) (x : Operand) (ho : o.op = .load 27 x)
    (g : Nat) (D : Nat → Dy) (hx : a.eval x = .pointer (some ⟨g, 0, none⟩)) (hg : Mbox w g D) (h : wpList Try.prog ops Q rest (a.put o.dst (.agg (mcells D))) w) : wpList Try.prog ops Q (o :: rest) a w :=
  wpList_step fun _ hK => by
    rw [if_pos hw]
    exact wp_load_row _ x ho g hx _ _ _ _ hg Try.underlying27 rfl (mass_size_ D) (hK _ _ h)
theorem wp_mstore {ops : Array Oper} {rest : List Oper} {o : Oper} {a : Act} {w : World} {Q : Exit → Act → World → Prop} (hgd : o.guard = none) (x y : Operand) (ho : o.op = .store 27 x y)
    (g : Nat) (D E : Nat → Dy) (hx : a.eval x = .pointer (some ⟨g, 0, none⟩)) (hy : a.eval y = .agg (mcells E)) (hg : Mbox w g D) (h : wpList Try.prog ops Q rest (a.put o.dst undef) (mstore w g E)) : wpList Try.prog ops Q (o :: rest) a w :=
  wpList_store_mid hgd _ x y ho g 0 (mcells E) hx hy (hg.there E) (mass_size_ E) (mcells_one E) h
theorem wp_mstore_ {ops : Array Oper} {rest : List Oper} {o : Oper} {a : Act} {w : World} {Q : Exit → Act → World → Prop} (hgd : o.guard = none) (x y : Operand) (ho : o.op = .store 27 x y)
    (g : Nat) (D E : Nat → Dy) (cs : Array Value) (hx : a.eval x = .pointer (some ⟨g, 0, none⟩)) (hy : a.eval y = .agg cs) (he : cs = mcells E) (hg : Mbox w g D) (h : wpList Try.prog ops Q rest (a.put o.dst undef) (mstore w g E)) : wpList Try.prog ops Q (o :: rest) a w :=
  wp_mstore hgd x y ho g D E hx (he ▸ hy) hg h
theorem wp_mzero {ops : Array Oper} {rest : List Oper} {o : Oper} {a : Act} {w : World} {Q : Exit → Act → World → Prop} (hgd : o.guard = none) (x y : Operand) (ho : o.op = .store 27 x y)
    (g : Nat) (D : Nat → Dy) (hx : a.eval x = .pointer (some ⟨g, 0, none⟩)) (hy : a.eval y = .agg #[.bool false, .slice none 0 0, .int .i64 0, .bool false, .slice none 0 0, .int .i64 0, .bool false, .slice none 0 0, .int .i64 0, .bool false, .slice none 0 0, .int .i64 0]) (hg : Mbox w g D) (h : wpList Try.prog ops Q rest (a.put o.dst undef) (mstore w g D0)) : wpList Try.prog ops Q (o :: rest) a w :=
  wp_mstore hgd x y ho g D D0 hx hy hg h
/-- The same, in a round. -/
theorem wpin_mzero {l n : Nat} {ops : Array Oper} {rest : List Oper} {o : Oper} {a : Act} {w : World} {Q : Exit → Act → World → Prop} (hgd : o.guard = none) (x y : Operand) (ho : o.op = .store 27 x y)
    (g : Nat) (D : Nat → Dy) (hx : a.eval x = .pointer (some ⟨g, 0, none⟩)) (hy : a.eval y = .agg #[.bool false, .slice none 0 0, .int .i64 0, .bool false, .slice none 0 0, .int .i64 0, .bool false, .slice none 0 0, .int .i64 0, .bool false, .slice none 0 0, .int .i64 0]) (hg : Mbox w g D) (h : wpListIn (Fence.wide.inRound l) n Try.prog ops Q rest (a.put o.dst undef) (mstore w g D0)) : wpListIn (Fence.wide.inRound l) n Try.prog ops Q (o :: rest) a w :=
  wpListIn_plain hgd fun _ hK => oper_in (fun c e => by rw [ho] at e; cases e) (wp_store_mid _ x y ho g 0 (mcells D0) hx hy (hg.there D0) (mass_size_ D0) (mcells_one D0) (hK _ _ h))
/-- A result that lies in one variable: a mass. -/
theorem mass_cell {fn : Func} {p : Tmp} (h : fn.results = #[.cell p 27]) (tmps : Array Value) (w : World) (g : Nat) (D : Nat → Dy) (hp : tmps.getD p undef = .pointer (some ⟨g, 0, none⟩)) (hg : Mbox w g D) :
    (results fn tmps).run Try.prog w = .ok (.agg (mcells D)) w := results_cell_row h tmps w g _ _ _ _ hp hg Try.underlying27 rfl mass_size
theorem results_cc {fn : Func} {p q : Tmp} {ty tz : TypeId} (h : fn.results = #[.cell p ty, .cell q tz]) (tmps : Array Value) (P : Program) (w : World) :
    (results fn tmps).run P w =
      ((asAddr (tmps.getD p undef)).run P w).andThen fun a w₁ => ((loadVar ty a).run P w₁).andThen fun x w₂ => ((asAddr (tmps.getD q undef)).run P w₂).andThen fun b w₃ => ((loadVar tz b).run P w₃).andThen fun y w₄ => .ok (.tuple #[x, y]) w₄ := by
  simp only [results, h]
  simp [Sem.run_bind, Result.andThen]
theorem load_errno {w : World} {k : Nat} {er : Int} (hk : Boxed w k 32 (.int .i64 er)) : (loadVar 32 ⟨k, 0, none⟩).run Try.prog w = .ok (.int .i64 er) w := by
  have hc := hk.cell
  simp [go_sem, hc]
/-- A mass and an error, each in a variable. -/
theorem mass_cells {fn : Func} {p u : Tmp} (h : fn.results = #[.cell p 27, .cell u 32]) (tmps : Array Value) (w : World) (g k : Nat) (D : Nat → Dy) (er : Int) (hp : tmps.getD p undef = .pointer (some ⟨g, 0, none⟩)) (hu : tmps.getD u undef = .pointer (some ⟨k, 0, none⟩)) (hg : Mbox w g D) (hk : Boxed w k 32 (.int .i64 er)) :
    (results fn tmps).run Try.prog w = .ok (.tuple #[.agg (mcells D), .int .i64 er]) w := by
  have e1 := run_loadVar_row w g _ 27 _ _ _ hg Try.underlying27 rfl mass_size
  have e2 := load_errno hk
  rw [results_cc h, hp, hu]
  simp only [asAddr, Result.andThen, Sem.run_pure, e1, e2]

end Go.Proofs.Ytdcolnipdipkhaa
