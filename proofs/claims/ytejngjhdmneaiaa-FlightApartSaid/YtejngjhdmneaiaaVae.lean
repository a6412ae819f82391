/- Package dyad: sum. -/
/- Dyads: words for their boxes, for what is handed in, and for what is answered. -/
import Derived.Test.YtejngjhdmneaiaaVad
import Derived.Test.YtejngjhdmneaiaaVac
import Derived.Laws.ResultCell
import Derived.Laws.Rows

namespace Go.Proofs.Ytejngjhdmneaiaa
open Go.RowKit

theorem vl_mod2 {f : Nat → Nat} {n : Nat} (h0 : 0 < n) : vl f n % 2 = f 0 % 2 := by
  rw [show n = 1 + (n - 1) by omega, vl_shift]
  rw [show vl f 1 = f 0 by simp [vl, pw], show pw 1 = 2 * 2147483648 by decide, Nat.mul_assoc]
  omega
theorem vl_zero_iff {f : Nat → Nat} {n : Nat} (hf : Fit n f) : vl f n = 0 ↔ n = 0 := by
  constructor
  · intro hV
    rcases Nat.eq_zero_or_pos n with h0 | h0
    · exact h0
    · have a := vl_ge (f := f) h0 (hf.2 h0)
      have b := pw_pos (n - 1)
      omega
  · rintro rfl; rfl
theorem may_canon {s : Bool} {n : Nat} {f : Nat → Nat} {x : Int} (h : DMay s n f x) (hout : ∀ j, n ≤ j → f j = 0) : ∃ X : Nat, x = (X : Int) ∧ Canon s (vl f n) X ∧ X ≤ 1024 := by
  obtain ⟨hf, h0, h1, h2, h3⟩ := h
  obtain ⟨X, rfl⟩ := Int.eq_ofNat_of_zero_le h0
  refine ⟨X, rfl, ⟨fun hV => ?_, fun hx => ?_⟩, by omega⟩
  · have hn := (vl_zero_iff hf).1 hV
    refine ⟨h2 hn, ?_⟩
    rcases Nat.eq_zero_or_pos X with hX | hX
    · exact hX
    · have a := h3 (by omega)
      rw [hout 0 (by omega)] at a
      cases a
  · have a := h3 (by omega)
    rcases Nat.eq_zero_or_pos n with hn | hn
    · rw [hout 0 (by omega)] at a
      cases a
    · rw [vl_mod2 hn]
      exact a
theorem canon_may {s : Bool} {n : Nat} {f : Nat → Nat} {X : Nat} (hf : Fit n f) (hc : Canon s (vl f n) X) (hX : X ≤ 1024) : DMay s n f (X : Int) := by
  refine ⟨hf, by omega, by omega, fun hn => (hc.1 ((vl_zero_iff hf).2 hn)).1, fun hx => ?_⟩
  have a := hc.2 (by omega)
  rcases Nat.eq_zero_or_pos n with hn | hn
  · subst hn
    cases a
  · rwa [vl_mod2 hn] at a

theorem tp_split {E X : Nat} (h : X ≤ E) (hE : E ≤ 4000) : tp (4000 - X) = tp (E - X) * tp (4000 - E) := by
  rw [← tp_add]
  congr 1
  omega
theorem sum_scaled {s t : Bool} {V U X Y E : Nat} (hX : X ≤ E) (hY : Y ≤ E) (hE : E ≤ 4000) : dv s V X + dv t U Y = (num s (V * tp (E - X)) + num t (U * tp (E - Y))) * (tp (4000 - E) : Int) := by
  unfold dv
  rw [tp_split hX hE, tp_split hY hE, ← Nat.mul_assoc, ← Nat.mul_assoc, num_mul, num_mul s, num_mul t (U * _), Int.add_mul]
theorem sum_not {r : Bool} {N E : Nat} {M : Int} (h : M = num r N * (tp (4000 - E) : Int)) (hN : pw 40 ≤ N) (hor : E = 0 ∨ N % 2 = 1) (hE : E ≤ 1024) : ¬ Okay M := by
  rw [← num_mul] at h
  rw [h]
  have := pw_pos 40
  exact not_okay (s := r) (V := N) (x := E) ⟨fun h0 => by omega, fun h1 => by omega⟩ (by omega) (.inl hN)
theorem sum_form (s t : Bool) (n m : Nat) : ∃ r N, num r N = num s n + num t m ∧ N % 2 = (n + m) % 2 ∧ n ≤ N + m ∧ m ≤ N + n := by
  by_cases h : s = t
  · subst h
    exact ⟨s, n + m, num_like s n m, rfl, by omega, by omega⟩
  · rcases Nat.le_total m n with h2 | h2
    · exact ⟨s, n - m, num_unlike h h2, by omega, by omega, by omega⟩
    · exact ⟨t, m - n, by rw [num_unlike (Ne.symm h) h2, Int.add_comm], by omega, by omega, by omega⟩
theorem tp_even {k : Nat} (h : 0 < k) (V : Nat) : (V * tp k) % 2 = 0 := by
  obtain ⟨j, rfl⟩ : ∃ j, k = j + 1 := ⟨k - 1, by omega⟩
  rw [tp_succ, ← Nat.mul_assoc]
  omega
/-- One of the two is too great to be written in the other's parts: then the sum is too great. -/
theorem wide_not {s t : Bool} {V U X Y E : Nat} (hU : U < pw 40) (hc : 0 < Y → U % 2 = 1) (hYE : Y = E) (hX : X < E) (hE : E ≤ 1024) (hbig : 2 * pw 40 ≤ V * tp (E - X)) : ¬ Okay (dv s V X + dv t U Y) := by
  subst hYE
  rw [sum_scaled (by omega : X ≤ Y) (Nat.le_refl Y) (by omega), Nat.sub_self, tp_zero, Nat.mul_one]
  obtain ⟨r, N, hN, hpar, h1, h2⟩ := sum_form s t (V * tp (Y - X)) U
  rw [← hN]
  have ho := hc (by omega)
  have he := tp_even (by omega : 0 < Y - X) V
  exact sum_not rfl (by omega) (.inr (by omega)) hE
/-- Two of like signs that are too great together. -/
theorem like_not {s : Bool} {V U X Y E : Nat} (hV : V < pw 40) (hU : U < pw 40) (hc : 0 < X → V % 2 = 1) (hc2 : 0 < Y → U % 2 = 1) (hX : X ≤ E) (hY : Y ≤ E) (hor : X = E ∨ Y = E) (hE : E ≤ 1024) (hbig : 2 * pw 40 ≤ V * tp (E - X) + U * tp (E - Y)) : ¬ Okay (dv s V X + dv s U Y) := by
  rw [sum_scaled hX hY (by omega), ← num_like]
  refine sum_not rfl (by omega) ?_ hE
  rcases Nat.eq_zero_or_pos E with h0 | h0
  · exact .inl h0
  · right
    rcases Nat.lt_or_ge X E with h1 | h1
    · have h2 : Y = E := by omega
      subst h2
      have a := tp_even (by omega : 0 < Y - X) V
      have b := hc2 h0
      rw [Nat.sub_self, tp_zero, Nat.mul_one]
      omega
    · have h2 : X = E := by omega
      subst h2
      rcases Nat.lt_or_ge Y X with h3 | h3
      · have a := tp_even (by omega : 0 < X - Y) U
        have b := hc h0
        rw [Nat.sub_self, tp_zero, Nat.mul_one]
        omega
      · have h4 : Y = X := by omega
        subst h4
        rw [Nat.sub_self, tp_zero, Nat.mul_one, Nat.mul_one] at hbig
        omega

end Go.Proofs.Ytejngjhdmneaiaa


namespace Go.Proofs.Ytejngjhdmneaiaa
open Go.RowKit

theorem bool_of_dec {p : Prop} [Decidable p] (h : p) : decide p = true := by simp [h]
theorem bool_of_not {p : Prop} [Decidable p] (h : ¬ p) : decide p = false := by simp [h]

theorem heap3_0 (w : World) (a b c : Obj) : (((w.alloc a).alloc b).alloc c).heap[w.heap.size]? = some a :=
  (Below.heap_alloc _ c _ (by simp; omega)).trans ((Below.heap_alloc _ b _ (by simp)).trans (heap_alloc_new w a))
theorem heap3_1 (w : World) (a b c : Obj) : (((w.alloc a).alloc b).alloc c).heap[w.heap.size + 1]? = some b :=
  (Below.heap_alloc _ c _ (by simp)).trans (heap_alloc2_new w a b)
theorem heap3_2 (w : World) (a b c : Obj) : (((w.alloc a).alloc b).alloc c).heap[w.heap.size + 2]? = some c := by
  have h := heap_alloc_new ((w.alloc a).alloc b) c
  have e : ((w.alloc a).alloc b).heap.size = w.heap.size + 2 := by simp
  rwa [e] at h

section
variable (w : World) (a b c d : Obj)
theorem heap4_0 : ((((w.alloc a).alloc b).alloc c).alloc d).heap[w.heap.size]? = some a := (Below.heap_alloc _ d _ (by simp; omega)).trans (heap3_0 w a b c)
theorem heap4_1 : ((((w.alloc a).alloc b).alloc c).alloc d).heap[w.heap.size + 1]? = some b := (Below.heap_alloc _ d _ (by simp <;> omega)).trans (heap3_1 w a b c)
theorem heap4_2 : ((((w.alloc a).alloc b).alloc c).alloc d).heap[w.heap.size + 2]? = some c := (Below.heap_alloc _ d _ (by simp)).trans (heap3_2 w a b c)
theorem heap4_3 : ((((w.alloc a).alloc b).alloc c).alloc d).heap[w.heap.size + 3]? = some d := by
  have h := heap_alloc_new (((w.alloc a).alloc b).alloc c) d
  have e : (((w.alloc a).alloc b).alloc c).heap.size = w.heap.size + 3 := by simp
  rwa [e] at h
theorem below4 : Below w.heap.size w ((((w.alloc a).alloc b).alloc c).alloc d) :=
  ((((Below.refl w.heap.size w).alloc (Nat.le_refl _) a).alloc (by simp) b).alloc (by simp <;> omega) c).alloc (by simp <;> omega) d
end

/-- Block g is a dyad's. -/
def Dbox (w : World) (g : Nat) (s : Bool) (v : Value) (x : Int) : Prop := w.heap[g]? = some (.cells #[.bool s, v, .int .i64 x] 25 (0, 0))
section
variable {w w' : World} {g : Nat} {s : Bool} {v : Value} {x : Int}
theorem Dbox.lt (h : Dbox w g s v x) : g < w.heap.size := lt_of_heap h
theorem Dbox.c0 (h : Dbox w g s v x) : w.cell? ⟨g, 0, none⟩ = some (.bool s) := by rw [cell_of_row w g 0 _ _ (0, 0) h]; rfl
theorem Dbox.c1 (h : Dbox w g s v x) : w.cell? ⟨g, 1, none⟩ = some v := by rw [cell_of_row w g 1 _ _ (0, 0) h]; rfl
theorem Dbox.c2 (h : Dbox w g s v x) : w.cell? ⟨g, 2, none⟩ = some (.int .i64 x) := by rw [cell_of_row w g 2 _ _ (0, 0) h]; rfl
theorem Dbox.frozen (h : Dbox w g s v x) (j : Nat) : w.frozen? ⟨g, j, none⟩ = false := frozen_of_row w g j _ _ h
theorem Dbox.below {B : Nat} (h : Dbox w g s v x) (hb : Below B w w') (hg : g < B) : Dbox w' g s v x := (hb.block g hg).trans h
theorem Dbox.grown {k : Nat} (h : Dbox w g s v x) (hb : w.grownBy w' (some k)) (hg : g ≠ k) : Dbox w' g s v x := (hb.block g h.lt (by intro e; injection e with e; exact hg e)).trans h
end

/-- d is a dyad that may be, of the call's own, and M of it. -/
def Dn (B : Nat) (w : World) (M : Int) (d : Value) : Prop := ∃ s v x V, d = .agg #[.bool s, v, .int .i64 ((x : Nat) : Int)] ∧ Num 75 B w V v ∧ Canon s V x ∧ x ≤ 1024 ∧ dv s V x = M
/-- What is told beside an error. -/
def resD (er : Int) (M : Int) : Int := if er = 0 then M else 0
theorem resD_ok {er M : Int} (h : er = 0) : resD er M = M := if_pos h
theorem resD_bad {er M : Int} (h : er ≠ 0) : resD er M = 0 := if_neg h
/-- What a call hands back that answers a dyad and an error. -/
def DRes (w : World) (E : Int → Prop) (M : Int) (e : Ending) (w' : World) : Prop := ∃ d er, e = .returned (.tuple #[d, .int .i64 er]) ∧ Hid (E er) ∧ Hid (Dn w.heap.size w' (resD er M) d) ∧ Hid (Below w.heap.size w w')
theorem Dn.zero (B : Nat) (w : World) : Dn B w 0 (.agg #[.bool false, .slice none 0 0, .int .i64 0]) :=
  ⟨false, _, 0, 0, rfl, Num.zero _ _ _, ⟨fun _ => ⟨rfl, rfl⟩, fun h => absurd h (by omega)⟩, by omega, by simp [dv, num]⟩

theorem Val.len0 {w : World} {V n c : Nat} {A : Option Addr} (h : Val w V (.slice A n c)) : (n = 0 ↔ V = 0) := by
  obtain ⟨A', n', c', f, hv, hr, hf, rfl⟩ := h
  injection hv with _ hn _
  subst hn
  constructor
  · rintro rfl; rfl
  · intro hV
    rcases Nat.eq_zero_or_pos n with h0 | h0
    · exact h0
    · have a := vl_ge (f := f) h0 (hf.2 h0)
      have b := pw_pos (n - 1)
      omega
theorem Val.len {w : World} {V n c : Nat} {A : Option Addr} (h : Val w V (.slice A n c)) : n ≤ 40 ∧ n ≤ c := by
  obtain ⟨A', n', c', f, hv, hr, hf, rfl⟩ := h
  injection hv with _ hn hc
  subst hn hc
  exact ⟨hf.1, hr.cap⟩

/-- The world behind a dyad that is stored into its box. -/
def put3 (w : World) (g : Nat) (s : Bool) (v : Value) (x : Int) : World := ((w.setCell ⟨g, 0, none⟩ (.bool s)).setCell ⟨g, 1, none⟩ v).setCell ⟨g, 2, none⟩ (.int .i64 x)
theorem Dbox.store {w : World} {g : Nat} {s t : Bool} {v u : Value} {x y : Int} (h : Dbox w g s v x) : Dbox (put3 w g t u y) g t u y := by
  have h0 := heap_setCell_same w g 0 _ _ (.bool t) h
  have h1 := heap_setCell_same _ g 1 _ _ u h0
  exact heap_setCell_same _ g 2 _ _ (.int .i64 y) h1
theorem below_put3 {B : Nat} {w w' : World} {g : Nat} {s : Bool} {v : Value} {x : Int} (h : Below B w w') (hg : B ≤ g) : Below B w (put3 w' g s v x) :=
  ((h.setCell (p := ⟨g, 0, none⟩) hg _).setCell (p := ⟨g, 1, none⟩) hg _).setCell (p := ⟨g, 2, none⟩) hg _
theorem Num.put3 {t : TypeId} {B V g : Nat} {w : World} {v u : Value} {s : Bool} {x : Int} (h : Num t B w V v) (hg : g < B) : Num t B (put3 w g s u x) V v := ((h.set hg 0 _).set hg 1 _).set hg 2 _

theorem cells_agg_tmp {P : Program} {fn : Func} {p u : Tmp} {ty : TypeId} (h : fn.results = #[.cell p ty, .tmp u]) (tmps : Array Value) (w : World) (g : Nat) (t : TypeId) (cs : Array Value) (fr : Nat × Nat) (d : TypeDesc)
    (hp : tmps.getD p undef = .pointer (some ⟨g, 0, none⟩)) (hg : w.heap[g]? = some (.cells cs t fr))
    (hu : P.underlying ty = some d) (hd : (match d with | .struct _ | .array _ _ => true | _ => false) = true) (hi : (P.info? ty).map (·.size) = some cs.size) :
    (results fn tmps).run P w = .ok (.tuple #[.agg cs, tmps.getD u undef]) w := by
  rw [results_cell_tmp h, hp]
  simp [asAddr, Result.andThen, run_loadVar_row w g t ty cs fr d hg hu hd hi]
theorem dyad_size : (Try.prog.info? 25).map (·.size) = some 3 := by kernel_rfl
theorem ret_dyad {fn : Func} {R : Ending → World → Prop} {a : Act} {w : World} {p u : Tmp} {g : Nat} {s : Bool} {v er : Value} {x : Int} (h : fn.results = #[.cell p 25, .tmp u]) (hp : a.tmps.getD p undef = .pointer (some ⟨g, 0, none⟩)) (hu : a.tmps.getD u undef = er)
    (hd : a.defers = []) (hg : Dbox w g s v x) (hR : R (.returned (.tuple #[.agg #[.bool s, v, .int .i64 x], er])) w) : bodyPost Try.prog fn R .ret a w := by
  refine bodyPost_ret ?_ hd hR
  rw [← hu]
  exact cells_agg_tmp h a.tmps w g _ _ _ _ hp hg Try.underlying25 rfl dyad_size
theorem Dbox.alloc {w : World} {g : Nat} {s : Bool} {v : Value} {x : Int} (h : Dbox w g s v x) (o : Obj) : Dbox (w.alloc o) g s v x := (Below.heap_alloc w o g h.lt).trans h
theorem Num.alloc {t : TypeId} {B V : Nat} {w : World} {v : Value} (h : Num t B w V v) (o : Obj) : Num t B (w.alloc o) V v := h.below ((Below.refl w.heap.size w).alloc (Nat.le_refl _) o) (Nat.le_refl _)

theorem Dbox.drew {w : World} {g : Nat} {s : Bool} {v : Value} {x : Int} (h : Dbox w g s v x) : Dbox w.drew g s v x := h

/-- A result that lies in one variable. -/
theorem cells_agg {P : Program} {fn : Func} {p : Tmp} {ty : TypeId} (h : fn.results = #[.cell p ty]) (tmps : Array Value) (w : World) (g : Nat) (t : TypeId) (cs : Array Value) (fr : Nat × Nat) (d : TypeDesc)
    (hp : tmps.getD p undef = .pointer (some ⟨g, 0, none⟩)) (hg : w.heap[g]? = some (.cells cs t fr))
    (hu : P.underlying ty = some d) (hd : (match d with | .struct _ | .array _ _ => true | _ => false) = true) (hi : (P.info? ty).map (·.size) = some cs.size) :
    (results fn tmps).run P w = .ok (.agg cs) w := results_cell_row h tmps w g t cs fr d hp hg hu hd hi
theorem ret_one {fn : Func} {R : Ending → World → Prop} {a : Act} {w : World} {p : Tmp} {g : Nat} {s : Bool} {v : Value} {x : Int} (h : fn.results = #[.cell p 25]) (hp : a.tmps.getD p undef = .pointer (some ⟨g, 0, none⟩))
    (hd : a.defers = []) (hg : Dbox w g s v x) (hR : R (.returned (.agg #[.bool s, v, .int .i64 x])) w) : bodyPost Try.prog fn R .ret a w :=
  bodyPost_ret (cells_agg h a.tmps w g _ _ _ _ hp hg Try.underlying25 rfl dyad_size) hd hR

/-- A dyad that may be just if p, of so many parts. -/
def DArg (w : World) (p : Prop) (M : Int) (v : Value) : Prop := ∃ s A n c f x, v = .agg #[.bool s, .slice A n c, .int .i64 x] ∧ Rd w w.heap.size A n c f ∧ (p ↔ DMay s n f x) ∧ (p → ∃ X : Nat, x = (X : Int) ∧ M = dv s (vl f n) X)
theorem DArg.below {w w' : World} {p : Prop} {M : Int} {v : Value} (h : DArg w p M v) (hb : Below w.heap.size w w') : DArg w' p M v := by
  obtain ⟨s, A, n, c, f, x, hv, hr, hp, hM⟩ := h
  exact ⟨s, A, n, c, f, x, hv, (hr.below hb).mono hb.size, hp, hM⟩
theorem Dn.arg {B : Nat} {w : World} {M : Int} {v : Value} (h : Dn B w M v) : DArg w True M v := by
  obtain ⟨s, u, X, V, rfl, hn, hc, hX, hd⟩ := h
  obtain ⟨A, n, c, f, rfl, hr, hf, rfl⟩ := hn.val
  exact ⟨s, A, n, c, f, (X : Int), rfl, hr, ⟨fun _ => canon_may hf hc hX, fun _ => trivial⟩, fun _ => ⟨X, rfl, hd.symm⟩⟩
/-- The error of a call on dyads: bad ones first, then 'over'. -/
def Derrs (p : Prop) (M : Int) (er : Int) : Prop := (p → Derr M er) ∧ (¬ p → er = 8)


end Go.Proofs.Ytejngjhdmneaiaa

