/- A slice that reads as a number; what a call hands back beside an error. -/
import Derived.Test.YtmaggpigodkhhaaCmp
import Derived.Test.YtmaggpigodkhhaaBits
namespace Go.Proofs.Ytmaggpigodkhhaa
open Go.RowKit

theorem pw_le_two {j k : Nat} (h : 32 * j ≤ k) : pw j ≤ 2 ^ k := by
  rw [pw_two]
  exact Nat.pow_le_pow_right (by omega) h
theorem two_le_pw {j k : Nat} (h : k ≤ 32 * j) : 2 ^ k ≤ pw j := by
  rw [pw_two]
  exact Nat.pow_le_pow_right (by omega) h
theorem pw40_le {k : Nat} (h : 1280 ≤ k) : pw 40 ≤ 2 ^ k := pw_le_two (by omega)
theorem le_pw40 {k : Nat} (h : k ≤ 1280) : 2 ^ k ≤ pw 40 := two_le_pw (by omega)
theorem vl_pw40 {w : World} {B n c : Nat} {A : Option Addr} {f : Nat → Nat} (h : Rd w B A n c f) (hf : Fit n f) : vl f n < pw 40 :=
  Nat.lt_of_lt_of_le (vl_lt fun j _ => h.lt j) (pw_mono hf.1)
/-- The slice value v reads as the number V. -/
def Val (w : World) (V : Nat) (v : Value) : Prop := ∃ A k c f, v = .slice A k c ∧ Rd w w.heap.size A k c f ∧ Fit k f ∧ vl f k = V
theorem Num.val {t : TypeId} {B V : Nat} {w : World} {v : Value} (h : Num t B w V v) : Val w V v := by
  obtain ⟨A, k, c, f, hv, hm, hf, hV⟩ := h
  exact ⟨A, k, c, f, hv, hm.rd, hf, hV⟩
theorem Val.below {w w' : World} {V : Nat} {v : Value} (h : Val w V v) (hb : Below w.heap.size w w') : Val w' V v := by
  obtain ⟨A, k, c, f, hv, hr, hf, hV⟩ := h
  exact ⟨A, k, c, f, hv, (hr.below hb).mono hb.size, hf, hV⟩
theorem Rd.val {w : World} {B n c : Nat} {A : Option Addr} {f : Nat → Nat} (h : Rd w B A n c f) (hB : B ≤ w.heap.size) (hf : Fit n f) : Val w (vl f n) (.slice A n c) := ⟨A, n, c, f, rfl, h.mono hB, hf, rfl⟩
theorem Val.lt {w : World} {V : Nat} {v : Value} (h : Val w V v) : V < pw 40 := by
  obtain ⟨A, k, c, f, _, hr, hf, rfl⟩ := h
  exact vl_pw40 hr hf

theorem Rd.same {w : World} {B C : Nat} {A D : Option Addr} {n c m d : Nat} {f h : Nat → Nat} (ha : Rd w B A n c f) (hb : Rd w C D m d h) (h1 : 0 < n → f (n - 1) ≠ 0) (h2 : 0 < m → h (m - 1) ≠ 0) (hv : vl f n = vl h m) : n = m ∧ ∀ j, f j = h j :=
  same_of_vl ha.lt hb.lt ha.out hb.out h1 h2 hv

theorem Val.nil (w : World) : Val w 0 (.slice none 0 0) := ⟨none, 0, 0, fun _ => 0, rfl, Rd.nil w _, ⟨by omega, fun h => absurd h (by omega)⟩, rfl⟩

/-- The number that is handed back beside an error: none, which reads as 0, beside one that is not OK. -/
def resV (er : Int) (V : Nat) : Nat := if er = 0 then V else 0
theorem resV_ok {er : Int} {V : Nat} (h : er = 0) : resV er V = V := if_pos h
theorem resV_bad {er : Int} {V : Nat} (h : er ≠ 0) : resV er V = 0 := if_neg h

/-- What a call hands back that answers limbs and an error: E says of the error what it is. -/
def Back (w : World) (E : Int → Prop) (V : Nat) (e : Ending) (w' : World) : Prop := ∃ v er, e = .returned (.tuple #[v, .int .i64 er]) ∧ Hid (E er) ∧ Hid (Val w' (resV er V) v) ∧ Hid (Below w.heap.size w w')

theorem Ans.back {w w' : World} {er : Int} {V : Nat} {e : Ending} {E : Int → Prop} (h : Ans 50 w er V e w') (hE : E er) : Back w E V e w' := by
  obtain ⟨hb, v, rfl, hg, hn⟩ := h
  refine ⟨v, er, rfl, hE, ?_, hb⟩
  by_cases he : er = 0
  · rw [resV_ok he]; exact (hg he).val
  · rw [resV_bad he, hn he]; exact Val.nil w'


end Go.Proofs.Ytmaggpigodkhhaa
