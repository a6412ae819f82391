/- The contracts of package limb, once more, for whatever is handed in: a number, or limbs that may not be. -/
import Derived.Test.YtgjlifjkikojjaaDoorAlive
namespace Go.Proofs.YtgjlifjkikojjaaDoor
open Go.RowKit

/-- The slice value v reads as limbs that may be just if p, and are the number V. -/
def Arg (w : World) (p : Prop) (V : Nat) (v : Value) : Prop := ∃ A n c f, v = .slice A n c ∧ Rd w w.heap.size A n c f ∧ (p ↔ Fit n f) ∧ vl f n = V
theorem Val.arg {w : World} {V : Nat} {v : Value} (h : Val w V v) : Arg w True V v := by
  obtain ⟨A, k, c, f, hv, hr, hf, hV⟩ := h
  exact ⟨A, k, c, f, hv, hr, ⟨fun _ => hf, fun _ => trivial⟩, hV⟩
theorem Rd.arg {w : World} {B n c : Nat} {A : Option Addr} {f : Nat → Nat} (h : Rd w B A n c f) (hB : B ≤ w.heap.size) : Arg w (Fit n f) (vl f n) (.slice A n c) := ⟨A, n, c, f, rfl, h.mono hB, Iff.rfl, rfl⟩
theorem Arg.below {w w' : World} {p : Prop} {V : Nat} {v : Value} (h : Arg w p V v) (hb : Below w.heap.size w w') : Arg w' p V v := by
  obtain ⟨A, k, c, f, hv, hr, hf, hV⟩ := h
  exact ⟨A, k, c, f, hv, (hr.below hb).mono hb.size, hf, hV⟩
theorem Arg.val {w : World} {p : Prop} {V : Nat} {v : Value} (h : Arg w p V v) (hp : p) : Val w V v := by
  obtain ⟨A, k, c, f, hv, hr, hf, hV⟩ := h
  exact ⟨A, k, c, f, hv, hr, hf.1 hp, hV⟩
theorem Val.nil (w : World) : Val w 0 (.slice none 0 0) := ⟨none, 0, 0, fun _ => 0, rfl, Rd.nil w _, ⟨by omega, fun h => absurd h (by omega)⟩, rfl⟩

/-- The number that is handed back beside an error: none, which reads as 0, beside one that is not OK. -/
def resV (er : Int) (V : Nat) : Nat := if er = 0 then V else 0
theorem resV_ok {er : Int} {V : Nat} (h : er = 0) : resV er V = V := if_pos h
theorem resV_bad {er : Int} {V : Nat} (h : er ≠ 0) : resV er V = 0 := if_neg h

/-- What a call hands back that answers limbs and an error: E says of the error what it is. -/
def Back (w : World) (E : Int → Prop) (V : Nat) (e : Ending) (w' : World) : Prop := ∃ v er, e = .returned (.tuple #[v, .int .i64 er]) ∧ Hid (E er) ∧ Hid (Val w' (resV er V) v) ∧ Hid (Below w.heap.size w w')

theorem Ans.back {w w' : World} {er : Int} {V : Nat} {e : Ending} {E : Int → Prop} (h : Ans 23 w er V e w') (hE : E er) : Back w E V e w' := by
  obtain ⟨hb, v, rfl, hg, hn⟩ := h
  refine ⟨v, er, rfl, hE, ?_, hb⟩
  by_cases he : er = 0
  · rw [resV_ok he]; exact (hg he).val
  · rw [resV_bad he, hn he]; exact Val.nil w'

/-- The error of a call on numbers: bad limbs first, then 'over'. -/
def Errs (p : Prop) (V : Nat) (er : Int) : Prop := (p → er = overErr V) ∧ (¬ p → er = 8)
theorem Errs.uniq {p q : Prop} {V U : Nat} {a b : Int} (h : Errs p V a) (k : Errs q U b) (hpq : p ↔ q) (hV : V = U) : a = b := by
  subst hV
  by_cases hp : p
  · rw [h.1 hp, k.1 (hpq.1 hp)]
  · rw [h.2 hp, k.2 (fun hq => hp (hpq.2 hq))]
theorem Errs.ok {p : Prop} {V : Nat} (h : Errs p V 0) : p ∧ V < pw 40 := by
  by_cases hp : p
  · have := h.1 hp
    unfold overErr at this
    by_cases hV : V < pw 40
    · exact ⟨hp, hV⟩
    · rw [if_neg hV] at this; cases this
  · have := h.2 hp; cases this
theorem Errs.yes {p : Prop} {V : Nat} {er : Int} (h : Errs p V er) (hp : p) (hV : V < pw 40) : er = 0 := by rw [h.1 hp]; exact if_pos hV

section
variable {V U : Nat} {p q : Prop} {w : World} {v1 v2 : Value}
theorem add_arg (h1 : Arg w p V v1) (h2 : Arg w q U v2) : Calls Tryd.prog 8 #[v1, v2] w (Back w (Errs (p ∧ q) (V + U)) (V + U)) := by
  obtain ⟨A, k, c, f, rfl, hr, hf, rfl⟩ := h1
  obtain ⟨D, m, d, g, rfl, hs, hg, rfl⟩ := h2
  refine (add_any hr hs).mono fun e w' hA => hA.back ?_
  rw [hf, hg]
  unfold addErr
  exact ⟨fun h => if_pos h, fun h => if_neg h⟩
theorem mul_arg (h1 : Arg w p V v1) (h2 : Arg w q U v2) : Calls Tryd.prog 10 #[v1, v2] w (Back w (Errs (p ∧ q) (V * U)) (V * U)) := by
  obtain ⟨A, k, c, f, rfl, hr, hf, rfl⟩ := h1
  obtain ⟨D, m, d, g, rfl, hs, hg, rfl⟩ := h2
  refine (mul_any hr hs).mono fun e w' hA => hA.back ?_
  rw [hf, hg]
  unfold mulErr
  exact ⟨fun h => if_pos h, fun h => if_neg h⟩
theorem left_arg (h1 : Arg w p V v1) (k : Int) (hk : k ≤ 9223372036854775807) : Calls Tryd.prog 11 #[v1, .int .i64 k] w (Back w (fun er => (p → 0 ≤ k → er = overErr (V * 2 ^ k.toNat)) ∧ (p → k < 0 → er = 2) ∧ (¬ p → er = 8)) (V * 2 ^ k.toNat)) := by
  obtain ⟨A, n, c, f, rfl, hr, hf, rfl⟩ := h1
  refine (Left_any hr k hk).mono fun e w' hA => hA.back ?_
  rw [hf]
  unfold leftErr
  refine ⟨fun h h0 => ?_, fun h h0 => ?_, fun h => if_neg h⟩
  · rw [if_pos h, if_neg (by omega)]
  · rw [if_pos h, if_pos h0]
theorem right_arg (h1 : Arg w p V v1) (k : Int) (hk : k ≤ 9223372036854775807) : Calls Tryd.prog 12 #[v1, .int .i64 k] w (Back w (fun er => (p → 0 ≤ k → er = 0) ∧ (p → k < 0 → er = 2) ∧ (¬ p → er = 8)) (V / 2 ^ k.toNat)) := by
  obtain ⟨A, n, c, f, rfl, hr, hf, rfl⟩ := h1
  refine (Right_any hr k hk).mono fun e w' hA => hA.back ?_
  rw [hf]
  unfold rightErr
  refine ⟨fun h h0 => ?_, fun h h0 => ?_, fun h => if_neg h⟩
  · rw [if_pos h, if_neg (by omega)]
  · rw [if_pos h, if_pos h0]
theorem low_arg (h1 : Arg w p V v1) (hT : Tab w) : Calls Tryd.prog 17 #[v1] w fun e w' => ∃ (k : Nat) (er : Int), e = .returned (.tuple #[.int .i64 (k : Int), .int .i64 er]) ∧ Hid ((p → er = 0 ∧ LowOf V k) ∧ (¬ p → er = 8 ∧ k = 0)) ∧ Hid (Below w.heap.size w w') := by
  obtain ⟨A, n, c, f, rfl, hr, hf, rfl⟩ := h1
  refine (Low_any hr hT).mono ?_
  rintro e w' ⟨hb, k, rfl, hgood, hbad⟩
  rw [hf]
  exact ⟨k, _, rfl, ⟨fun h => ⟨chk_fit h, hgood h⟩, fun h => ⟨chk_bad h, hbad h⟩⟩, hb⟩
theorem bits_arg (h1 : Arg w p V v1) : Calls Tryd.prog 16 #[v1] w fun e w' => ∃ (s : Nat) (er : Int), e = .returned (.tuple #[.int .i64 (s : Int), .int .i64 er]) ∧ Hid ((p → er = 0 ∧ Size V s) ∧ (¬ p → er = 8 ∧ s = 0)) ∧ Hid (Below w.heap.size w w') := by
  obtain ⟨A, n, c, f, rfl, hr, hf, rfl⟩ := h1
  refine (Bits_any hr).mono ?_
  rintro e w' ⟨hb, k, rfl, hgood, hbad⟩
  rw [hf]
  exact ⟨k, _, rfl, ⟨fun h => ⟨chk_fit h, hgood h⟩, fun h => ⟨chk_bad h, hbad h⟩⟩, hb⟩
theorem check_arg (h1 : Arg w p V v1) : Calls Tryd.prog 20 #[v1] w fun e w' => ∃ er : Int, e = .returned (.int .i64 er) ∧ Hid ((p → er = 0) ∧ (¬ p → er = 8)) ∧ w = w' := by
  obtain ⟨A, n, c, f, rfl, hr, hf, rfl⟩ := h1
  refine (check_any hr).mono ?_
  rintro e w' ⟨rfl, rfl⟩
  rw [hf]
  exact ⟨_, rfl, ⟨fun h => chk_fit h, fun h => chk_bad h⟩, rfl⟩
end

end Go.Proofs.YtgjlifjkikojjaaDoor
