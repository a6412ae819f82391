/- The contracts of package limb that whatever asks dyads uses, for numbers that may be. -/
import Derived.Test.YtmaggpigodkhhaaLeft
import Derived.Test.YtmaggpigodkhhaaDmath
import Derived.Test.YtmaggpigodkhhaaBitsLaw
namespace Go.Proofs.Ytmaggpigodkhhaa
open Go.RowKit

/-- The slice v lies from block B on, or nowhere. -/
def New (B : Nat) (v : Value) : Prop := ∀ b off n c, v = .slice (some ⟨b, off, none⟩) n c → B ≤ b
theorem New.nil (B c n : Nat) : New B (.slice none n c) := fun b off n c h => by cases h
theorem New.mono {B B' : Nat} {v : Value} (h : New B v) (hB : B' ≤ B) : New B' v := fun b off n c hv => Nat.le_trans hB (h b off n c hv)
theorem Num.new {t : TypeId} {B V : Nat} {w : World} {v : Value} (h : Num t B w V v) : New B v := by
  obtain ⟨A, k, c, f, rfl, hm, _, _⟩ := h
  intro b off n c hv
  rcases hm.own with ⟨rfl, _, _⟩ | ⟨g, cs, rfl, hg, _⟩
  · cases hv
  · injection hv with h1
    injection h1 with h1
    injection h1 with h1
    omega
theorem Val.shape {w : World} {V : Nat} {v : Value} (h : Val w V v) : ∃ A n c, v = .slice A n c := by
  obtain ⟨A, n, c, _, rfl, _⟩ := h
  exact ⟨A, n, c, rfl⟩
/-- A store elsewhere. -/
theorem Val.set {w : World} {V g : Nat} {v : Value} (h : Val w V v) (hn : New (g + 1) v) (j : Nat) (u : Value) : Val (w.setCell ⟨g, j, none⟩ u) V v := by
  obtain ⟨A, n, c, f, rfl, hr, hf, hV⟩ := h
  refine ⟨A, n, c, f, rfl, ⟨hr.cap, hr.max, hr.lt, hr.out, fun hn0 => ?_⟩, hf, hV⟩
  obtain ⟨b, off, rfl, hB, hc⟩ := hr.at_ hn0
  have hb := hn b off n c rfl
  have hblk := Below.heap_setCell w ⟨g, j, none⟩ u b (by show b ≠ g; omega)
  refine ⟨b, off, rfl, by simpa [World.setCell] using hB, fun j hj => ?_⟩
  rw [← hc j hj]
  exact World.cell?_of_block hblk

theorem Num.shape {t : TypeId} {B V : Nat} {w : World} {v : Value} (h : Num t B w V v) : ∃ A n c, v = .slice A n c := by
  obtain ⟨A, n, c, _, rfl, _⟩ := h
  exact ⟨A, n, c, rfl⟩
theorem Num.set {t : TypeId} {B V g : Nat} {w : World} {v : Value} (h : Num t B w V v) (hg : g < B) (j : Nat) (u : Value) : Num t B (w.setCell ⟨g, j, none⟩ u) V v := by
  obtain ⟨A, n, c, f, rfl, hm, hf, hV⟩ := h
  refine ⟨A, n, c, f, rfl, ⟨hm.cap, hm.max, hm.lt, hm.out, ?_⟩, hf, hV⟩
  rcases hm.own with h0 | ⟨b, cs, rfl, hB, hh, hs, hc⟩
  · exact .inl h0
  · exact .inr ⟨b, cs, rfl, hB, (Below.heap_setCell w ⟨g, j, none⟩ u b (by show b ≠ g; omega)).trans hh, hs, hc⟩

/-- As Back, and the limbs lie in new memory. -/
def Backn (w : World) (E : Int → Prop) (V : Nat) (e : Ending) (w' : World) : Prop := ∃ v er, e = .returned (.tuple #[v, .int .i64 er]) ∧ Hid (E er) ∧ Hid (Num 50 w.heap.size w' (resV er V) v) ∧ Hid (Below w.heap.size w w')
theorem Ans.backn {w w' : World} {er : Int} {V : Nat} {e : Ending} {E : Int → Prop} (h : Ans 50 w er V e w') (hE : E er) : Backn w E V e w' := by
  obtain ⟨hb, v, rfl, hg, hn⟩ := h
  refine ⟨v, er, rfl, hE, ?_, hb⟩
  by_cases he : er = 0
  · rw [resV_ok he]; exact hg he
  · rw [resV_bad he, hn he]; exact Num.zero _ _ _

section
variable {V U : Nat} {w : World} {v1 v2 : Value}
end
theorem over_ok {V : Nat} (h : V < pw 40) : overErr V = 0 := if_pos h
theorem over_bad {V : Nat} (h : ¬ V < pw 40) : overErr V = 10 := if_neg h


end Go.Proofs.Ytmaggpigodkhhaa
