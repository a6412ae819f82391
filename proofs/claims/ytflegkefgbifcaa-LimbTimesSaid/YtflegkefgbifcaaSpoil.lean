/- The law's spoil. -/
import Derived.Test.YtflegkefgbifcaaVal
namespace Go.Proofs.Ytflegkefgbifcaa
open Go.RowKit

set_option maxHeartbeats 800000 in
theorem spoil_nil (c : Nat) (w : World) :
    Calls Try.prog 11 #[.slice none 0 c] w fun e w' => e = .returned (.tuple #[]) ∧ w = w' := by
  go_enter Try.func11, Try.ntmps11
  go_wp2
  refine wp_loop_rounds 1 ?_
  rw [rounds_succ]
  go_wp2
  go_end0
  exact ⟨rfl, rfl⟩

set_option maxHeartbeats 800000 in
theorem spoil_row (g n c B : Nat) (cs : Array Value) (e : TypeId) (w : World) (hh : w.heap[g]? = some (.cells cs e (0, 0))) (hn : n ≤ cs.size) (hc : n ≤ c) (hm : n ≤ 140737488355328) (hg : B ≤ g) :
    Calls Try.prog 11 #[.slice (some ⟨g, 0, none⟩) n c] w fun e w' => e = .returned (.tuple #[]) ∧ Below B w w' ∧ ∀ i, i ≠ g → w'.heap[i]? = w.heap[i]? := by
  have HH := hid hh
  clear hh
  go_enter Try.func11, Try.ntmps11
  go_wp2
  go_loopw [2] (fun i wr => ∃ k : Nat, k ≤ n ∧ i = .int .i64 k ∧ Hid (∃ cs' : Array Value, wr.heap[g]? = some (.cells cs' e (0, 0)) ∧ n ≤ cs'.size) ∧ Hid (Below B w wr) ∧ Hid (∀ i, i ≠ g → wr.heap[i]? = w.heap[i]?)) (fun i _ => n - (intOf i).toNat)
  case atStart => exact ⟨0, Nat.zero_le _, rfl, ⟨cs, HH.out, hn⟩, Below.refl _ _, hid fun _ _ => rfl⟩
  case round =>
    obtain ⟨k, hk, rfl, Hcs, hbel, hoth⟩ := hrel
    by_cases hkn : k < n
    · have hcell : ∃ u, wr.cell? ⟨g, k, none⟩ = some u := by
        obtain ⟨cs', h1, h2⟩ := Hcs.out
        refine ⟨cs'[k], ?_⟩
        rw [cell_of_row wr g k cs' e (0, 0) h1, Array.getElem?_eq_getElem (by omega)]
      have hfr : wr.frozen? ⟨g, k, none⟩ = false := by
        obtain ⟨cs', h1, h2⟩ := Hcs.out
        exact frozen_of_row wr g k cs' e h1
      have Hcs2 : Hid (∃ cs' : Array Value, (wr.setCell ⟨g, k, none⟩ (.int .u32 7)).heap[g]? = some (.cells cs' e (0, 0)) ∧ n ≤ cs'.size) := by
        obtain ⟨cs', h1, h2⟩ := Hcs.out
        exact ⟨_, heap_setCell_same wr g k cs' e _ h1, by simpa using h2⟩
      have hbel2 := hid (hbel.out.setCell (p := ⟨g, k, none⟩) hg (.int .u32 7))
      have hoth2 := hid (fun i (hi : i ≠ g) => (Below.heap_setCell wr ⟨g, k, none⟩ (.int .u32 7) i hi).trans (hoth.out i hi))
      obtain ⟨u, hcell⟩ := hcell
      clear Hcs hbel hoth
      go_wp2
      go_roundw
      case rel => exact ⟨k + 1, by omega, by go_num, Hcs2, hbel2, hoth2⟩
      case measure => simp [intOf]; omega
    · obtain rfl : k = n := by omega
      go_wp2
      go_end0
      exact ⟨rfl, hbel.out, hoth.out⟩

/-- What a call handed back beside an error: a number's limbs of the call's own, or none. -/
def Got (t : TypeId) (B : Nat) (w : World) (er : Int) (V : Nat) (v : Value) : Prop := (er = 0 → Num t B w V v) ∧ (er ≠ 0 → v = .slice none 0 0)

theorem Got.below {t : TypeId} {B B' V : Nat} {w w' : World} {er : Int} {v : Value} (h : Got t B w er V v) (hb : Below B' w w') (hB : w.heap.size ≤ B') : Got t B w' er V v :=
  ⟨fun he => (h.1 he).below hb hB, h.2⟩
theorem Num.above {t : TypeId} {B V : Nat} {w w' : World} {v : Value} (h : Num t B w V v) (hb : ∀ i, B ≤ i → w'.heap[i]? = w.heap[i]?) : Num t B w' V v := by
  obtain ⟨A, k, c, f, hv, hm, hf, hV⟩ := h
  refine ⟨A, k, c, f, hv, ⟨hm.cap, hm.max, hm.lt, hm.out, ?_⟩, hf, hV⟩
  rcases hm.own with h0 | ⟨g, cs, hA, hg, hh, hs, hc⟩
  · exact .inl h0
  · exact .inr ⟨g, cs, hA, hg, (hb g hg).trans hh, hs, hc⟩
theorem Got.above {t : TypeId} {B V : Nat} {w w' : World} {er : Int} {v : Value} (h : Got t B w er V v) (hb : ∀ i, B ≤ i → w'.heap[i]? = w.heap[i]?) : Got t B w' er V v :=
  ⟨fun he => (h.1 he).above hb, h.2⟩

/-- 'spoil', of what a call handed back in world w0. -/
theorem spoil_got {t : TypeId} {w0 w : World} {B V : Nat} {er : Int} {v : Value} (h : Got t B w0 er V v) (hb : ∀ i, i < w0.heap.size → B ≤ i → w.heap[i]? = w0.heap[i]?) :
    Calls Try.prog 11 #[v] w fun e w' => e = .returned (.tuple #[]) ∧ Below B w w' ∧ ∀ i, w0.heap.size ≤ i → w'.heap[i]? = w.heap[i]? := by
  by_cases he : er = 0
  · obtain ⟨A, k, c, f, rfl, hm, hf, hV⟩ := h.1 he
    rcases hm.own with ⟨rfl, rfl, rfl⟩ | ⟨g, cs, rfl, hg, hh, hs, hc⟩
    · refine (spoil_nil 0 w).mono ?_
      rintro e w' ⟨rfl, rfl⟩
      exact ⟨rfl, Below.refl _ _, fun _ _ => rfl⟩
    · have hl := lt_of_heap hh
      refine (spoil_row g k c B cs t w ((hb g hl hg).trans hh) (by have := hm.cap; omega) hm.cap hm.max hg).mono ?_
      rintro e w' ⟨rfl, hb', ho⟩
      exact ⟨rfl, hb', fun i hi => ho i (by omega)⟩
  · obtain rfl := h.2 he
    refine (spoil_nil 0 w).mono ?_
    rintro e w' ⟨rfl, rfl⟩
    exact ⟨rfl, Below.refl _ _, fun _ _ => rfl⟩

end Go.Proofs.Ytflegkefgbifcaa
