/- The law's spoil, of a dyad. -/
import Derived.Test.YtjppogmhibmebaaEmay
namespace Go.Proofs.Ytjppogmhibmebaa
open Go.RowKit

set_option maxHeartbeats 800000 in
theorem spoild_nil (s : Bool) (c : Nat) (x : Int) (w : World) :
    Calls Try.prog 15 #[.agg #[.bool s, .slice none 0 c, .int .i64 x]] w fun e w' => e = .returned (.tuple #[]) ∧ w.alloc (.cells #[.bool s, .slice none 0 c, .int .i64 x] 24) = w' := by
  go_enter Try.func15, Try.ntmps15
  go_wp2
  refine wp_loop_rounds 1 ?_
  rw [rounds_succ]
  go_wp2
  go_end0
  exact ⟨rfl, rfl⟩

set_option maxHeartbeats 1600000 in
theorem spoild_row (g n c B : Nat) (cs : Array Value) (s : Bool) (x : Int) (w : World) (hh : w.heap[g]? = some (.cells cs 48 (0, 0))) (hn : n ≤ cs.size) (hc : n ≤ c) (hm : n ≤ 140737488355328) (hg : B ≤ g) :
    Calls Try.prog 15 #[.agg #[.bool s, .slice (some ⟨g, 0, none⟩) n c, .int .i64 x]] w fun e w' => e = .returned (.tuple #[]) ∧ Hid (Below B w w') ∧ Hid (∀ i, i ≠ g → i < w.heap.size → w'.heap[i]? = w.heap[i]?) ∧ Hid (∃ cs' : Array Value, w'.heap[g]? = some (.cells cs' 48 (0, 0)) ∧ cs'.size = cs.size) := by
  have hgl := lt_of_heap hh
  have HH := hid ((Below.heap_alloc w (.cells #[.bool s, .slice (some ⟨g, 0, none⟩) n c, .int .i64 x] 24) g hgl).trans hh)
  have P0 : Hid (Dbox _ w.heap.size s (.slice (some ⟨g, 0, none⟩) n c) x) := heap_alloc_new w (.cells #[.bool s, .slice (some ⟨g, 0, none⟩) n c, .int .i64 x] 24)
  have B0 := hid ((Below.refl B w).alloc (by omega) (.cells #[.bool s, .slice (some ⟨g, 0, none⟩) n c, .int .i64 x] 24))
  have HO := hid (fun i (_ : i ≠ g) (hi : i < w.heap.size) => Below.heap_alloc w (.cells #[.bool s, .slice (some ⟨g, 0, none⟩) n c, .int .i64 x] 24) i hi)
  clear hh
  go_enter Try.func15, Try.ntmps15
  go_wp2
  go_loopw [2] (fun i wr => ∃ k : Nat, k ≤ n ∧ i = .int .i64 k ∧ Hid (Dbox wr w.heap.size s (.slice (some ⟨g, 0, none⟩) n c) x) ∧ Hid (∃ cs' : Array Value, wr.heap[g]? = some (.cells cs' 48 (0, 0)) ∧ cs'.size = cs.size) ∧ Hid (Below B w wr) ∧ Hid (∀ i, i ≠ g → i < w.heap.size → wr.heap[i]? = w.heap[i]?)) (fun i _ => n - (intOf i).toNat)
  case atStart => exact ⟨0, Nat.zero_le _, rfl, P0, ⟨cs, HH.out, rfl⟩, B0, HO⟩
  case round =>
    obtain ⟨k, hk, rfl, P, Hcs, hbel, hoth⟩ := hrel
    have a1 := P.out.c1
    by_cases hkn : k < n
    · have hcell : ∃ u, wr.cell? ⟨g, k, none⟩ = some u := by
        obtain ⟨cs', h1, h2⟩ := Hcs.out
        refine ⟨cs'[k], ?_⟩
        rw [cell_of_row wr g k cs' 48 (0, 0) h1, Array.getElem?_eq_getElem (by omega)]
      have hfr : wr.frozen? ⟨g, k, none⟩ = false := by
        obtain ⟨cs', h1, h2⟩ := Hcs.out
        exact frozen_of_row wr g k cs' 48 h1
      have Hcs2 : Hid (∃ cs' : Array Value, (wr.setCell ⟨g, k, none⟩ (.int .u32 7)).heap[g]? = some (.cells cs' 48 (0, 0)) ∧ cs'.size = cs.size) := by
        obtain ⟨cs', h1, h2⟩ := Hcs.out
        exact ⟨_, heap_setCell_same wr g k cs' 48 _ h1, by simpa using h2⟩
      have P2 := hid (P.out.far (k := g) (by omega) k (.int .u32 7))
      have hbel2 := hid (hbel.out.setCell (p := ⟨g, k, none⟩) hg (.int .u32 7))
      have hoth2 := hid (fun i (hi : i ≠ g) (hl : i < w.heap.size) => (Below.heap_setCell wr ⟨g, k, none⟩ (.int .u32 7) i hi).trans (hoth.out i hi hl))
      obtain ⟨u, hcell⟩ := hcell
      clear Hcs hbel hoth P
      go_wp2
      go_roundw
      case rel => exact ⟨k + 1, by omega, by go_num, P2, Hcs2, hbel2, hoth2⟩
      case measure => simp [intOf]; omega
    · obtain rfl : k = n := by omega
      go_wp2
      go_end0
      exact ⟨rfl, hbel, hoth, Hcs⟩

/-- A dyad of the call's own whose limbs may be written over. -/
def Spd (B : Nat) (w : World) (d : Value) : Prop := ∃ s v x, d = .agg #[.bool s, v, .int .i64 x] ∧ ((v = .slice none 0 0) ∨ ∃ g n c cs, v = .slice (some ⟨g, 0, none⟩) n c ∧ B ≤ g ∧ w.heap[g]? = some (.cells cs 48 (0, 0)) ∧ n ≤ cs.size ∧ n ≤ c ∧ n ≤ 140737488355328)
theorem Dn.spd {B : Nat} {w : World} {M : Int} {d : Value} (h : Dn B w M d) : Spd B w d := by
  obtain ⟨s, v, x, V, rfl, ⟨A, k, c, f, rfl, hm, _, _⟩, _⟩ := h
  refine ⟨s, _, _, rfl, ?_⟩
  rcases hm.own with ⟨rfl, rfl, rfl⟩ | ⟨g, cs, rfl, hg, hh, hs, hc⟩
  · exact .inl rfl
  · exact .inr ⟨g, k, c, cs, rfl, hg, hh, Nat.le_trans hm.cap hs, hm.cap, hm.max⟩
theorem Spd.below {B : Nat} {w w' : World} {d : Value} (h : Spd B w d) (hb : Below w.heap.size w w') : Spd B w' d := by
  obtain ⟨s, v, x, hd, h⟩ := h
  refine ⟨s, v, x, hd, ?_⟩
  rcases h with h | ⟨g, n, c, cs, hv, hB, hh, h1, h2, h3⟩
  · exact .inl h
  · exact .inr ⟨g, n, c, cs, hv, hB, (hb.block g (lt_of_heap hh)).trans hh, h1, h2, h3⟩
theorem Spd.mono {B B' : Nat} {w : World} {d : Value} (h : Spd B w d) (hB : B' ≤ B) : Spd B' w d := by
  obtain ⟨s, v, x, hd, h⟩ := h
  refine ⟨s, v, x, hd, ?_⟩
  rcases h with h | ⟨g, n, c, cs, hv, hB', hh⟩
  · exact .inl h
  · exact .inr ⟨g, n, c, cs, hv, Nat.le_trans hB hB', hh⟩

theorem spoild_any {B : Nat} {w : World} {d : Value} (h : Spd B w d) (hB : B ≤ w.heap.size) :
    Calls Try.prog 15 #[d] w fun e w' => e = .returned (.tuple #[]) ∧ Hid (Below B w w') ∧ Hid (∀ B2 u, Spd B2 w u → Spd B2 w' u) ∧ Hid (∀ g s v x, Dbox w g s v x → Dbox w' g s v x) := by
  obtain ⟨s, v, x, rfl, h⟩ := h
  rcases h with rfl | ⟨g, n, c, cs, rfl, hg, hh, h1, h2, h3⟩
  · refine (spoild_nil s 0 x w).mono ?_
    rintro e w' ⟨rfl, rfl⟩
    exact ⟨rfl, (Below.refl _ _).alloc hB _, fun B2 u hu => hu.below ((Below.refl _ _).alloc (Nat.le_refl _) _), fun g s v x hd => hd.alloc _⟩
  · refine (spoild_row g n c B cs s x w hh h1 h2 h3 hg).mono ?_
    rintro e w' ⟨rfl, hb, ho, hs⟩
    have hdk : ∀ k t u y, Dbox w k t u y → Dbox w' k t u y := by
      intro k t u y hd
      have hne : k ≠ g := by
        rintro rfl
        unfold Dbox at hd
        rw [hh] at hd
        injection hd with hd
        injection hd with _ ht
        exact absurd ht (by decide)
      exact (ho.out k hne hd.lt).trans hd
    refine ⟨rfl, hb, fun B2 u hu => ?_, hdk⟩
    obtain ⟨s2, v2, x2, hd, hu⟩ := hu
    refine ⟨s2, v2, x2, hd, ?_⟩
    rcases hu with hu | ⟨g2, n2, c2, cs2, hv, hB2, hh2, k1, k2, k3⟩
    · exact .inl hu
    · right
      by_cases hgg : g2 = g
      · subst hgg
        obtain ⟨cs', e1, e2⟩ := hs.out
        rw [hh] at hh2
        injection hh2 with hh2
        injection hh2 with hh2
        subst hh2
        exact ⟨g2, n2, c2, cs', hv, hB2, e1, by omega, k2, k3⟩
      · exact ⟨g2, n2, c2, cs2, hv, hB2, (ho.out g2 hgg (lt_of_heap hh2)).trans hh2, k1, k2, k3⟩

end Go.Proofs.Ytjppogmhibmebaa
