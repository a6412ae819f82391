/- slices.Grow of nil, slices.Clone. -/
import Derived.Test.YthklhhgkklpbkaaKsor
import Derived.Lib.AppendZeros
import Derived.Laws.Cover3
namespace Go.Proofs.Ythklhhgkklpbkaa
open Go.RowKit Go.Shelf Go.Lib

set_option maxHeartbeats 1600000 in
theorem grow_nil (n : Nat) (hn : n ≤ 100000) (w : World) :
    Calls Try.prog 38 #[.slice none 0 0, .int .i64 n] w fun e w' => ∃ v, e = .returned v ∧ Hid (Od w' w.heap.size v [] ∧ Below w.heap.size w w') := by
  rcases Nat.eq_zero_or_pos n with h0 | h0
  · subst h0
    go_enter Try.func38, Try.ntmps38
    go_wp2
    go_ret
    exact ⟨_, rfl, hid ⟨Od.nil _ _, Below.refl _ _⟩⟩
  · obtain ⟨i0, hi0, hz0, hzs, hzb⟩ := info_parts infoD
    obtain ⟨G, hG⟩ : ∃ G, G = grownCap w n 0 29 := ⟨_, rfl⟩
    have hGn : n ≤ G := by rw [hG]; exact grownCap_ge w _ _ _
    have hGm : G ≤ maxLen := by rw [hG]; exact grownCap_le_maxLen w n 0 29 (by unfold maxLen; omega)
    obtain ⟨ROW, hROW⟩ : ∃ ROW : Array Value, ROW = Builtin.zeroCells (Value.agg #[.int .i64 0, .int .i64 0]).cells n ++ Builtin.zeroCells (Value.agg #[.int .i64 0, .int .i64 0]).cells (G - n) := ⟨_, rfl⟩
    have hrz : ∀ ty, (Builtin.append_ #[22, 3] ty #[.slice none 0 0, .int .i64 (n : Int)]).run Try.prog w =
        .ok (.slice (some ⟨w.heap.size, 0, none⟩) n G) (w.drew.alloc (.cells ROW 29)) := fun ty => by
      have h := Lib.run_append_nil_zeros w 22 3 ty 29 i0 _ .i64 .i64 Try.underlying22 Try.underlying3 hi0 hz0 n h0 (by omega) (by omega) (by rw [hzb]; omega)
      rw [← hG, ← hROW] at h
      exact h
    have hRs : ROW.size = G * 2 := by
      rw [hROW, Array.size_append, size_zeroCells, size_zeroCells]
      show n * 2 + (G - n) * 2 = G * 2
      omega
    have HR : Hid (Od (w.drew.alloc (.cells ROW 29)) w.heap.size (.slice (some ⟨w.heap.size, 0, none⟩) 0 G) [] ∧ Below w.heap.size w (w.drew.alloc (.cells ROW 29))) := hid ⟨⟨⟨by simp [cellsD], .inr ⟨w.heap.size, G, ROW, rfl, Nat.le_refl _, heap_alloc_new w.drew _, Nat.zero_le _, hGm, hRs, by simp [cellsD]⟩⟩, by simp⟩, ((Below.refl _ w).drew).alloc (Nat.le_refl _) _⟩
    have hG63 : G ≤ 9223372036854775807 := by unfold maxLen at hGm; omega
    have hgt : (n : Int) > 0 := by omega
    have hng : ¬ (n : Int) < 0 := by omega
    have hG0 : ¬ (G = 0) := by omega
    clear hRs hROW hG
    go_enter Try.func38, Try.ntmps38
    go_wp2_with (at_builtin; refine Lib.wpList_append_run _ rfl _ _ _ _ rfl _ _ rfl rfl _ _ (hrz _) ?_)
    go_ret
    exact ⟨_, rfl, HR⟩

set_option maxHeartbeats 1600000 in
theorem clone_any {w : World} {B n c : Nat} {A : Option Addr} {l : List De} (h : Ds w B A n c l) (hB : B ≤ w.heap.size) (hn : n ≤ 100000) :
    Calls Try.prog 25 #[.slice A n c] w fun e w' => ∃ v, e = .returned v ∧ Hid (Od w' w.heap.size v l ∧ Below w.heap.size w w') := by
  have H := hid h
  have heq : ∀ (A : Option Addr) (n c : Nat) (W : World), (binOp .eql 22 (.slice A n c) (.slice none 0 0)).run Try.prog W = .ok (.bool A.isNone) W := fun A n c W => by
    simp only [binOp]
    simp [run_equal_slice_nil W _ _ A n c Try.underlying22]
  cases A with
  | none =>
    obtain ⟨rfl, rfl⟩ := h.nil rfl
    obtain rfl := List.length_eq_zero_iff.1 h.len
    clear h
    have heq := heq none 0 0
    go_enter Try.func25, Try.ntmps25
    go_wp2_with (simp only [heq])
    go_ret
    exact ⟨_, rfl, hid ⟨Od.nil _ _, Below.refl _ _⟩⟩
  | some a =>
    have hb1 : Below w.heap.size w (w.alloc (.cells #[] 29)) := (Below.refl _ w).alloc (Nat.le_refl _) _
    have HO := hid (od_at (heap_alloc_new w (.cells #[] 29)) (Nat.le_refl w.heap.size))
    have HD := hid ((h.mono hB).below hb1)
    have HB1 := hid hb1
    clear h hb1
    have heq := heq (some a) n c
    go_enter Try.func25, Try.ntmps25
    go_wp2_with (first
      | simp only [heq]
      | (at_builtin; refine list_appD rfl _ _ rfl rfl rfl HO.out HD.out (by simpa using hn) (by simp) ?_; intro v' w' HT)
      | go_in)
    go_ret
    refine ⟨_, rfl, hid ⟨HT.out.own, ?_⟩⟩
    refine HB1.out.trans ?_
    refine ⟨HT.out.grown.os, HT.out.grown.tape, HT.out.grown.output, HT.out.grown.size, fun k hk => HT.out.grown.block k (by simp; omega) (fun e => ?_)⟩
    have e2 : k = w.heap.size := Option.some.inj e
    omega
end Go.Proofs.Ythklhhgkklpbkaa
