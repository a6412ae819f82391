/- New, Same and Twin of caches. -/
import Derived.Test.YtdemhghflanncaaCkeep
namespace Go.Proofs.Ytdemhghflanncaa
open Go.RowKit Go.Shelf Go.Lib

set_option maxHeartbeats 1600000 in
theorem cnew_any (o p : Int) (w : World) :
    Calls Try.prog 33 #[.int .i64 o, .int .i64 p] w fun e w' => e = .returned (.tuple #[if NMay o p then cav o p (.slice none 0 0) else cav 0 0 (.slice none 0 0), .int .i64 (if NMay o p then 0 else 2)]) ∧ Hid (Below w.heap.size w w') := by
  have HB := hid ((Below.refl w.heap.size w).alloc (Nat.le_refl _) (.cells #[.int .i64 0, .int .i64 0, .slice none 0 0] 29))
  have HX := hid (cache_new w)
  by_cases h : NMay o p
  · rw [if_pos h, if_pos h]
    obtain ⟨h1, h2, h3, h4⟩ := h
    have g1 : ¬ o < 0 := by omega
    have g2 : ¬ o ≥ 8 := by omega
    have g3 : ¬ p < 1 := by omega
    have g4 : ¬ p > 6 := by omega
    go_enter Try.func33, Try.ntmps33
    go_wp2
    refine ret_cache rfl rfl rfl rfl (o := o) (q := p) (v := .slice none 0 0) (heap_alloc_new w _) ?_
    exact ⟨rfl, hid ((Below.refl w.heap.size w).alloc (Nat.le_refl _) _)⟩
  · rw [if_neg h, if_neg h]
    have H := hid h
    clear h
    go_enter Try.func33, Try.ntmps33
    by_cases g1 : o < 0
    · go_wp2
      refine ret_cache rfl rfl rfl rfl HX.out ?_
      exact ⟨rfl, HB⟩
    by_cases g2 : o ≥ 8
    · go_wp2
      refine ret_cache rfl rfl rfl rfl HX.out ?_
      exact ⟨rfl, HB⟩
    by_cases g3 : p < 1
    · go_wp2
      refine ret_cache rfl rfl rfl rfl HX.out ?_
      exact ⟨rfl, HB⟩
    have g4 : p > 6 := by
      refine Int.not_le.1 fun h4 => H.out ⟨by omega, by omega, by omega, h4⟩
    go_wp2
    refine ret_cache rfl rfl rfl rfl HX.out ?_
    exact ⟨rfl, HB⟩
set_option maxHeartbeats 3200000 in
theorem csame_any {w : World} {B C n c m d : Nat} {A D : Option Addr} {l r : List De} (o p o' p' : Int) (h : Ds w B A n c l) (k : Ds w C D m d r) (hB : B ≤ w.heap.size) (hC : C ≤ w.heap.size) :
    Calls Try.prog 35 #[cav o p (.slice A n c), cav o' p' (.slice D m d)] w fun e w' => e = .returned (.bool (decide (o = o' ∧ p = p' ∧ l = r))) ∧ Hid (Below w.heap.size w w') := by
  have B0 := hid (((Below.refl w.heap.size w).alloc (Nat.le_refl _) (.cells #[.int .i64 o, .int .i64 p, .slice A n c] 29)).alloc (by simp) (.cells #[.int .i64 o', .int .i64 p', .slice D m d] 29))
  have CM := hid (dsame_any ((h.mono hB).below B0.out) ((k.mono hC).below B0.out) B0.out.size B0.out.size)
  clear h hB k hC
  unfold cav
  by_cases h1 : o = o'
  case neg =>
    rw [decide_eq_false (show ¬ (o = o' ∧ p = p' ∧ l = r) from fun h => h1 h.1)]
    clear CM
    go_enter Try.func35, Try.ntmps35
    go_wp2_with fail
    go_ret
    exact ⟨rfl, B0⟩
  subst h1
  by_cases h2 : p = p'
  case neg =>
    rw [decide_eq_false (show ¬ (o = o ∧ p = p' ∧ l = r) from fun h => h2 h.2.1)]
    clear CM
    go_enter Try.func35, Try.ntmps35
    go_wp2_with fail
    go_ret
    exact ⟨rfl, B0⟩
  subst h2
  rw [show decide (o = o ∧ p = p ∧ l = r) = decide (l = r) by simp]
  generalize decide (l = r) = q at CM ⊢
  go_enter Try.func35, Try.ntmps35
  go_wp2_with fail
  refine CM.out.mono ?_
  rintro e w1 ⟨rfl, hb⟩
  go_wp2
  go_ret
  exact ⟨rfl, hid (B0.out.trans (hb.out.mono B0.out.size))⟩

end Go.Proofs.Ytdemhghflanncaa
