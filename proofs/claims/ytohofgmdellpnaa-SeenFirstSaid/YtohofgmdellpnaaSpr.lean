/- Seen: the program's searching and what it asks. -/
import Derived.Test.YtohofgmdellpnaaSrr
import Derived.Deep.RegionWith
namespace Go.Proofs.Ytohofgmdellpnaa.Seen
open Go.RowKit Go.Shelf Go.Lib

/-- What cmp.Compare of two numbers answers. -/
def cmpN (a b : Int) : Int := if a < b then -1 else if b < a then 1 else 0
theorem nan_any (x : Int) (w : World) : Calls Try.prog 32 #[.int .i64 x] w fun e w' => e = .returned (.bool false) ∧ w' = w := by
  go_enter Try.func32, Try.ntmps32
  go_wp2
  go_ret
  exact ⟨rfl, rfl⟩
theorem compare_any (x y : Int) (w : World) : Calls Try.prog 29 #[.int .i64 x, .int .i64 y] w fun e w' => e = .returned (.int .i64 (cmpN x y)) ∧ w' = w := by
  by_cases h1 : x < y
  · rw [show cmpN x y = -1 from if_pos h1]
    go_enter Try.func29, Try.ntmps29
    go_wp2_with (first | (go_at_call 32; refine (nan_any _ _).mono ?_; rintro e w2 ⟨rfl, rfl⟩) | fail)
    go_ret
    exact ⟨rfl, rfl⟩
  · by_cases h2 : y < x
    · rw [show cmpN x y = 1 from (if_neg h1).trans (if_pos h2)]
      have h2z : x > y := h2
      go_enter Try.func29, Try.ntmps29
      go_wp2_with (first | (go_at_call 32; refine (nan_any _ _).mono ?_; rintro e w2 ⟨rfl, rfl⟩) | fail)
      go_ret
      exact ⟨rfl, rfl⟩
    · rw [show cmpN x y = 0 from (if_neg h1).trans (if_neg h2)]
      have h2z : ¬ x > y := h2
      go_enter Try.func29, Try.ntmps29
      go_wp2_with (first | (go_at_call 32; refine (nan_any _ _).mono ?_; rintro e w2 ⟨rfl, rfl⟩) | fail)
      go_ret
      exact ⟨rfl, rfl⟩
theorem ask_find (a x n : Int) {g : Nat} {w : World} (h : w.cell? ⟨g, 0, none⟩ = some (.int .i64 n)) :
    Calls Try.prog 28 #[.int .i64 a, .int .i64 x, .pointer (some ⟨g, 0, none⟩)] w fun e w' => e = .returned (.int .i64 (cmpN x n)) ∧ w' = w := by
  go_enter Try.func28, Try.ntmps28
  go_wp2_with fail
  refine (compare_any _ _ _).mono ?_
  rintro e w2 ⟨rfl, rfl⟩
  go_wp2
  go_ret
  exact ⟨rfl, rfl⟩
theorem ask_first (a x : Int) {w : World} :
    Calls Try.prog 24 #[.int .i64 a, .int .i64 x] w fun e w' => e = .returned (.int .i64 (if x = a then -1 else 1)) ∧ w' = w := by
  by_cases h : x = a
  · rw [if_pos h]
    subst h
    go_enter Try.func24, Try.ntmps24
    go_wp2
    go_ret
    exact ⟨rfl, rfl⟩
  · rw [if_neg h]
    have hb : (x == a) = false := beq_eq_false_iff_ne.2 h
    go_enter Try.func24, Try.ntmps24
    go_wp2
    go_ret
    exact ⟨rfl, rfl⟩
theorem searching_any (f : Nat) (lb : Array Value) (w : World) : Calls Try.prog 23 #[.func (.func f) #[] lb] w fun e w' =>
    e = .returned (.func (.func 31) #[] #[.pointer (some ⟨w.heap.size, 0, none⟩)]) ∧ w' = w.alloc (.cells #[.func (.func f) #[] lb] 51) := by
  go_enter Try.func23, Try.ntmps23
  go_wp2
  go_ret
  exact ⟨rfl, rfl⟩

/-- Asked of the number in place j: it is ahead of what is sought, it is that, or it is behind. -/
def ansN (p : Nat) (hit : Bool) (j : Nat) : Int := if j < p then -1 else if hit = true ∧ j = p then 0 else 1

set_option maxHeartbeats 6400000 in
set_option maxRecDepth 100000 in
theorem search_any (f : Nat) (lb : Array Value) (eg : ∀ args w, (callFunc f args).run Try.prog w = .ok (.enter f args) w) {w : World} {B n c g : Nat} {A : Option Addr} {l : List Int} {p : Nat} {hit : Bool}
    (hc : w.cell? ⟨g, 0, none⟩ = some (.func (.func f) #[] lb)) (hgB : g < w.heap.size) (h : Gs w B A n c 1 (cellsI l)) (hB : B ≤ w.heap.size) (hp : p ≤ n) (hh : hit = true → p < n) (hn : n ≤ 5000)
    (ha : ∀ (X : World) (j : Nat) (x : Int), Below w.heap.size w X → l[j]? = some x → Calls Try.prog f (#[.int .i64 j, .int .i64 x] ++ lb) X fun e w' => e = .returned (.int .i64 (ansN p hit j)) ∧ w' = X) :
    Calls Try.prog 31 #[.slice A n c, .pointer (some ⟨g, 0, none⟩)] w fun e w' => e = .returned (.tuple #[.int .i64 p, .bool hit]) ∧ Hid (Below w.heap.size w w') := by
  have H := hid (h.mono hB)
  have HC := hid hc
  have HA := hid ha
  have hcap := h.cap
  clear h hc ha
  go_enter Try.func31, Try.ntmps31
  go_wp2
  refine wp_scope_straight ?_
  go_wp2
  refine wp_label ?_
  go_wp2
  go_loopg [4, 5, 6] n (fun gg s4 s5 s6 wr => ∃ (a b : Nat), s4 = .bool false ∧ a ≤ p ∧ p ≤ b ∧ b ≤ n ∧ (hit = true → p < b) ∧ b - a ≤ gg ∧ s5 = .int .i64 a ∧ s6 = .int .i64 b ∧ Hid (Below w.heap.size w wr))
  case atStart => exact ⟨0, n, rfl, Nat.zero_le _, hp, Nat.le_refl _, hh, by omega, rfl, rfl, hid (Below.refl _ w)⟩
  case round =>
    obtain ⟨a, b, rfl, hap, hpb, hbn, hit2, hg, rfl, rfl, BW⟩ := hrel
    have HIT := hid hit2
    clear hit2
    by_cases hlt : a < b
    · have hltz : (a : Int) < (b : Int) := by omega
      obtain ⟨m, hm⟩ : ∃ m, m = (a + b) / 2 := ⟨_, rfl⟩
      have hma : a ≤ m := by omega
      have hmb : m < b := by omega
      have hdv : ((a : Int) + (b : Int)) / 2 = (m : Int) := by omega
      obtain ⟨y, hy⟩ := H.out.iget (show m < n by omega)
      obtain ⟨q, off, rfl, _, hc⟩ := (H.out.below BW.out).iat (by omega)
      have c1 := hc m y hy
      have c2 := (BW.out.cell (p := ⟨g, 0, none⟩) hgB).trans HC.out
      have Hy := hid hy
      have HM := hid hm
      have hmn : m < n := by omega
      have hmnz : (m : Int) < (n : Int) := by omega
      clear hc hy hm
      go_upto_region 4 with fail
      rw [hdv]
      clear hdv
      by_cases h1 : m < p
      · have hans : ansN p hit m = -1 := if_pos h1
        have HQ := hid (fun (W : World) (hb : Below w.heap.size w W) => by have h1 := HA.out W m y hb Hy.out; rw [hans] at h1; exact h1)
        clear hans
        go_quiet ((exact Calls.quiet_of_same (HQ.out _ (below_drewN BW.out _))))
        go_wp2
        go_roundg (b - (m + 1))
        case measure => omega
        case rel => exact ⟨m + 1, b, rfl, by omega, hpb, hbn, HIT.out, by omega, by go_num, rfl, hid (below_drewN BW.out _)⟩
      · by_cases h2 : hit = true ∧ m = p
        · have hans : ansN p hit m = 0 := (if_neg h1).trans (if_pos h2)
          have HQ := hid (fun (W : World) (hb : Below w.heap.size w W) => by have h1 := HA.out W m y hb Hy.out; rw [hans] at h1; exact h1)
          have H2 := hid h2
          clear hans h2
          go_quiet ((exact Calls.quiet_of_same (HQ.out _ (below_drewN BW.out _))))
          go_wp2
          simp only [Exit.noGoto]
          go_ret2
          exact ⟨by rw [H2.out.1, H2.out.2]; rfl, hid (below_drewN BW.out _)⟩
        · have hans : ansN p hit m = 1 := (if_neg h1).trans (if_neg h2)
          have HQ := hid (fun (W : World) (hb : Below w.heap.size w W) => by have h1 := HA.out W m y hb Hy.out; rw [hans] at h1; exact h1)
          have H2 := hid (show ¬ (hit = true ∧ m = p) from h2)
          clear hans h2
          go_quiet ((exact Calls.quiet_of_same (HQ.out _ (below_drewN BW.out _))))
          go_wp2
          go_roundg (m - a)
          case measure => omega
          case rel => exact ⟨a, m, rfl, hap, by omega, by omega, fun e => by have h3 : ¬ m = p := fun e2 => (by first | exact H2.out ⟨e, e2⟩ | exact H2.out e e2); omega, by omega, rfl, rfl, hid (below_drewN BW.out _)⟩
    · have hltz : ¬ (a : Int) < (b : Int) := by omega
      have hit0 : hit = false := by
        cases hit
        · rfl
        · have := HIT.out rfl
          omega
      subst hit0
      obtain rfl : a = p := by omega
      go_wp2
      try simp only [Exit.noGoto]
      go_ret2
      exact ⟨rfl, BW⟩
end Go.Proofs.Ytohofgmdellpnaa.Seen
