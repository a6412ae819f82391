/- The reference's Same, May, told; the law's spoil and own copies. -/
import Derived.Test.YtnhnddhigbbleaaDoorRlimbs
import Derived.Test.YtnhnddhigbbleaaDoorRc
namespace Go.Proofs.YtnhnddhigbbleaaDoor
open Go.RowKit

set_option maxHeartbeats 800000 in
theorem rsame_len (A D : Option Addr) (n c m d : Nat) (w : World) (hnm : ((n : Int) != (m : Int)) = true) (_h1 : n ≤ 140737488355328) (_h2 : m ≤ 140737488355328) :
    Calls Tryd.prog 24 #[.slice A n c, .slice D m d] w fun e w' => e = .returned (.bool false) ∧ w = w' := by
  go_enter Tryd.func24, Tryd.ntmps24
  go_wp2
  go_ret
  exact ⟨rfl, rfl⟩

set_option maxHeartbeats 800000 in
theorem rsame_nil (A D : Option Addr) (c d : Nat) (w : World) :
    Calls Tryd.prog 24 #[.slice A 0 c, .slice D 0 d] w fun e w' => e = .returned (.bool true) ∧ w = w' := by
  go_enter Tryd.func24, Tryd.ntmps24
  go_wp2
  refine wp_loop_rounds 1 ?_
  rw [rounds_succ]
  go_wp2
  go_ret
  exact ⟨rfl, rfl⟩

set_option maxHeartbeats 800000 in
theorem rsame_cells (b o b2 o2 n c d : Nat) (f g : Nat → Nat) (w : World) (_hc : n ≤ c) (_hm : n ≤ 140737488355328) (_hd : n ≤ d)
    (h1 : ∀ j, j < n → w.cell? ⟨b, o + j, none⟩ = some (.int .u32 (f j : Int))) (h2 : ∀ j, j < n → w.cell? ⟨b2, o2 + j, none⟩ = some (.int .u32 (g j : Int))) :
    Calls Tryd.prog 24 #[.slice (some ⟨b, o, none⟩) n c, .slice (some ⟨b2, o2, none⟩) n d] w (Tells w (∀ j, j < n → f j = g j)) := by
  go_enter Tryd.func24, Tryd.ntmps24
  go_wp2
  go_loopw [5] (fun i wr => ∃ k : Nat, k ≤ n ∧ i = .int .i64 k ∧ (∀ j, j < k → f j = g j) ∧ ∃ q, w.drewN q = wr) (fun i _ => n - (intOf i).toNat)
  case atStart => exact ⟨0, Nat.zero_le _, rfl, fun j h => by omega, 0, rfl⟩
  case round =>
    obtain ⟨k, hk, rfl, heq, q, rfl⟩ := hrel
    by_cases hkn : k < n
    · have c1 := h1 k hkn
      have c2 := h2 k hkn
      have i1 : (k : Int) < (n : Int) := by omega
      have Heq := hid heq
      clear heq h1 h2
      by_cases hfg : f k = g k
      · have hb : (((f k : Nat) : Int) != ((g k : Nat) : Int)) = false := by simp; omega
        have Hfg := hid hfg
        clear hfg
        go_wp2
        go_quiet (fail)
        go_wp2
        go_roundw
        case rel => exact ⟨k + 1, by omega, by go_num, fun j hj => by
          rcases Nat.lt_or_ge j k with h | h
          · exact Heq.out j h
          · obtain rfl : j = k := by omega
            exact Hfg.out, _, rfl⟩
        case measure => simp [intOf]; omega
      · have hb : (((f k : Nat) : Int) != ((g k : Nat) : Int)) = true := by simp; omega
        have Hfg := hid hfg
        clear hfg
        go_wp2
        go_quiet (fail)
        go_wp2
        go_ret
        exact ⟨_, rfl, ⟨(fun h => by cases h), (fun h => absurd (h k hkn) Hfg.out)⟩, _, drewN2 _ _ _⟩
    · obtain rfl : k = n := by omega
      have Heq := hid heq
      clear heq h1 h2
      go_wp2
      go_ret
      exact ⟨_, rfl, ⟨fun _ => Heq.out, fun _ => rfl⟩, _, rfl⟩

theorem rsame_any {B C : Nat} {A D : Option Addr} {n c m d : Nat} {f h : Nat → Nat} {w : World} (ha : Rd w B A n c f) (hb : Rd w C D m d h) :
    Calls Tryd.prog 24 #[.slice A n c, .slice D m d] w (Tells w (n = m ∧ ∀ j, f j = h j)) := by
  by_cases hnm : n = m
  · subst hnm
    rcases Nat.eq_zero_or_pos n with h0 | h0
    · subst h0
      refine (rsame_nil A D c d w).mono ?_
      rintro e w' ⟨rfl, rfl⟩
      exact ⟨true, rfl, ⟨fun _ => ⟨rfl, fun j => by rw [ha.out j (by omega), hb.out j (by omega)]⟩, fun _ => rfl⟩, 0, rfl⟩
    · obtain ⟨b, o, rfl, _, h1⟩ := ha.at_ h0
      obtain ⟨b2, o2, rfl, _, h2⟩ := hb.at_ h0
      refine (rsame_cells b o b2 o2 n c d f h w ha.cap ha.max hb.cap h1 h2).mono ?_
      intro e w' ht
      refine ht.of ⟨fun hh => ⟨rfl, fun j => ?_⟩, fun hh j _ => hh.2 j⟩
      rcases Nat.lt_or_ge j n with hlt | hge
      · exact hh j hlt
      · rw [ha.out j hge, hb.out j hge]
  · refine (rsame_len A D n c m d w (by simp; omega) ha.max hb.max).mono ?_
    rintro e w' ⟨rfl, rfl⟩
    exact ⟨false, rfl, ⟨(fun h => by cases h), (fun h => absurd h.1 hnm)⟩, 0, rfl⟩

/-- Limbs of one number are the same. -/
theorem rsame_lm {B C V : Nat} {v1 v2 : Value} {w : World} (h1 : Lm w B V v1) (h2 : Lm w C V v2) :
    Calls Tryd.prog 24 #[v1, v2] w fun e w' => e = .returned (.bool true) ∧ ∃ q, w.drewN q = w' := by
  obtain ⟨A, n, c, f, rfl, ha, hf, hV⟩ := h1
  obtain ⟨D, m, d, h, rfl, hb, hh, hU⟩ := h2
  refine (rsame_any ha hb).mono ?_
  rintro e w' ⟨r, rfl, hr, q, rfl⟩
  obtain rfl : r = true := hr.2 (ha.same hb hf hh (hV.trans hU.symm))
  exact ⟨rfl, q, rfl⟩

set_option maxHeartbeats 400000 in
theorem may_long (A : Option Addr) (n c : Nat) (w : World) (hn : 40 < n) (_hc : n ≤ c) (_hm : n ≤ 140737488355328) :
    Calls Tryd.prog 50 #[.slice A n c] w fun e w' => e = .returned (.bool false) ∧ w = w' := by
  go_enter Tryd.func50, Tryd.ntmps50
  go_wp2
  go_ret
  exact ⟨rfl, rfl⟩

set_option maxHeartbeats 400000 in
theorem may_nil (A : Option Addr) (c : Nat) (w : World) :
    Calls Tryd.prog 50 #[.slice A 0 c] w fun e w' => e = .returned (.bool true) ∧ w = w' := by
  go_enter Tryd.func50, Tryd.ntmps50
  go_wp2
  go_ret
  exact ⟨rfl, rfl⟩

set_option maxHeartbeats 400000 in
theorem may_last (b off n c x : Nat) (r : Bool) (w : World) (h0 : 0 < n) (hn : n ≤ 40) (_hc : n ≤ c) (hx : w.cell? ⟨b, off + (n - 1), none⟩ = some (.int .u32 (x : Int))) (h1 : (((x : Nat) : Int) != 0) = r) :
    Calls Tryd.prog 50 #[.slice (some ⟨b, off, none⟩) n c] w fun e w' => e = .returned (.bool r) ∧ w = w' := by
  have hne : ((n : Int) == 0) = false := by simp; omega
  cases r
  · go_enter Tryd.func50, Tryd.ntmps50
    go_wp2
    go_ret
    exact ⟨rfl, rfl⟩
  · go_enter Tryd.func50, Tryd.ntmps50
    go_wp2
    go_ret
    exact ⟨rfl, rfl⟩

theorem May_any {B : Nat} {A : Option Addr} {n c : Nat} {f : Nat → Nat} {w : World} (h : Rd w B A n c f) :
    Calls Tryd.prog 50 #[.slice A n c] w fun e w' => e = .returned (.bool (decide (Fit n f))) ∧ w = w' := by
  by_cases h1 : n ≤ 40
  · rcases Nat.eq_zero_or_pos n with h0 | h0
    · subst h0
      rw [show decide (Fit 0 f) = true by simp [Fit]]
      exact may_nil A c w
    · obtain ⟨b, off, rfl, _, hc⟩ := h.at_ h0
      refine may_last b off n c _ _ w h0 h1 h.cap (hc (n - 1) (by omega)) ?_
      by_cases hz : f (n - 1) = 0
      · rw [show decide (Fit n f) = false from decide_eq_false (fun h => h.2 h0 hz)]
        simp [hz]
      · rw [show decide (Fit n f) = true by simp [Fit, hz, h1]]
        simp; omega
  · rw [show decide (Fit n f) = false from decide_eq_false (fun h => h1 h.1)]
    exact may_long A n c w (by omega) h.cap h.max


end Go.Proofs.YtnhnddhigbbleaaDoor
