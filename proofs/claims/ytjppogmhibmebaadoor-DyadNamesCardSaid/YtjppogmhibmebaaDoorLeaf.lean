/- Contracts: the small functions of package limb: at, Check, places, anyBad. -/
import Derived.Test.YtjppogmhibmebaaDoorProg
import Derived.Test.YtjppogmhibmebaaDoorMem
namespace Go.Proofs.YtjppogmhibmebaaDoor
open Go.RowKit

set_option maxHeartbeats 400000 in
theorem at_in (b off n c i x : Nat) (w : World) (hi : i < n) (_hc : n ≤ c) (_hm : n ≤ 140737488355328) (hx : w.cell? ⟨b, off + i, none⟩ = some (.int .u32 (x : Int))) :
    Calls Tryd.prog 103 #[.slice (some ⟨b, off, none⟩) n c, .int .i64 (i : Int)] w fun e w' => e = .returned (.int .u32 (x : Int)) ∧ w = w' := by
  go_enter Tryd.func103, Tryd.ntmps103
  go_wp2
  go_ret
  exact ⟨rfl, rfl⟩

set_option maxHeartbeats 400000 in
theorem at_out (A : Option Addr) (n c i : Nat) (w : World) (hi : n ≤ i) (_hc : n ≤ c) (_hm : n ≤ 140737488355328) :
    Calls Tryd.prog 103 #[.slice A n c, .int .i64 (i : Int)] w fun e w' => e = .returned (.int .u32 0) ∧ w = w' := by
  go_enter Tryd.func103, Tryd.ntmps103
  go_wp2
  go_ret
  exact ⟨rfl, rfl⟩

theorem at_any {B : Nat} {A : Option Addr} {n c : Nat} {f : Nat → Nat} {w : World} (h : Rd w B A n c f) (i : Nat) :
    Calls Tryd.prog 103 #[.slice A n c, .int .i64 (i : Int)] w fun e w' => e = .returned (.int .u32 (f i : Int)) ∧ w = w' := by
  rcases Nat.lt_or_ge i n with hlt | hge
  · obtain ⟨b, off, rfl, _, hc⟩ := h.at_ (by omega)
    exact at_in b off n c i _ w hlt h.cap h.max (hc i hlt)
  · rw [h.out i hge]
    exact at_out A n c i w hge h.cap h.max

/-- Check's number. -/
def chk (n : Nat) (f : Nat → Nat) : Int := if Fit n f then 0 else 8
theorem chk_fit {n : Nat} {f : Nat → Nat} (h : Fit n f) : chk n f = 0 := if_pos h
theorem chk_bad {n : Nat} {f : Nat → Nat} (h : ¬ Fit n f) : chk n f = 8 := if_neg h

set_option maxHeartbeats 400000 in
theorem check_long (A : Option Addr) (n c : Nat) (w : World) (hn : 40 < n) (_hc : n ≤ c) (_hm : n ≤ 140737488355328) :
    Calls Tryd.prog 43 #[.slice A n c] w fun e w' => e = .returned (.int .i64 8) ∧ w = w' := by
  go_enter Tryd.func43, Tryd.ntmps43
  go_wp2
  go_ret
  exact ⟨rfl, rfl⟩

set_option maxHeartbeats 400000 in
theorem check_nil (A : Option Addr) (c : Nat) (w : World) :
    Calls Tryd.prog 43 #[.slice A 0 c] w fun e w' => e = .returned (.int .i64 0) ∧ w = w' := by
  go_enter Tryd.func43, Tryd.ntmps43
  go_wp2
  go_ret
  exact ⟨rfl, rfl⟩

set_option maxHeartbeats 400000 in
theorem check_zero (b off n c : Nat) (w : World) (h0 : 0 < n) (hn : n ≤ 40) (_hc : n ≤ c) (_hm : n ≤ 140737488355328) (hx : w.cell? ⟨b, off + (n - 1), none⟩ = some (.int .u32 0)) :
    Calls Tryd.prog 43 #[.slice (some ⟨b, off, none⟩) n c] w fun e w' => e = .returned (.int .i64 8) ∧ w = w' := by
  go_enter Tryd.func43, Tryd.ntmps43
  go_wp2
  go_ret
  exact ⟨rfl, rfl⟩

set_option maxHeartbeats 400000 in
theorem check_last (b off n c x : Nat) (w : World) (h0 : 0 < n) (hn : n ≤ 40) (_hc : n ≤ c) (_hm : n ≤ 140737488355328) (hx : w.cell? ⟨b, off + (n - 1), none⟩ = some (.int .u32 (x : Int))) (h1 : 0 < x) :
    Calls Tryd.prog 43 #[.slice (some ⟨b, off, none⟩) n c] w fun e w' => e = .returned (.int .i64 0) ∧ w = w' := by
  have hx0 : (((x : Nat) : Int) == 0) = false := by simp; omega
  go_enter Tryd.func43, Tryd.ntmps43
  go_wp2
  go_ret
  exact ⟨rfl, rfl⟩

theorem check_any {B : Nat} {A : Option Addr} {n c : Nat} {f : Nat → Nat} {w : World} (h : Rd w B A n c f) :
    Calls Tryd.prog 43 #[.slice A n c] w fun e w' => e = .returned (.int .i64 (chk n f)) ∧ w = w' := by
  by_cases hf : Fit n f
  · rw [chk_fit hf]
    obtain ⟨h1, h2⟩ := hf
    rcases Nat.eq_zero_or_pos n with h0 | h0
    · subst h0
      exact check_nil A c w
    · obtain ⟨b, off, rfl, _, hc⟩ := h.at_ h0
      exact check_last b off n c _ w h0 h1 h.cap h.max (hc (n - 1) (by omega)) (Nat.pos_of_ne_zero (h2 h0))
  · rw [chk_bad hf]
    by_cases h1 : n ≤ 40
    · have h0 : 0 < n := by
        rcases Nat.eq_zero_or_pos n with h0 | h0
        · exact absurd ⟨h1, fun h => absurd h (by omega)⟩ hf
        · exact h0
      obtain ⟨b, off, rfl, _, hc⟩ := h.at_ h0
      have hz : f (n - 1) = 0 := by
        rcases Nat.eq_zero_or_pos (f (n - 1)) with hz | hz
        · exact hz
        · exact absurd ⟨h1, fun _ => by omega⟩ hf
      have := hc (n - 1) (by omega)
      rw [hz] at this
      exact check_zero b off n c w h0 h1 h.cap h.max this
    · exact check_long A n c w (by omega) h.cap h.max

set_option maxHeartbeats 400000 in
theorem places_any (x : Int) (w : World) :
    Calls Tryd.prog 88 #[.int .u64 x] w fun e w' => e = .returned (.func (.func 102) #[] #[.pointer (some ⟨w.heap.size, 0, none⟩)]) ∧ w.alloc (.cells #[.int .u64 x] 58) = w' := by
  go_enter Tryd.func88, Tryd.ntmps88
  go_wp2
  go_ret
  exact ⟨rfl, rfl⟩

set_option maxHeartbeats 400000 in
theorem place_any (s : Int) (r g : Nat) (w : World) (h0 : 0 ≤ s) (hs : s + r ≤ 18446744073709551615) (hc : w.cell? ⟨g, 0, none⟩ = some (.int .u64 (r : Int))) (hf : w.frozen? ⟨g, 0, none⟩ = false) :
    Calls Tryd.prog 102 #[.int .u64 s, .pointer (some ⟨g, 0, none⟩)] w fun e w' => e = .returned (.int .u32 (((s.toNat + r) % 4294967296 : Nat) : Int)) ∧ w.setCell ⟨g, 0, none⟩ (.int .u64 (((s.toNat + r) / 4294967296 : Nat) : Int)) = w' := by
  obtain ⟨s, rfl⟩ := Int.eq_ofNat_of_zero_le h0
  rw [Int.toNat_natCast]
  go_enter Tryd.func102, Tryd.ntmps102
  go_wp2
  go_ret
  exact ⟨rfl, rfl⟩

set_option maxHeartbeats 800000 in
theorem bad_two {B C : Nat} {A D : Option Addr} {n c m d : Nat} {f h : Nat → Nat} {w : World} (ha : Rd w B A n c f) (hb : Rd w C D m d h) (g : Nat)
    (h0 : w.cell? ⟨g, 0, none⟩ = some (.slice A n c)) (h1 : w.cell? ⟨g, 1, none⟩ = some (.slice D m d)) :
    Calls Tryd.prog 86 #[.slice (some ⟨g, 0, none⟩) 2 2] w fun e w' => e = .returned (.bool (decide (¬ (Fit n f ∧ Fit m h)))) ∧ w = w' := by
  have ca := check_any ha
  have cb := check_any hb
  have Ca := hid ca
  have Cb := hid cb
  clear ca cb
  by_cases hf : Fit n f
  · rw [chk_fit hf] at Ca
    by_cases hh : Fit m h
    · rw [chk_fit hh] at Cb
      have hd : decide (¬ (Fit n f ∧ Fit m h)) = false := by simp [hf, hh]
      rw [hd]
      clear hd hf hh ha hb
      go_enter Tryd.func86, Tryd.ntmps86
      go_wp2
      refine wp_loop_rounds 3 ?_
      rw [rounds_succ]
      go_wp2_with fail
      refine Ca.out.mono ?_
      rintro e w' ⟨rfl, rfl⟩
      go_wp2_with fail
      rw [rounds_succ]
      go_wp2_with fail
      refine Cb.out.mono ?_
      rintro e w' ⟨rfl, rfl⟩
      go_wp2_with fail
      rw [rounds_succ]
      go_wp2
      go_ret
      exact ⟨rfl, rfl⟩
    · rw [chk_bad hh] at Cb
      have hd : decide (¬ (Fit n f ∧ Fit m h)) = true := by simp [hh]
      rw [hd]
      clear hd hf hh ha hb
      go_enter Tryd.func86, Tryd.ntmps86
      go_wp2
      refine wp_loop_rounds 3 ?_
      rw [rounds_succ]
      go_wp2_with fail
      refine Ca.out.mono ?_
      rintro e w' ⟨rfl, rfl⟩
      go_wp2_with fail
      rw [rounds_succ]
      go_wp2_with fail
      refine Cb.out.mono ?_
      rintro e w' ⟨rfl, rfl⟩
      go_wp2
      go_ret
      exact ⟨rfl, rfl⟩
  · rw [chk_bad hf] at Ca
    have hd : decide (¬ (Fit n f ∧ Fit m h)) = true := by simp [hf]
    rw [hd]
    clear hd hf ha hb Cb
    go_enter Tryd.func86, Tryd.ntmps86
    go_wp2
    refine wp_loop_rounds 3 ?_
    rw [rounds_succ]
    go_wp2_with fail
    refine Ca.out.mono ?_
    rintro e w' ⟨rfl, rfl⟩
    go_wp2
    go_ret
    exact ⟨rfl, rfl⟩

set_option maxHeartbeats 800000 in
theorem bad_one {B : Nat} {A : Option Addr} {n c : Nat} {f : Nat → Nat} {w : World} (ha : Rd w B A n c f) (g : Nat)
    (h0 : w.cell? ⟨g, 0, none⟩ = some (.slice A n c)) :
    Calls Tryd.prog 86 #[.slice (some ⟨g, 0, none⟩) 1 1] w fun e w' => e = .returned (.bool (decide (¬ Fit n f))) ∧ w = w' := by
  have ca := check_any ha
  have Ca := hid ca
  clear ca
  by_cases hf : Fit n f
  · rw [chk_fit hf] at Ca
    have hd : decide (¬ Fit n f) = false := by simp [hf]
    rw [hd]
    clear hd hf ha
    go_enter Tryd.func86, Tryd.ntmps86
    go_wp2
    refine wp_loop_rounds 2 ?_
    rw [rounds_succ]
    go_wp2_with fail
    refine Ca.out.mono ?_
    rintro e w' ⟨rfl, rfl⟩
    go_wp2_with fail
    rw [rounds_succ]
    go_wp2
    go_ret
    exact ⟨rfl, rfl⟩
  · rw [chk_bad hf] at Ca
    have hd : decide (¬ Fit n f) = true := by simp [hf]
    rw [hd]
    clear hd hf ha
    go_enter Tryd.func86, Tryd.ntmps86
    go_wp2
    refine wp_loop_rounds 2 ?_
    rw [rounds_succ]
    go_wp2_with fail
    refine Ca.out.mono ?_
    rintro e w' ⟨rfl, rfl⟩
    go_wp2
    go_ret
    exact ⟨rfl, rfl⟩

end Go.Proofs.YtjppogmhibmebaaDoor
