/- slices.Backward over limbs. -/
/- Package ratio: below. -/
/- Package ratio: next. -/
import Derived.RangeFuncNested
import Derived.RangeFuncBound
import Derived.RangeFuncCalls
import Derived.RangeFuncLeaves
import Derived.RangeFuncBox
import Derived.Shelf.Abstract
import Derived.Shelf.RegionOpen
import Derived.WalkKit
import Derived.OwnWalkIn
import Derived.TacticsInMore
import Derived.LoopNIn
import Derived.LoopIn
import Derived.Test.YtelalanhalbicaaDoorRd
import Derived.Test.YtelalanhalbicaaDoorRh

namespace Go.Proofs.YtelalanhalbicaaDoor
open Go.RowKit Go.Shelf
attribute [local go_sem] Oper.semAt_some

def upto {α : Type} (f : Nat → α) (k : Nat) : List α := (List.range k).map f
theorem upto_succ {α : Type} (f : Nat → α) (k : Nat) : upto f (k + 1) = upto f k ++ [f k] := by simp [upto, List.range_succ]
theorem upto_length {α : Type} (f : Nat → α) (k : Nat) : (upto f k).length = k := by simp [upto]

/-- A place among m. -/
abbrev Idx (m : Nat) := { j : Nat // j < m }
/-- The place that comes at round k. -/
def bkw (m k : Nat) : Nat := m - 1 - k

end Go.Proofs.YtelalanhalbicaaDoor


namespace Go.Proofs.YtelalanhalbicaaDoor
open Go.RowKit Go.Shelf
attribute [local go_sem] Oper.semAt_some

theorem mem_upto_bkw {m k j : Nat} {ys : List (Idx m)} (h : ys.map (·.1) = upto (bkw m) k) (hj : j < m) (hk : m - 1 - j < k) : ∃ p, p ∈ ys ∧ p.1 = j := by
  have h1 : j ∈ ys.map (·.1) := by
    rw [h]
    simp only [upto, List.mem_map, List.mem_range]
    exact ⟨m - 1 - j, hk, by unfold bkw; omega⟩
  obtain ⟨p, hp, e⟩ := List.mem_map.1 h1
  exact ⟨p, hp, e⟩
theorem below_all {m : Nat} {F f : Nat → Nat} {ys : List (Idx m)} (h : ys.map (·.1) = upto (bkw m) m) (hp : ∀ p ∈ ys, F (40 + p.1) = f p.1) : ¬ vl (fun i => F (40 + i)) (m + 1) < vl f m := by
  have h1 : vl (fun i => F (40 + i)) m = vl f m := vl_congr fun j hj => by
    obtain ⟨p, hm, e⟩ := mem_upto_bkw h hj (by omega)
    have := hp p hm
    rw [e] at this
    exact this
  rw [vl_succ, h1]
  omega
theorem below_at {m k : Nat} {F f : Nat → Nat} {ini : List (Idx m)} {last : Idx m} (hF : ∀ j, F j < 4294967296) (hf : ∀ j, f j < 4294967296) (h0 : F (40 + m) = 0) (h : (ini ++ [last]).map (·.1) = upto (bkw m) k) (hk : k ≤ m)
    (hp : ∀ p ∈ ini, F (40 + p.1) = f p.1) (hne : F (40 + last.1) ≠ f last.1) : F (40 + last.1) < f last.1 ↔ vl (fun i => F (40 + i)) (m + 1) < vl f m := by
  obtain ⟨k', rfl⟩ : ∃ k', k = k' + 1 := by
    cases k with
    | zero => simp [upto] at h
    | succ k' => exact ⟨k', rfl⟩
  rw [upto_succ, List.map_append] at h
  obtain ⟨h1, h2⟩ := List.append_inj' h rfl
  have h3 : last.1 = bkw m k' := by simpa using h2
  have hl := last.2
  have he : ∀ j, last.1 < j → j < m → F (40 + j) = f j := fun j hj hj2 => by
    obtain ⟨p, hm, e⟩ := mem_upto_bkw h1 hj2 (by rw [h3] at hj; unfold bkw at hj; omega)
    have := hp p hm
    rw [e] at this
    exact this
  have hz : vl (fun i => F (40 + i)) (m + 1) = vl (fun i => F (40 + i)) m := by
    rw [vl_succ]
    show _ + F (40 + m) * _ = _
    rw [h0, Nat.zero_mul, Nat.add_zero]
  rw [hz]
  constructor
  · intro hlt
    exact vl_less (f := fun i => F (40 + i)) (g := f) (k := last.1) (fun j => hF _) hlt hl he
  · intro hlt
    rcases Nat.lt_or_ge (F (40 + last.1)) (f last.1) with h5 | h5
    · exact h5
    · have := vl_less (f := f) (g := fun i => F (40 + i)) (k := last.1) hf (show f last.1 < F (40 + last.1) by omega) hl (fun j h6 h7 => (he j h6 h7).symm)
      omega
theorem below_high {m : Nat} {F f : Nat → Nat} (hf : ∀ j, f j < 4294967296) (h0 : 0 < F (40 + m)) : ¬ vl (fun i => F (40 + i)) (m + 1) < vl f m := by
  rw [vl_succ]
  have h1 := vl_lt (f := f) (k := m) (fun j _ => hf j)
  have h2 : pw m ≤ F (40 + m) * pw m := Nat.le_mul_of_pos_left _ h0
  show ¬ (_ + F (40 + m) * pw m < _)
  omega

end Go.Proofs.YtelalanhalbicaaDoor


namespace Go.Proofs.YtelalanhalbicaaDoor
open Go.RowKit

theorem vl_top0 {f : Nat → Nat} {k : Nat} : ∀ {n : Nat}, vl f n < pw k → ∀ j, k ≤ j → j < n → f j = 0
  | 0, _, _, _, h => absurd h (Nat.not_lt_zero _)
  | n + 1, hv, j, h1, h2 => by
    have h3 : vl f (n + 1) = vl f n + f n * pw n := rfl
    rcases Nat.lt_or_ge j n with h | h
    · exact vl_top0 (n := n) (by omega) j h1 h
    · obtain rfl : j = n := by omega
      rcases Nat.eq_zero_or_pos (f j) with h4 | h4
      · exact h4
      · have h5 : pw j ≤ f j * pw j := Nat.le_mul_of_pos_left _ h4
        have h6 := pw_mono h1
        omega

theorem next_split {F : Nat → Nat} {m : Nat} (hm : m ≤ 40) (h : vl F 81 < pw (41 + m)) : vl F 81 = vl F 40 + pw 40 * vl (fun i => F (40 + i)) (m + 1) := by
  have h1 := vl_shift F 40 41
  rw [show 40 + 41 = 81 from rfl] at h1
  rw [h1]
  congr 2
  exact vl_above (by omega) fun j hj hj2 => vl_top0 h (40 + j) (by omega) (by omega)
theorem next_less {F f : Nat → Nat} {m : Nat} (hm : m ≤ 40) (hF : ∀ j, F j < 4294967296) (h : vl F 81 < pw (41 + m)) : vl (fun i => F (40 + i)) (m + 1) < vl f m ↔ vl F 81 < vl f m * pw 40 := by
  rw [next_split hm h, Nat.mul_comm (vl f m)]
  have h1 := vl_lt (f := F) (k := 40) (fun j _ => hF j)
  generalize vl (fun i => F (40 + i)) (m + 1) = x
  generalize vl f m = y
  constructor
  · intro hx
    have h2 := Nat.mul_le_mul_left (pw 40) (show x + 1 ≤ y from hx)
    rw [Nat.mul_add, Nat.mul_one] at h2
    omega
  · intro hx
    rcases Nat.lt_or_ge x y with h2 | h2
    · exact h2
    · have := Nat.mul_le_mul_left (pw 40) h2
      omega
theorem tkn_lt {F f : Nat → Nat} {m : Nat} (hF : ∀ j, F j < 4294967296) (j : Nat) : tkn F f m j < 4294967296 := by
  unfold tkn
  split
  · exact dif_lt _ _ _
  · exact hF j
theorem next_take {F f : Nat → Nat} {m : Nat} (hm : m ≤ 40) (hF : ∀ j, F j < 4294967296) (hf : ∀ j, f j < 4294967296) (h0 : f m = 0) (h : vl F 81 < pw (41 + m)) (hge : vl f m ≤ vl (fun i => F (40 + i)) (m + 1)) :
    vl (tkn F f m) 81 + vl f m * pw 40 = vl F 81 := by
  have h1 := vl_dif (f := fun i => F (40 + i)) (h := f) (fun j => hF _) hf (m + 1)
  have h2 := vl_lt (f := dif (fun i => F (40 + i)) f) (k := m + 1) (fun j _ => dif_lt _ _ j)
  have h3 := brw_le (fun i => F (40 + i)) f (m + 1)
  have h4 : vl f (m + 1) = vl f m := by rw [vl_succ, h0, Nat.zero_mul, Nat.add_zero]
  have h5 : brw (fun i => F (40 + i)) f (m + 1) = 0 := by
    rcases Nat.eq_zero_or_pos (brw (fun i => F (40 + i)) f (m + 1)) with h6 | h6
    · exact h6
    · rw [show brw (fun i => F (40 + i)) f (m + 1) = 1 by omega] at h1
      omega
  rw [h5, h4, Nat.zero_mul] at h1
  have h10 : vl (dif (fun i => F (40 + i)) f) (m + 1) + vl f m = vl (fun i => F (40 + i)) (m + 1) := h1
  have h7 := vl_shift (tkn F f m) 40 41
  rw [show 40 + 41 = 81 from rfl] at h7
  have h8 : vl (tkn F f m) 40 = vl F 40 := vl_congr fun j hj => by unfold tkn; rw [if_neg (by omega)]
  have h9 : vl (fun j => tkn F f m (40 + j)) 41 = vl (dif (fun i => F (40 + i)) f) (m + 1) := by
    rw [vl_above (f := fun j => tkn F f m (40 + j)) (k := m + 1) (m := 41) (by omega) (fun j hj hj2 => ?_)]
    · exact vl_congr fun j hj => by
        show tkn F f m (40 + j) = _
        unfold tkn
        rw [if_pos (by omega), Nat.add_sub_cancel_left]
    · show tkn F f m (40 + j) = 0
      unfold tkn
      rw [if_neg (by omega)]
      exact vl_top0 h (40 + j) (by omega) (by omega)
  rw [h7, h8, h9, next_split hm h, ← h10, Nat.mul_add, Nat.mul_comm (vl f m), Nat.add_assoc]

theorem ngrown_below {w w1 w2 : World} {g : Nat} (h : w.grownBy w1 (some g)) (hb : Below w1.heap.size w1 w2) : w.grownBy w2 (some g) :=
  ⟨hb.os.trans h.os, hb.tape.trans h.tape, hb.output.trans h.output, Nat.le_trans h.size hb.size, fun i hi hne => (hb.block i (Nat.lt_of_lt_of_le hi h.size)).trans (h.block i hi hne)⟩
theorem ngrown_grown {w w1 w2 : World} {g : Nat} (h : w.grownBy w1 (some g)) (hb : w1.grownBy w2 (some g)) : w.grownBy w2 (some g) :=
  ⟨hb.os.trans h.os, hb.tape.trans h.tape, hb.output.trans h.output, Nat.le_trans h.size hb.size, fun i hi hne => (hb.block i (Nat.lt_of_lt_of_le hi h.size) hne).trans (h.block i hi hne)⟩
theorem Rd.ngrown {w w' : World} {g B m c : Nat} {A : Option Addr} {f : Nat → Nat} (h : Rd w B A m c f) (hg : w.grownBy w' (some g)) (hB : B ≤ g) (hl : B ≤ w.heap.size) : Rd w' B A m c f :=
  ⟨h.cap, h.max, h.lt, h.out, fun hn => by
    obtain ⟨b, off, rfl, hb, hc⟩ := h.at_ hn
    exact ⟨b, off, rfl, hb, fun j hj => (World.cell?_of_block (hg.block b (by omega) (by intro e; injection e with e; omega))).trans (hc j hj)⟩⟩

end Go.Proofs.YtelalanhalbicaaDoor

