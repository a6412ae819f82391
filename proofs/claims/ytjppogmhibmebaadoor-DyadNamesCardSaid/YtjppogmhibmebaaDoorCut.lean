/- Contracts: cut, bounded. -/
import Derived.Test.YtjppogmhibmebaaDoorLeaf
namespace Go.Proofs.YtjppogmhibmebaaDoor
open Go.RowKit

/-- How many limbs are left of n, without those that are 0 at the end. -/
def cutLen (f : Nat → Nat) : Nat → Nat
  | 0 => 0
  | n + 1 => if f n = 0 then cutLen f n else n + 1
theorem cutLen_le (f : Nat → Nat) : ∀ n, cutLen f n ≤ n
  | 0 => Nat.le_refl _
  | n + 1 => by unfold cutLen; split <;> have := cutLen_le f n <;> omega
theorem cutLen_last (f : Nat → Nat) : ∀ n, 0 < cutLen f n → f (cutLen f n - 1) ≠ 0
  | 0, h => by simp [cutLen] at h
  | n + 1, h => by
    unfold cutLen at h ⊢
    by_cases hz : f n = 0
    · rw [if_pos hz] at h ⊢
      exact cutLen_last f n h
    · rw [if_neg hz]
      simpa using hz
theorem cutLen_zero (f : Nat → Nat) : ∀ n j, cutLen f n ≤ j → j < n → f j = 0
  | 0, j, _, h => by omega
  | n + 1, j, h1, h2 => by
    unfold cutLen at h1
    by_cases hz : f n = 0
    · rw [if_pos hz] at h1
      rcases Nat.lt_or_ge j n with h | h
      · exact cutLen_zero f n j h1 h
      · obtain rfl : j = n := by omega
        exact hz
    · rw [if_neg hz] at h1
      omega
theorem cutLen_vl (f : Nat → Nat) (n : Nat) : vl f n = vl f (cutLen f n) := vl_above (cutLen_le f n) (fun j h1 h2 => cutLen_zero f n j h1 h2)

set_option maxHeartbeats 800000 in
theorem cut_any (g n c : Nat) (f : Nat → Nat) (w : World) (hn : n ≤ c) (hm : n ≤ 140737488355328) (h : ∀ j, j < n → w.cell? ⟨g, j, none⟩ = some (.int .u32 (f j : Int))) :
    Calls Tryd.prog 69 #[.slice (some ⟨g, 0, none⟩) n c] w fun e w' => e = .returned (.slice (some ⟨g, 0, none⟩) (cutLen f n) (cutLen f n)) ∧ w = w' := by
  go_enter Tryd.func69, Tryd.ntmps69
  go_wp2
  go_loop [3] (fun i => ∃ k : Nat, k ≤ n ∧ i = .int .i64 k ∧ cutLen f n = cutLen f k) (fun i => (intOf i).toNat)
  case atStart => exact ⟨n, Nat.le_refl _, rfl, rfl⟩
  case round =>
    obtain ⟨k, hk, rfl, hcl⟩ := hrel
    have Hcl := hid hcl
    clear hcl
    rcases Nat.eq_zero_or_pos k with h0 | h0
    · subst h0
      go_wp2
      go_ret
      exact ⟨by rw [Hcl.out]; rfl, rfl⟩
    · obtain ⟨j, rfl⟩ : ∃ j, k = j + 1 := ⟨k - 1, by omega⟩
      have cj := h j (by omega)
      by_cases hz : f j = 0
      · rw [hz] at cj
        have Hz := hid hz
        clear hz h
        go_wp2
        go_round
        case rel => exact ⟨j, by omega, by go_num, Hcl.out.trans (if_pos Hz.out)⟩
        case measure => simp [intOf]
      · have hz2 : (((f j : Nat) : Int) == 0) = false := by simp; omega
        have Hz := hid hz
        clear hz h
        go_wp2
        go_ret
        exact ⟨by rw [Hcl.out.trans (if_neg Hz.out)]; rfl, rfl⟩

/-- cut, where what came in is a block of the call's own, or nothing at all. -/
theorem cut_nil (c : Nat) (w : World) (_hm : c ≤ 140737488355328) :
    Calls Tryd.prog 69 #[.slice none 0 c] w fun e w' => e = .returned (.slice none 0 0) ∧ w = w' := by
  go_enter Tryd.func69, Tryd.ntmps69
  go_wp2
  refine wp_loop_rounds 1 ?_
  rw [rounds_succ]
  go_wp2
  go_ret
  exact ⟨rfl, rfl⟩

set_option maxHeartbeats 800000 in
theorem bounded_any (g n c : Nat) (f : Nat → Nat) (w : World) (hn : n ≤ c) (hm : n ≤ 140737488355328) (h : ∀ j, j < n → w.cell? ⟨g, j, none⟩ = some (.int .u32 (f j : Int))) :
    Calls Tryd.prog 105 #[.slice (some ⟨g, 0, none⟩) n c] w fun e w' =>
      e = .returned (if cutLen f n ≤ 40 then .tuple #[.slice (some ⟨g, 0, none⟩) (cutLen f n) (cutLen f n), .int .i64 0] else .tuple #[.slice none 0 0, .int .i64 10]) ∧ w = w' := by
  have hc := cut_any g n c f w hn hm h
  have Hc := hid hc
  have hle := cutLen_le f n
  clear hc h
  generalize cutLen f n = k at *
  by_cases hk : k ≤ 40
  · rw [if_pos hk]
    go_enter Tryd.func105, Tryd.ntmps105
    go_wp2_with fail
    refine Hc.out.mono ?_
    rintro e w' ⟨rfl, rfl⟩
    go_wp2
    go_ret2
    exact ⟨rfl, rfl⟩
  · rw [if_neg hk]
    go_enter Tryd.func105, Tryd.ntmps105
    go_wp2_with fail
    refine Hc.out.mono ?_
    rintro e w' ⟨rfl, rfl⟩
    go_wp2
    go_ret2
    exact ⟨rfl, rfl⟩

/-- The limbs f 0 .. f (k - 1), and 0 above. -/
def trim (k : Nat) (f : Nat → Nat) (j : Nat) : Nat := if j < k then f j else 0
theorem trim_in {k j : Nat} {f : Nat → Nat} (h : j < k) : trim k f j = f j := if_pos h
theorem trim_out {k j : Nat} {f : Nat → Nat} (h : k ≤ j) : trim k f j = 0 := if_neg (by omega)
theorem trim_lt {k : Nat} {f : Nat → Nat} (h : ∀ j, j < k → f j < 4294967296) (j : Nat) : trim k f j < 4294967296 := by
  unfold trim
  split
  · exact h j ‹_›
  · omega

/-- What is left of a row of the call's own, cut, is a number. -/
theorem cut_num {w : World} {e : TypeId} {B g N : Nat} {z : Nat → Nat} (h : Blk w e g N z) (hg : B ≤ g) (hz : ∀ j, z j < 4294967296) (h40 : cutLen z N ≤ 40) :
    Num e B w (vl z N) (.slice (some ⟨g, 0, none⟩) (cutLen z N) (cutLen z N)) := by
  have hle := cutLen_le z N
  refine ⟨_, _, _, trim (cutLen z N) z, rfl, Mk.of_blk h hg (Nat.le_refl _) hle (by omega) (trim_lt fun j _ => hz j) (fun j hj => trim_out hj) (fun j hj => (trim_in hj).symm), ⟨h40, fun hp => ?_⟩, ?_⟩
  · rw [trim_in (by omega)]
    exact cutLen_last z N hp
  · rw [cutLen_vl z N]
    exact vl_congr fun j hj => trim_in hj

theorem cutLen_40 {z : Nat → Nat} {N : Nat} (hz : ∀ j, z j < 4294967296) : cutLen z N ≤ 40 ↔ vl z N < pw 40 := by
  rw [cutLen_vl z N]
  constructor
  · intro h
    have a := vl_lt (f := z) (k := cutLen z N) (fun j _ => hz j)
    have b := pw_mono h
    omega
  · intro h
    rcases Nat.lt_or_ge 40 (cutLen z N) with hlt | hge
    · have a := vl_ge (f := z) (k := cutLen z N) (by omega) (cutLen_last z N (by omega))
      have b : pw 40 ≤ pw (cutLen z N - 1) := pw_mono (by omega)
      omega
    · exact hge

/-- The error of a number that is told in limbs. -/
def overErr (V : Nat) : Int := if V < pw 40 then 0 else 10

theorem bounded_num {w w0 : World} {g N V : Nat} {z : Nat → Nat} (h : Blk w 26 g N z) (hg : w0.heap.size ≤ g) (hb : Below w0.heap.size w0 w) (hN : N ≤ 140737488355328) (hz : ∀ j, z j < 4294967296) (hV : vl z N = V) :
    Calls Tryd.prog 105 #[.slice (some ⟨g, 0, none⟩) N N] w fun e w' => ∃ v er, e = .returned (.tuple #[v, .int .i64 er]) ∧ w = w' ∧ Hid (er = overErr V) ∧ Ans 26 w0 er V (.returned (.tuple #[v, .int .i64 er])) w := by
  refine (bounded_any g N N z w (Nat.le_refl _) hN (fun j hj => h.cell hj)).mono ?_
  rintro e w' ⟨rfl, rfl⟩
  subst hV
  by_cases h40 : cutLen z N ≤ 40
  · rw [if_pos h40]
    exact ⟨_, 0, rfl, rfl, (if_pos ((cutLen_40 hz).1 h40)).symm, Ans.good (cut_num h hg hz h40) hb⟩
  · rw [if_neg h40]
    exact ⟨_, 10, rfl, rfl, (if_neg (fun hh => h40 ((cutLen_40 hz).2 hh))).symm, Ans.fail (by decide) hb⟩

end Go.Proofs.YtjppogmhibmebaaDoor
