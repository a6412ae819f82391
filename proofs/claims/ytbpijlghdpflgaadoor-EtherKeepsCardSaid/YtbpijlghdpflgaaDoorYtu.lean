/- Ether, the program: turning, the numbers of the bits that a mask turns. -/
import Derived.Test.YtbpijlghdpflgaaDoorYbt
import Derived.Test.YtbpijlghdpflgaaDoorYho
import Derived.Test.YtbpijlghdpflgaaDoorYls
import Derived.RangeFuncNested
import Derived.RangeFuncBound
import Derived.RangeFuncCalls
import Derived.RangeFuncLeaves
import Derived.RangeFuncBox
import Derived.Shelf.RegionOpen
import Derived.OwnWalkIn
import Derived.TacticsInMore
import Derived.LoopNIn
import Derived.LoopIn
import Derived.Stop.RegionWithIn
namespace Go.Proofs.YtbpijlghdpflgaaDoor.Eth
open Go.RowKit Go.Shelf Go.Lib
attribute [local go_sem] Oper.semAt_some

/-- Bits turned, one behind the other. -/
def fo (t : List Nat) (a : Nat) (s : List Nat) : List Nat := s.foldl (fun u k => tn1 u (a + k)) t
theorem fo_snoc (t : List Nat) (a : Nat) (s : List Nat) (k : Nat) : fo t a (s ++ [k]) = tn1 (fo t a s) (a + k) := by unfold fo; rw [List.foldl_append]; rfl
theorem fo_len (t : List Nat) (a : Nat) : ∀ s : List Nat, (fo t a s).length = t.length := by
  intro s
  unfold fo
  induction s generalizing t with
  | nil => rfl
  | cons k s ih => rw [List.foldl_cons, ih, tn1_len]
theorem fo_fit {t : List Nat} (h : ∀ b ∈ t, b < 256) (a : Nat) : ∀ s : List Nat, ∀ b ∈ fo t a s, b < 256 := by
  intro s
  unfold fo
  induction s generalizing t with
  | nil => exact h
  | cons k s ih => rw [List.foldl_cons]; exact ih (tn1_fit h _)
theorem one_iff (m k : Nat) : one m k ↔ m.testBit k = true := by
  unfold one
  rw [Nat.testBit_eq_decide_div_mod_eq, decide_eq_true_eq]
/-- What is left of a mask from the place j on. -/
structure Lft (m j v : Nat) : Prop where
  lt : v < 4294967296
  bit : ∀ i, v.testBit i = (m.testBit i && decide (j ≤ i))
theorem Lft.start {m : Nat} (hm : m < 4294967296) : Lft m 0 m := ⟨hm, fun i => by simp⟩
theorem Lft.zero {m j : Nat} (h : Lft m j 0) : ∀ i, j ≤ i → ¬ one m i := by
  intro i hi ho
  have := h.bit i
  rw [(one_iff m i).1 ho, decide_eq_true hi] at this
  simp at this
theorem and_less (v : Nat) (h0 : v ≠ 0) : v &&& (v - 1) < v := Nat.lt_of_le_of_lt Nat.and_le_right (by omega)
theorem Lft.step {m j v : Nat} (h : Lft m j v) (h0 : v ≠ 0) : Lib.ctz 32 v < 32 ∧ j ≤ Lib.ctz 32 v ∧ one m (Lib.ctz 32 v) ∧ (∀ i, j ≤ i → i < Lib.ctz 32 v → ¬ one m i) ∧ Lft m (Lib.ctz 32 v + 1) (v &&& (v - 1)) := by
  obtain ⟨q, hq, hk⟩ := Lib.ctzFrom_spec 32 v (by omega) h.lt
  have e : Lib.ctz 32 v = Lib.ctzFrom 32 v := by simp [Lib.ctz, h0]
  rw [e]
  generalize Lib.ctzFrom 32 v = k at *
  have hp : 0 < 2 ^ k := Nat.two_pow_pos k
  have hp1 : 2 ^ (k + 1) = 2 ^ k * 2 := Nat.pow_succ 2 k
  have v1 : v = 2 ^ (k + 1) * q + 2 ^ k := by rw [hq, hp1, Nat.mul_add, Nat.mul_one, Nat.mul_assoc]
  have v2 : v - 1 = 2 ^ (k + 1) * q + (2 ^ k - 1) := by omega
  have b1 : ∀ i, v.testBit i = if i < k + 1 then (2 ^ k).testBit i else q.testBit (i - (k + 1)) := fun i => by
    rw [v1]
    exact Nat.testBit_two_pow_mul_add q (by omega) i
  have b2 : ∀ i, (v - 1).testBit i = if i < k + 1 then (2 ^ k - 1).testBit i else q.testBit (i - (k + 1)) := fun i => by
    rw [v2]
    exact Nat.testBit_two_pow_mul_add q (by omega) i
  have tk : v.testBit k = true := by rw [b1, if_pos (by omega), Nat.testBit_two_pow_self]
  have tl : ∀ i, i < k → v.testBit i = false := fun i hi => by
    rw [b1, if_pos (by omega), Nat.testBit_two_pow]
    simp
    omega
  have hb := h.bit k
  rw [tk] at hb
  have hm : m.testBit k = true ∧ j ≤ k := by
    have := hb.symm
    simpa using this
  refine ⟨hk, hm.2, (one_iff m k).2 hm.1, fun i hji hik ho => ?_, ⟨Nat.lt_trans (and_less v h0) h.lt, fun i => ?_⟩⟩
  · have := h.bit i
    rw [tl i hik, (one_iff m i).1 ho, decide_eq_true hji] at this
    simp at this
  · rw [Nat.testBit_and]
    rcases Nat.lt_trichotomy i k with hi | hi | hi
    · rw [tl i hi, decide_eq_false (show ¬ k + 1 ≤ i by omega)]
      simp
    · subst hi
      rw [b2, if_pos (by omega), decide_eq_false (show ¬ i + 1 ≤ i by omega), Nat.testBit_two_pow_sub_one, decide_eq_false (Nat.lt_irrefl i)]
      simp
    · rw [b2, if_neg (by omega), h.bit i, decide_eq_true (show k + 1 ≤ i by omega), decide_eq_true (show j ≤ i by omega)]
      have := b1 i
      rw [if_neg (by omega), h.bit i, decide_eq_true (show j ≤ i by omega)] at this
      rw [← this]
      simp
theorem trn_skip {t : List Nat} {a m j : Nat} : ∀ {k : Nat}, j ≤ k → (∀ i, j ≤ i → i < k → ¬ one m i) → trn t a m k = trn t a m j
  | 0, hj, _ => by obtain rfl : j = 0 := by omega
                   rfl
  | k + 1, hj, h => by
    rcases Nat.lt_or_ge k j with h1 | h1
    · obtain rfl : j = k + 1 := by omega
      rfl
    · rw [trn_no t a (h k h1 (Nat.lt_succ_self k))]
      exact trn_skip h1 (fun i h2 h3 => h i h2 (by omega))
/-- The front s of the bits' places is gone, up to the place j. -/
structure Frt (m : Nat) (s : List Nat) (j : Nat) : Prop where
  eq : ∀ t a, fo t a s = trn t a m j
  all : ∀ k ∈ s, k < 32 ∧ one m k
theorem Frt.next {m j k : Nat} {s : List Nat} (h : Frt m s j) (hk : k < 32) (hj : j ≤ k) (ho : one m k) (hn : ∀ i, j ≤ i → i < k → ¬ one m i) : Frt m (s ++ [k]) (k + 1) := by
  refine ⟨fun t a => ?_, fun i hi => ?_⟩
  · rw [fo_snoc, h.eq, ← trn_skip (t := t) (a := a) hj hn]
    conv => rhs; unfold trn
    rw [if_pos ho]
  · rcases List.mem_append.1 hi with h1 | h1
    · exact h.all i h1
    · obtain rfl : i = k := by simpa using h1
      exact ⟨hk, ho⟩
theorem Frt.end_ {m j : Nat} {s : List Nat} (h : Frt m s j) (hj : j ≤ 32) (hn : ∀ i, j ≤ i → ¬ one m i) : ∀ t a, fo t a s = trn t a m 32 := fun t a => (h.eq t a).trans (trn_skip hj (fun i h1 _ => hn i h1)).symm

theorem turning_any (a : Int) (m : Nat) (w : World) :
    Calls Tryd.prog 38 #[.int .i64 a, .int .u32 (m : Int)] w fun e w' => e = .returned (.func (.func 42) #[] #[.pointer (some ⟨w.heap.size + 1, 0, none⟩), .pointer (some ⟨w.heap.size, 0, none⟩)]) ∧
      w' = (w.alloc (.cells #[.int .i64 a] 3)).alloc (.cells #[.int .u32 (m : Int)] 32) := by
  go_enter Tryd.func38, Tryd.ntmps38
  go_wp2
  go_ret
  exact ⟨rfl, rfl⟩

set_option maxRecDepth 100000 in
set_option maxHeartbeats 4000000 in
theorem turning_comes (n : Nat) (hn : 1 ≤ n) {w : World} {gm ga m a : Nat} (hm : m < 4294967296) (ha : a ≤ 1000000) (h1 : w.cell? ⟨gm, 0, none⟩ = some (.int .u32 (m : Int))) (h2 : w.cell? ⟨ga, 0, none⟩ = some (.int .i64 (a : Int))) (hT : Tab w) :
    ComesE Fence.wide n Tryd.prog 42 #[] #[.pointer (some ⟨gm, 0, none⟩), .pointer (some ⟨ga, 0, none⟩)] (fun k : Nat => #[.int .i64 ((a : Int) + (k : Int))]) (fun b => b = gm ∨ b = ga ∨ b = 0)
      (fun s => ∀ k ∈ s, k < 32 ∧ one m k) (fun s => ∀ t b, fo t b s = trn t b m 32) (fun _ => True) w := by
  intro l J Jx W hW hJ hY h0
  have hz1 := block_lt_of_cell h1
  have hz2 := block_lt_of_cell h2
  have c1 : W.cell? ⟨gm, 0, none⟩ = some (.int .u32 (m : Int)) := (hW.cell (p := ⟨gm, 0, none⟩) hz1).trans h1
  have HA := hid ((hW.cell (p := ⟨ga, 0, none⟩) hz2).trans h2)
  have HT := hid (hT.below hW hT.lt)
  have HJ := hid hJ
  have HY := hid hY
  have HM := hid hm
  clear hJ hY h1 h2 hT hz1 hz2 hm
  refine callsIn_of_wp Tryd.func42 rfl trivial ?_ rfl
  simp only [Tryd.ntmps42, List.size_toArray, List.length_cons, List.length_nil, Nat.reduceAdd, Nat.reduceSub, Array.replicate_succ, Array.replicate_zero, List.push_toArray, List.append_toArray, List.nil_append, List.cons_append]
  gi_wp2
  gi_loopw [4] (fun i wr => ∃ (v j : Nat) (s : List Nat), i = .int .u32 (v : Int) ∧ Hid (Lft m j v ∧ j ≤ 32 ∧ Frt m s j ∧ J s wr) ∧ Hid (wr.cell? ⟨ga, 0, none⟩ = some (.int .i64 (a : Int))) ∧ Hid (Tab wr)) (fun i _ => (intOf i).toNat)
  case atStart => exact ⟨m, 0, [], rfl, hid ⟨Lft.start HM.out, by omega, ⟨fun _ _ => rfl, by simp⟩, h0⟩, HA, HT⟩
  case round =>
    obtain ⟨v, j, s, rfl, HI, HC, HTb⟩ := hrel
    by_cases hv : v = 0
    · subst hv
      gi_wp2
      go_end0
      exact ⟨⟨_, rfl⟩, .inl ⟨s, HI.out.2.2.1.end_ HI.out.2.1 HI.out.1.zero, HI.out.2.2.2⟩⟩
    · have hv0 : ((v : Int) != 0) = true := by rw [bne_iff_ne]; omega
      have hv1 : ((v : Int) == 0) = false := by rw [beq_eq_false_iff_ne]; omega
      have ST := hid (HI.out.1.step hv)
      have HV := hid hv
      obtain ⟨k, hk⟩ : ∃ k, k = Lib.ctz 32 v := ⟨_, rfl⟩
      have hk32 : k < 32 := by rw [hk]; exact ST.out.1
      have CZ := hid (fun (X : World) (hX : Tab X) => tz32_any v HI.out.1.lt hv X hX)
      rw [← hk] at ST CZ
      clear hk hv
      have c2 := HC.out
      have hak : IntKind.i64.wrap ((a : Int) + (k : Int)) = (a : Int) + (k : Int) := by rw [IntKind.wrap_i64]; omega
      have HG := hid (show wr.grownBy wr.drew none from ⟨rfl, rfl, rfl, Nat.le_refl _, fun _ _ _ => rfl⟩)
      have HTd := hid (show Tab wr.drew from HTb.out)
      have HF := hid (HI.out.2.2.1.next ST.out.1 ST.out.2.1 ST.out.2.2.1 ST.out.2.2.2.1)
      obtain ⟨fn, tmps, assign, body, hy, hR⟩ := HY.out s k wr.drew HF.out.all (HJ.out _ _ _ HI.out.2.2.2 HG.out)
      have hR2 := hR.mono (fun e Y (h : (e = .returned (.bool true) ∧ J (s ++ [k]) Y ∧ Kb (fun b => b = gm ∨ b = ga ∨ b = 0) wr.drew Y) ∨ (e = .returned (.bool false) ∧ Jx (s ++ [k]) Y)) => show ∃ b : Bool, e = .returned (.bool b) ∧ Hid ((b = true ∧ J (s ++ [k]) Y ∧ Kb (fun b => b = gm ∨ b = ga ∨ b = 0) wr.drew Y) ∨ (b = false ∧ Jx (s ++ [k]) Y)) from by
        rcases h with ⟨h1, h2⟩ | ⟨h1, h2⟩
        · exact ⟨true, h1, hid (.inl ⟨rfl, h2⟩)⟩
        · exact ⟨false, h1, hid (.inr ⟨rfl, h2⟩)⟩)
      have hbn : bits BinOp.and IntKind.u32 (v : Int) ((v : Int) - 1) = ((v &&& (v - 1) : Nat) : Int) := by
        rw [show (v : Int) - 1 = ((v - 1 : Nat) : Int) by have := HV.out; omega]
        exact u32_and_nat v (v - 1) HI.out.1.lt (by have := HI.out.1.lt; omega)
      have hwv : IntKind.u32.wrap ((v : Int) - 1) = (v : Int) - 1 := by
        have h1 := HI.out.1.lt
        have h2 := HV.out
        show ((v : Int) - 1) % 4294967296 = _
        omega
      clear hR
      gi_wp2_with fail
      gi_region_with (first
        | (refine ⟨trivial, ?_⟩
           refine (callsIn_wide.2 (CZ.out _ HTd.out)).mono ?_
           rintro e W2 ⟨rfl, rfl⟩)
        | (with_reducible refine hR2.mono ?_
           rintro e W3 ⟨b, rfl, hb3⟩)
        | fail)
      all_goals
        cases b
        case false =>
          have hJx : Jx (s ++ [k]) W3 := by
            rcases hb3.out with ⟨h1, _⟩ | ⟨_, h2⟩
            · cases h1
            · exact h2
          have HJx := hid hJx
          gi_wp2
          refine bodyPost_ret (results_none rfl _ _ _) rfl ?_
          exact ⟨⟨_, rfl⟩, .inr ⟨_, HJx.out⟩⟩
        case true =>
          have hJ3 : J (s ++ [k]) W3 ∧ Kb (fun b => b = gm ∨ b = ga ∨ b = 0) wr.drew W3 := by
            rcases hb3.out with ⟨_, h2⟩ | ⟨h1, _⟩
            · exact h2
            · cases h1
          have HJ3 := hid hJ3
          have HC3 := hid ((World.cell?_of_block (a := ⟨ga, 0, none⟩) (hJ3.2.block ga (.inr (.inl rfl)))).trans HC.out)
          have HT3 := hid (show Tab W3 from fun i hi => (World.cell?_of_block (a := ⟨0, i, none⟩) (hJ3.2.block _ (.inr (.inr rfl)))).trans (HTb.out i hi))
          clear hJ3
          gi_wp2
          go_roundw
          case rel => exact ⟨v &&& (v - 1), k + 1, s ++ [k], rfl, hid ⟨ST.out.2.2.2.2, by omega, HF.out, HJ3.out.1⟩, HC3, HT3⟩
          case measure => have := and_less v HV.out; simp [intOf]; omega
end Go.Proofs.YtbpijlghdpflgaaDoor.Eth
