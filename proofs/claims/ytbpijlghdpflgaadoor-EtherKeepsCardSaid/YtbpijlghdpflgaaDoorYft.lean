/- Ether: the document's Fits and Turned. -/
import Derived.Test.YtbpijlghdpflgaaDoorYtk2
namespace Go.Proofs.YtbpijlghdpflgaaDoor.Eth
open Go.RowKit Go.Shelf Go.Lib

theorem bit_of (m k : Nat) : ((m : Int) / 2 ^ k).tmod 2 = ((m / 2 ^ k % 2 : Nat) : Int) := by
  have h1 : ((m : Int) / 2 ^ k) = ((m / 2 ^ k : Nat) : Int) := by
    rw [Int.natCast_ediv, Int.natCast_pow]
    rfl
  rw [h1]
  rfl
set_option maxHeartbeats 3200000 in
set_option maxRecDepth 100000 in
theorem fits_any (size : Nat) (a : Int) (m : Nat) (hs : size ≤ 100000) (hm : m < 4294967296) (w : World) :
    Calls Tryd.prog 29 #[.int .i64 (size : Int), .int .i64 a, .int .u32 (m : Int)] w fun e w' => e = .returned (.bool (decide (fits size a m))) ∧ w' = w := by
  by_cases h0 : a < 0
  · rw [decide_eq_false (fun h => by have := h.1.1; omega)]
    go_enter Tryd.func29, Tryd.ntmps29
    go_wp2
    go_ret
    exact ⟨rfl, rfl⟩
  by_cases h1 : a ≥ 8 * (size : Int)
  · rw [decide_eq_false (fun h => by have := h.1.2; omega)]
    go_enter Tryd.func29, Tryd.ntmps29
    go_wp2
    go_ret
    exact ⟨rfl, rfl⟩
  by_cases h2 : m = 0
  · rw [decide_eq_false (fun h => h.2.1 h2)]
    subst h2
    go_enter Tryd.func29, Tryd.ntmps29
    go_wp2
    go_ret
    exact ⟨rfl, rfl⟩
  have h2z : ¬ (m : Int) = 0 := by omega
  have h2b : ((m : Int) == 0) = false := beq_eq_false_iff_ne.2 h2z
  go_enter Tryd.func29, Tryd.ntmps29
  go_wp2
  go_loopg [7] 32 (fun gg s7 wr => ∃ k : Nat, k ≤ 32 ∧ 32 - k ≤ gg ∧ s7 = .int .i64 k ∧ wr = w ∧ Hid (∀ q, q < k → one m q → (q : Int) < 8 * (size : Int) - a))
  case atStart => exact ⟨0, Nat.zero_le _, by omega, rfl, rfl, hid (fun q hq => absurd hq (Nat.not_lt_zero _))⟩
  case round =>
    obtain ⟨k, hk, hg, rfl, rfl, HA⟩ := hrel
    by_cases hlt : k < 32
    · have hltz : (k : Int) < 32 := by omega
      by_cases ho : one m k
      · have hb : ((m : Int) / 2 ^ k).tmod 2 = 1 := by rw [bit_of]; unfold one at ho; rw [ho]; rfl
        have HO := hid ho
        clear ho
        by_cases hf : (k : Int) ≥ 8 * (size : Int) - a
        · go_wp2
          go_ret
          refine ⟨?_, rfl⟩
          rw [decide_eq_false (fun h => by have := h.2.2 k hlt HO.out; omega)]
          rfl
        · have HN := hid (show ∀ q, q < k + 1 → one m q → (q : Int) < 8 * (size : Int) - a from fun q hq hoq => by
            by_cases hqk : q = k
            · subst hqk; omega
            · exact HA.out q (by omega) hoq)
          go_wp2
          go_roundg (32 - (k + 1))
          case measure => omega
          case rel => exact ⟨k + 1, by omega, by omega, by go_num, rfl, HN⟩
      · have hb : ((m : Int) / 2 ^ k).tmod 2 = 0 := by
          rw [bit_of]
          unfold one at ho
          rw [show m / 2 ^ k % 2 = 0 by omega]
          rfl
        have HN := hid (show ∀ q, q < k + 1 → one m q → (q : Int) < 8 * (size : Int) - a from fun q hq hoq => by
          by_cases hqk : q = k
          · subst hqk; exact absurd hoq ho
          · exact HA.out q (by omega) hoq)
        clear ho
        go_wp2
        go_roundg (32 - (k + 1))
        case measure => omega
        case rel => exact ⟨k + 1, by omega, by omega, by go_num, rfl, HN⟩
    · have hltz : ¬ (k : Int) < 32 := by omega
      obtain rfl : k = 32 := by omega
      have HF := hid (decide_eq_true (show fits size a m from ⟨⟨by omega, by omega⟩, h2, HA.out⟩))
      go_wp2
      go_ret
      exact ⟨by rw [HF.out]; rfl, rfl⟩

/-- A cell of an own row is written over. -/
theorem gw_set1 {w : World} {B g n c : Nat} {e : TypeId} {cs : List Value} (h : Gw w B e 1 (.slice (some ⟨g, 0, none⟩) n c) n cs) (i : Nat) (hi : i < n) (u : Value) : Gw (w.setCell ⟨g, i, none⟩ u) B e 1 (.slice (some ⟨g, 0, none⟩) n c) n (cs.set i u) ∧ Gq g w (w.setCell ⟨g, i, none⟩ u) ∧ w.cell? ⟨g, i, none⟩ = cs[i]? ∧ w.frozen? ⟨g, i, none⟩ = false ∧ B ≤ g := by
  obtain ⟨⟨hl, hor⟩, hm⟩ := h
  rcases hor with ⟨e0, _⟩ | ⟨g', cap, cur, e0, hB, hg, hn, hc, hs, ht⟩
  · cases e0
  · injection e0 with e1 e2 e3
    injection e1 with e1
    injection e1 with e1 _ _
    subst e1 e3
    refine ⟨⟨⟨by rw [List.length_set]; exact hl, .inr ⟨g, c, _, rfl, hB, heap_setCell_same w g i cur _ u hg, hn, hc, by simpa using hs, ?_⟩⟩, hm⟩, ⟨rfl, rfl, rfl, by simp [World.setCell], fun b hb => Below.heap_setCell _ ⟨g, i, none⟩ _ b hb⟩, ?_, frozen_of_row w g i _ _ hg, hB⟩
    · rw [Array.toList_setIfInBounds, List.take_set, ht]
    · rw [cell_of_row w g i cur _ (0, 0) hg, ← ht, List.getElem?_take, if_pos (by omega), Array.getElem?_toList]

theorem xor_u8 {x j : Nat} (hx : x < 256) (hj : j < 8) : bits BinOp.xor IntKind.u8 (x : Int) (2 ^ j % 256) = ((x ^^^ 2 ^ j : Nat) : Int) := by
  have h2 : 2 ^ j < 256 := Nat.lt_of_lt_of_eq (Nat.pow_lt_pow_right (a := 2) (by omega) hj) (by decide)
  have h3 : (2 : Int) ^ j = ((2 ^ j : Nat) : Int) := by rw [Int.natCast_pow]; rfl
  have h1 : (2 : Int) ^ j % 256 = ((2 ^ j : Nat) : Int) := by
    rw [h3]
    exact Int.emod_eq_of_lt (Int.natCast_nonneg _) (Int.ofNat_lt.2 h2)
  rw [h1]
  exact u8_xor_nat x (2 ^ j) hx h2
theorem trn_no (t : List Nat) (a : Nat) {m k : Nat} (ho : ¬ one m k) : trn t a m (k + 1) = trn t a m k := if_neg ho
/-- What Turned leaves. -/
def TurR (w : World) (n : Nat) (t : List Nat) (e : Ending) (w' : World) : Prop := ∃ g c', e = .returned (.slice (some ⟨g, 0, none⟩) n c') ∧ Hid (Gw w' w.heap.size 5 1 (.slice (some ⟨g, 0, none⟩) n c') n (cellsB t) ∧ Below w.heap.size w w')
set_option maxHeartbeats 6400000 in
set_option maxRecDepth 100000 in
theorem turned_any {w : World} {B n c : Nat} {A : Option Addr} {t : List Nat} (h : Gs w B A n c 1 (cellsB t)) (hf : ∀ b ∈ t, b < 256) (hB : B ≤ w.heap.size) (hn : n ≤ 50000) (a m : Nat) (hft : fits n (a : Int) m) :
    Calls Tryd.prog 30 #[.slice A n c, .int .i64 (a : Int), .int .u32 (m : Int)] w (TurR w n (trn t a m 32)) := by
  have H := hid (h.mono hB)
  have hl := hid h.blen
  have HF := hid hf
  have HFT := hid hft
  have han : a < 8 * n := by have := hft.1.2; omega
  clear h hf hB hft
  have b0 := hid (show Below w.heap.size w (w.alloc (.cells #[] 5)) from (Below.refl _ w).alloc (Nat.le_refl _) _)
  have E0 := hid (show Gw (w.alloc (.cells #[] 5)) w.heap.size 5 1 (.slice (some ⟨w.heap.size, 0, none⟩) 0 0) 0 [] from Gw.none' (heap_alloc_new w _) (Nat.le_refl _) (by unfold maxLen; omega) rfl)
  go_enter Tryd.func30, Tryd.ntmps30
  go_wp2_with (first
    | (at_builtin
       refine list_appB (v := .slice (some ⟨w.heap.size, 0, none⟩) 0 0) rfl _ _ rfl rfl rfl E0.out (H.out.below b0.out) (by omega) (Nat.le_trans (by simp) b0.out.size) ?_
       intro v1 w1 T1
       rw [Nat.zero_add, List.nil_append] at T1
       have b1 := hid (b0.out.trans (T1.out.below E0.out b0.out.size))
       obtain ⟨A1, c1, rfl, g1, m1, a1, o1⟩ := T1.out.own.form
       obtain ⟨g, off, rfl, _⟩ := g1.at_ (by omega)
       obtain ⟨e1, _⟩ := a1 _ rfl
       injection e1 with _ e1 _
       subst e1
       have O1 := hid T1.out.own
       clear T1 g1 m1 a1 o1)
    | fail)
  go_loopg [8] 32 (fun gg s8 wr => ∃ k : Nat, k ≤ 32 ∧ 32 - k ≤ gg ∧ s8 = .int .i64 k ∧ Hid (Gw wr w.heap.size 5 1 (.slice (some ⟨g, 0, none⟩) n c1) n (cellsB (trn t a m k)) ∧ Below w.heap.size w wr))
  case atStart => exact ⟨0, Nat.zero_le _, by omega, rfl, hid ⟨O1.out, b1.out⟩⟩
  case round =>
    obtain ⟨k, hk, hg, rfl, HI⟩ := hrel
    by_cases hlt : k < 32
    · have hltz : (k : Int) < 32 := by omega
      by_cases ho : one m k
      · have hb : ((m : Int) / 2 ^ k).tmod 2 = 1 := by rw [bit_of]; unfold one at ho; rw [ho]; rfl
        have hak : a + k < 8 * n := by have := HFT.out.2.2 k hlt ho; omega
        have HO := hid ho
        clear ho
        obtain ⟨i, hi⟩ : ∃ i, i = (a + k) / 8 := ⟨_, rfl⟩
        obtain ⟨j, hj⟩ : ∃ j, j = (a + k) % 8 := ⟨_, rfl⟩
        have hin : i < n := by omega
        have hj8 : j < 8 := by omega
        have hlt2 := hid (show (trn t a m k).length = n by rw [trn_len, hl.out])
        obtain ⟨x, hx⟩ : ∃ x, (trn t a m k)[i]? = some x := ⟨_, List.getElem?_eq_getElem (by rw [hlt2.out]; exact hin)⟩
        have hx256 := trn_fit HF.out a m k x (List.mem_of_getElem? hx)
        obtain ⟨s1, s2, s3, s4, s5⟩ := gw_set1 HI.out.1 i hin (.int .u8 ((x ^^^ 2 ^ j : Nat) : Int))
        rw [cellsB_get hx] at s3
        have hd1 : ((a : Int) + (k : Int)) / 8 = (i : Int) := by omega
        have hd2 : ((a : Int) + (k : Int)) % 8 = (j : Int) := by omega
        have hd3 : (a + k) / 8 = i := hi.symm
        have S1 := hid s1
        have S2 := hid s2
        have HX := hid hx
        have HIJ := hid (And.intro hi hj)
        have hbx : bits BinOp.xor IntKind.u8 (x : Int) (2 ^ j % 256) = ((x ^^^ 2 ^ j : Nat) : Int) := xor_u8 hx256 hj8
        clear s1 s2 hx hi hj
        go_wp2
        go_roundg (32 - (k + 1))
        case measure => omega
        case rel =>
          refine ⟨k + 1, by omega, by omega, by go_num, hid ⟨?_, S2.out.bel HI.out.2 s5⟩⟩
          have e : cellsB (trn t a m (k + 1)) = (cellsB (trn t a m k)).set i (.int .u8 ((x ^^^ 2 ^ j : Nat) : Int)) := by
            have e1 : trn t a m (k + 1) = (trn t a m k).set i (x ^^^ 2 ^ j) := by
              conv => lhs; unfold trn
              rw [if_pos HO.out]
              unfold tn1
              rw [← HIJ.out.1, ← HIJ.out.2, List.getD_eq_getElem?_getD, HX.out]
              rfl
            rw [e1]
            unfold cellsB
            rw [List.map_set]
          rw [e]
          exact S1.out
      · have hb : ((m : Int) / 2 ^ k).tmod 2 = 0 := by
          rw [bit_of]
          unfold one at ho
          rw [show m / 2 ^ k % 2 = 0 by omega]
          rfl
        have HN := hid (trn_no t a ho)
        clear ho
        go_wp2
        go_roundg (32 - (k + 1))
        case measure => omega
        case rel => exact ⟨k + 1, by omega, by omega, by go_num, hid ⟨by rw [HN.out]; exact HI.out.1, HI.out.2⟩⟩
    · have hltz : ¬ (k : Int) < 32 := by omega
      obtain rfl : k = 32 := by omega
      go_wp2
      go_ret
      exact ⟨g, c1, rfl, HI⟩
end Go.Proofs.YtbpijlghdpflgaaDoor.Eth
