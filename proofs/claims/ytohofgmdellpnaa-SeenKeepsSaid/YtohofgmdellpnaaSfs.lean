/- SeenFirst, walked. -/
import Derived.Test.YtohofgmdellpnaaSal
namespace Go.Proofs.Ytohofgmdellpnaa.Seen
open Go.RowKit Go.Shelf Go.Lib

/-- A list that statements do not go through. -/
def grt (n : Nat) : Prop := 200 < n ∧ n < 4096 ∨ 4100 < n
instance (n : Nat) : Decidable (grt n) := by unfold grt; infer_instance
theorem great_yes {w : World} {A : Option Addr} {n c : Nat} (h : grt n) : Calls Try.prog 13 #[.slice A n c] w fun e w' => e = .returned (.bool true) ∧ w' = w := by
  have := great_any (w := w) (A := A) (n := n) (c := c)
  rw [decide_eq_true (show 200 < n ∧ n < 4096 ∨ 4100 < n from h)] at this
  exact this
theorem great_no {w : World} {A : Option Addr} {n c : Nat} (h : ¬ grt n) : Calls Try.prog 13 #[.slice A n c] w fun e w' => e = .returned (.bool false) ∧ w' = w := by
  have := great_any (w := w) (A := A) (n := n) (c := c)
  rw [decide_eq_false (show ¬ (200 < n ∧ n < 4096 ∨ 4100 < n) from h)] at this
  exact this

set_option maxHeartbeats 6400000 in
set_option maxRecDepth 100000 in
theorem first_walk {w : World} {n c : Nat} {A : Option Addr} {l : List Int} (h : Gs w w.heap.size A n c 1 (cellsI l)) :
    Calls Try.prog 7 #[.slice A n c] w fun e w' => e = .returned (.bool true) ∧ Below w.heap.size w w' := by
  have H := hid h
  have hl := hid h.ilen
  have hcap := h.cap
  clear h
  go_enter Try.func7, Try.ntmps7
  go_wp2_with fail
  refine (alive_any w).mono ?_
  rintro e w1 ⟨rfl, B1⟩
  have H1 := hid (H.out.on (Nat.le_refl _) B1.out)
  go_wp2_with fail
  by_cases hgr : grt n
  · refine (great_yes hgr).mono ?_
    rintro e w2 ⟨rfl, rfl⟩
    clear hgr
    go_wp2
    go_ret
    exact ⟨rfl, B1.out⟩
  refine (great_no hgr).mono ?_
  rintro e w2 ⟨rfl, rfl⟩
  have hn : n ≤ 4100 := by unfold grt at hgr; omega
  clear hgr
  have CF := hid (first_any H1.out (Nat.le_refl _))
  have CC := hid (fun X (hb : Below w2.heap.size w2 X) => check_any (H1.out.on (Nat.le_refl _) hb))
  by_cases h0 : schk l = 0
  case neg =>
    have ha : fsA l = 0 := by unfold fsA; rw [if_neg h0]
    rw [ha] at CF
    clear ha
    generalize schk l = q at h0 CF CC
    go_wp2_with fail
    refine CF.out.mono ?_
    rintro e w3 ⟨rfl, hb⟩
    go_wp2_with fail
    refine (CC.out w3 hb.out).mono ?_
    rintro e w4 ⟨rfl, rfl⟩
    go_wp2
    go_ret
    exact ⟨rfl, gbelow_on B1.out (Nat.le_refl _) hb.out⟩
  case pos =>
    have hm := schk_zero.1 h0
    have ha : fsA l = fstN l 0 := by unfold fsA; rw [if_pos h0]
    rw [ha, h0] at CF
    obtain ⟨q, hq⟩ : ∃ q, q = fstN l 0 := ⟨_, rfl⟩
    have hqn : q ≤ n := by have := (fstN_ge l 0).2; have := hl.out; omega
    have HAT := hid (fun j (hj : j < q) => show l[j]? = some ((j : Nat) : Int) by
      have := fstN_at l 0 j (by rw [Nat.zero_add, ← hq]; exact hj)
      rwa [Nat.zero_add] at this)
    have HNO := hid (show ∀ y, l[q]? = some y → y ≠ ((q : Nat) : Int) from fun y hy e => by
      have := fstN_not l 0
      rw [Nat.sub_zero, ← hq] at this
      exact this (by rw [hy, e]))
    rw [← hq] at CF
    clear hq ha h0 hm CC
    go_wp2_with fail
    refine CF.out.mono ?_
    rintro e w3 ⟨rfl, hb⟩
    have H3 := hid (H1.out.on (Nat.le_refl _) hb.out)
    have B3 := hid (gbelow_on B1.out (Nat.le_refl _) hb.out)
    have zq1 : ¬ (q : Int) < 0 := by omega
    have zq2 : ¬ (q : Int) > (n : Int) := by omega
    have zd1 : decide ((q : Int) < 0) = false := decide_eq_false zq1
    have zd2 : decide (n < q) = false := decide_eq_false (by omega)
    go_upto_region 7 with fail
    go_cut [54] from 33 to 53 (fun s54 wx => s54 = .bool false ∧ wx = w3)
    case first =>
      by_cases hlt : q < n
      · have hltz : (q : Int) < (n : Int) := by omega
        obtain ⟨y, hy⟩ := H3.out.iget hlt
        obtain ⟨b, off, rfl, _, hc⟩ := H3.out.iat (by omega)
        have c1 := hc q y hy
        have hne := HNO.out y hy
        have hb1 : (y == (q : Int)) = false := beq_eq_false_iff_ne.2 hne
        clear hc hy hne
        go_wp2
        go_meet
        exact ⟨rfl, rfl⟩
      · have hltz : ¬ (q : Int) < (n : Int) := by omega
        go_wp2
        go_meet
        exact ⟨rfl, rfl⟩
    case rest =>
      obtain ⟨rfl, rfl⟩ := hcut
      clear zq1 zq2 zd1 zd2 CF hb
      go_wp2
      go_loopg [6] q (fun gg s6 wr => ∃ i : Nat, i ≤ q ∧ q - i ≤ gg ∧ s6 = .int .i64 i ∧ wr = wc)
      case atStart => exact ⟨0, Nat.zero_le _, by omega, rfl, rfl⟩
      case round =>
        obtain ⟨i, hi, hg, rfl, rfl⟩ := hrel
        by_cases hlt : i < q
        · have hltz : (i : Int) < (q : Int) := by omega
          obtain ⟨b, off, rfl, _, hc⟩ := H3.out.iat (by omega)
          have c1 := hc i _ (HAT.out i hlt)
          have hin : i < n := by omega
          have hinz : (i : Int) < (n : Int) := by omega
          clear hc
          go_wp2
          go_roundg (q - (i + 1))
          case measure => omega
          case rel => exact ⟨i + 1, by omega, by omega, by go_num, rfl⟩
        · have hltz : ¬ (i : Int) < (q : Int) := by omega
          obtain rfl : i = q := by omega
          go_wp2
          go_ret
          exact ⟨rfl, B3.out⟩
end Go.Proofs.Ytohofgmdellpnaa.Seen
