/- Seen: the document's May, Check, In, Has. -/
import Derived.Test.YtohofgmdellpnaaGs
import Derived.Test.YtohofgmdellpnaaSnm
import Derived.Deep.DeepBigQuietO
import Derived.Deep.RegionHeld3
import Derived.Laws.Cover3
namespace Go.Proofs.Ytohofgmdellpnaa.Seen
open Go.RowKit Go.Shelf Go.Lib

theorem may_any (n : Int) (w : World) : Calls Try.prog 25 #[.int .i64 n] w fun e w' => e = .returned (.bool (decide (NOk n))) ∧ w' = w := by
  by_cases h0 : 0 ≤ n
  · by_cases h1 : n ≤ 1048575
    · have hd : decide (NOk n) = true := decide_eq_true ⟨h0, h1⟩
      rw [hd]
      have hz : n ≥ 0 := h0
      go_enter Try.func25, Try.ntmps25
      go_wp2
      go_ret
      exact ⟨rfl, rfl⟩
    · have hd : decide (NOk n) = false := decide_eq_false (fun h => h1 h.2)
      rw [hd]
      have hz : n ≥ 0 := h0
      go_enter Try.func25, Try.ntmps25
      go_wp2
      go_ret
      exact ⟨rfl, rfl⟩
  · have hd : decide (NOk n) = false := decide_eq_false (fun h => h0 h.1)
    rw [hd]
    have hz : ¬ n ≥ 0 := h0
    go_enter Try.func25, Try.ntmps25
    go_wp2
    go_ret
    exact ⟨rfl, rfl⟩

set_option maxHeartbeats 3200000 in
set_option maxRecDepth 100000 in
theorem in_any {w : World} {B n c : Nat} {A : Option Addr} {l : List Int} (h : Gs w B A n c 1 (cellsI l)) (x : Int) :
    Calls Try.prog 26 #[.slice A n c, .int .i64 x] w fun e w' => e = .returned (.bool (decide (x ∈ l))) ∧ w' = w := by
  have H := hid h
  have hl := hid h.ilen
  have hm := h.max
  have hcap := h.cap
  clear h
  go_enter Try.func26, Try.ntmps26
  go_wp2
  go_loopg [5] n (fun gg s5 wr => ∃ kk : Nat, kk ≤ n ∧ n - kk ≤ gg ∧ s5 = .int .i64 kk ∧ wr = w ∧ Hid (∀ j y, j < kk → l[j]? = some y → y ≠ x))
  case atStart => exact ⟨0, Nat.zero_le _, by omega, rfl, rfl, hid (fun j y hj => absurd hj (Nat.not_lt_zero _))⟩
  case round =>
    obtain ⟨kk, hkk, hg, rfl, rfl, HA⟩ := hrel
    by_cases hlt : kk < n
    · have hltz : (kk : Int) < (n : Int) := by omega
      obtain ⟨y, hy⟩ := H.out.iget hlt
      obtain ⟨b, off, rfl, _, hc⟩ := H.out.iat (by omega)
      have c1 := hc kk y hy
      have Hy := hid hy
      clear hc hy
      by_cases hxy : y = x
      · have HX := hid hxy
        subst hxy
        go_wp2
        go_ret
        refine ⟨?_, rfl⟩
        rw [decide_eq_true (List.mem_of_getElem? Hy.out)]
        rfl
      · have HX := hid hxy
        go_wp2
        go_roundg (n - (kk + 1))
        case measure => omega
        case rel =>
          refine ⟨kk + 1, by omega, by omega, by go_num, rfl, hid (fun j z hj hz => ?_)⟩
          by_cases hjk : j = kk
          · subst hjk
            rw [Hy.out] at hz
            injection hz with hz
            rw [← hz]
            exact HX.out
          · exact HA.out j z (by omega) hz
    · have hltz : ¬ (kk : Int) < (n : Int) := by omega
      obtain rfl : kk = n := by omega
      go_wp2
      go_ret
      refine ⟨?_, rfl⟩
      have hno : decide (x ∈ l) = false := by
       rw [decide_eq_false_iff_not]
       intro hm
       obtain ⟨j, hj⟩ := List.mem_iff_getElem?.1 hm
       have := (List.getElem?_eq_some_iff.1 hj).1
       have := hl.out
       exact HA.out j x (by omega) hj rfl
      rw [hno]
      rfl

/-- The number ahead. -/
def ahd (l : List Int) (k : Nat) : Int := if k = 0 then -1 else l.getD (k - 1) 0
theorem ahd_succ {l : List Int} {k : Nat} {x : Int} (h : l[k]? = some x) : ahd l (k + 1) = x := by
  unfold ahd
  rw [if_neg (by omega), Nat.add_sub_cancel, List.getD_eq_getElem?_getD, h]
  rfl
theorem gdN_drop {l : List Int} {k : Nat} {x last : Int} (h : l[k]? = some x) : gdN last (l.drop k) ↔ last < x ∧ x ≤ 1048575 ∧ gdN x (l.drop (k + 1)) := by
  obtain ⟨hk, rfl⟩ := List.getElem?_eq_some_iff.1 h
  rw [List.drop_eq_getElem_cons hk]
  exact Iff.rfl
/-- Check goes on: as far as k all is right. -/
def Gone (l : List Int) (k : Nat) (last : Int) : Prop := -1 ≤ last ∧ (gdN (-1) l ↔ gdN last (l.drop k))
theorem Gone.start (l : List Int) : Gone l 0 (-1) := ⟨by omega, by rw [List.drop_zero]⟩
theorem Gone.next {l : List Int} {k : Nat} {last x : Int} (g : Gone l k last) (h : l[k]? = some x) (h1 : last < x) (h2 : x ≤ 1048575) : Gone l (k + 1) x := by
  refine ⟨by have := g.1; omega, g.2.trans ((gdN_drop h).trans ⟨fun h => h.2.2, fun h => ⟨h1, h2, h⟩⟩)⟩
theorem Gone.bad {l : List Int} {k : Nat} {last x : Int} (g : Gone l k last) (hl : l.length ≤ 4096) (h : l[k]? = some x) (h1 : x ≤ last ∨ 1048575 < x) : schk l = 8 := by
  unfold schk
  rw [if_neg (by omega), if_neg]
  intro hg
  have := (gdN_drop h).1 (g.2.1 hg)
  omega
theorem Gone.good {l : List Int} {last : Int} {n : Nat} (g : Gone l n last) (hl : l.length ≤ 4096) (hn : l.length = n) : schk l = 0 := by
  unfold schk
  rw [if_neg (by omega), if_pos]
  refine g.2.2 ?_
  rw [List.drop_of_length_le (by omega)]
  trivial

set_option maxHeartbeats 3200000 in
set_option maxRecDepth 100000 in
theorem check_any {w : World} {B n c : Nat} {A : Option Addr} {l : List Int} (h : Gs w B A n c 1 (cellsI l)) :
    Calls Try.prog 12 #[.slice A n c] w fun e w' => e = .returned (.int .i64 (schk l)) ∧ w' = w := by
  have H := hid h
  have hl := hid h.ilen
  have hcap := h.cap
  clear h
  by_cases hn : 4096 < n
  · have hz : (n : Int) > 4096 := by omega
    go_enter Try.func12, Try.ntmps12
    go_wp2
    go_ret
    refine ⟨?_, rfl⟩
    unfold schk
    rw [if_pos (by rw [hl.out]; exact hn)]
    rfl
  · have hz : ¬ (n : Int) > 4096 := by omega
    have hL := hid (show l.length ≤ 4096 by rw [hl.out]; omega)
    go_enter Try.func12, Try.ntmps12
    go_wp2
    go_loopg [3, 11] n (fun gg s3 s11 wr => ∃ (kk : Nat) (last : Int), kk ≤ n ∧ n - kk ≤ gg ∧ s11 = .int .i64 kk ∧ s3 = .int .i64 last ∧ wr = w ∧ Hid (Gone l kk last))
    case atStart => exact ⟨0, -1, Nat.zero_le _, by omega, rfl, rfl, rfl, hid (Gone.start l)⟩
    case round =>
      obtain ⟨kk, last, hkk, hg, rfl, rfl, rfl, HA⟩ := hrel
      by_cases hlt : kk < n
      · have hltz : (kk : Int) < (n : Int) := by omega
        obtain ⟨y, hy⟩ := H.out.iget hlt
        obtain ⟨b, off, rfl, _, hc⟩ := H.out.iat (by omega)
        have c1 := hc kk y hy
        have Hy := hid hy
        clear hc hy
        by_cases h1 : y ≤ last
        · go_wp2
          go_ret
          exact ⟨by rw [HA.out.bad hL.out Hy.out (.inl h1)]; rfl, rfl⟩
        · by_cases h2 : y > 1048575
          · go_wp2
            go_ret
            exact ⟨by rw [HA.out.bad hL.out Hy.out (.inr h2)]; rfl, rfl⟩
          · have HN := hid (HA.out.next Hy.out (by omega) (by omega))
            go_wp2
            go_roundg (n - (kk + 1))
            case measure => omega
            case rel => exact ⟨kk + 1, y, by omega, by omega, by go_num, rfl, rfl, HN⟩
      · have hltz : ¬ (kk : Int) < (n : Int) := by omega
        obtain rfl : kk = n := by omega
        go_wp2
        go_ret
        exact ⟨by rw [HA.out.good hL.out hl.out]; rfl, rfl⟩
end Go.Proofs.Ytohofgmdellpnaa.Seen
