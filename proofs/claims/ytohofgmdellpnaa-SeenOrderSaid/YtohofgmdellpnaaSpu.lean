/- Seen: the program's Put. -/
import Derived.Test.YtohofgmdellpnaaSfi
import Derived.Lib.AppendZeros
namespace Go.Proofs.Ytohofgmdellpnaa.Seen
open Go.RowKit Go.Shelf Go.Lib

set_option maxHeartbeats 1600000 in
theorem grow_nil (n : Nat) (hn : n ≤ 100000) (w : World) :
    Calls Try.prog 30 #[.slice none 0 0, .int .i64 n] w fun e w' => ∃ v, e = .returned v ∧ Hid (Gi w' w.heap.size v [] ∧ Below w.heap.size w w') := by
  rcases Nat.eq_zero_or_pos n with h0 | h0
  · subst h0
    go_enter Try.func30, Try.ntmps30
    go_wp2
    go_ret
    exact ⟨_, rfl, hid ⟨Gi.nil _ _, Below.refl _ _⟩⟩
  · obtain ⟨i0, hi0, hz0, hzs, hzb⟩ := info_parts infoI
    obtain ⟨G, hG⟩ : ∃ G, G = grownCap w n 0 3 := ⟨_, rfl⟩
    have hGn : n ≤ G := by rw [hG]; exact grownCap_ge w _ _ _
    have hGm : G ≤ maxLen := by rw [hG]; exact grownCap_le_maxLen w n 0 3 (by unfold maxLen; omega)
    obtain ⟨ROW, hROW⟩ : ∃ ROW : Array Value, ROW = Builtin.zeroCells (Value.int .i64 0).cells n ++ Builtin.zeroCells (Value.int .i64 0).cells (G - n) := ⟨_, rfl⟩
    have hrz : ∀ ty, (Builtin.append_ #[22, 3] ty #[.slice none 0 0, .int .i64 (n : Int)]).run Try.prog w =
        .ok (.slice (some ⟨w.heap.size, 0, none⟩) n G) (w.drew.alloc (.cells ROW 3)) := fun ty => by
      have h := Lib.run_append_nil_zeros w 22 3 ty 3 i0 _ .i64 .i64 Try.underlying22 Try.underlying3 hi0 hz0 n h0 (by omega) (by omega) (by rw [hzb]; omega)
      rw [← hG, ← hROW] at h
      exact h
    have hRs : ROW.size = G * 1 := by
      rw [hROW, Array.size_append, size_zeroCells, size_zeroCells]
      show n * 1 + (G - n) * 1 = G * 1
      omega
    have HR : Hid (Gi (w.drew.alloc (.cells ROW 3)) w.heap.size (.slice (some ⟨w.heap.size, 0, none⟩) 0 G) [] ∧ Below w.heap.size w (w.drew.alloc (.cells ROW 3))) := hid ⟨Gw.none' (heap_alloc_new w.drew _) (Nat.le_refl _) hGm hRs, ((Below.refl _ w).drew).alloc (Nat.le_refl _) _⟩
    have hG63 : G ≤ 9223372036854775807 := by unfold maxLen at hGm; omega
    have hgt : (n : Int) > 0 := by omega
    have hng : ¬ (n : Int) < 0 := by omega
    have hG0 : ¬ (G = 0) := by omega
    clear hRs hROW hG
    go_enter Try.func30, Try.ntmps30
    go_wp2_with (at_builtin; refine Lib.wpList_append_run _ rfl _ _ _ _ rfl _ _ rfl rfl _ _ (hrz _) ?_)
    go_ret
    exact ⟨_, rfl, HR⟩

/-- The first j lists, put together. -/
def cats (L : Nat → List Int) : Nat → List Int
  | 0 => []
  | j + 1 => cats L j ++ L j
theorem cats_le (L : Nat → List Int) {j k : Nat} (h : j ≤ k) : (cats L j).length ≤ (cats L k).length := by
  induction k with
  | zero => obtain rfl : j = 0 := by omega
            exact Nat.le_refl _
  | succ k ih =>
    rcases Nat.lt_or_ge k j with h1 | h1
    · obtain rfl : j = k + 1 := by omega
      exact Nat.le_refl _
    · have := ih h1
      rw [show cats L (k + 1) = cats L k ++ L k from rfl, List.length_append]
      omega

set_option maxHeartbeats 3200000 in
set_option maxRecDepth 100000 in
theorem concat_any {w : World} {b off k c : Nat} (S : Nat → Option Addr × Nat × Nat) (L : Nat → List Int) (h : ∀ j, j < k → w.cell? ⟨b, off + j, none⟩ = some (.slice (S j).1 (S j).2.1 (S j).2.2) ∧ Gs w w.heap.size (S j).1 (S j).2.1 (S j).2.2 1 (cellsI (L j))) (hb : b < w.heap.size) (hk : k ≤ 1000) (hkc : k ≤ c) (hs : (cats L k).length ≤ 100000) :
    Calls Try.prog 22 #[.slice (some ⟨b, off, none⟩) k c] w fun e w' => ∃ v, e = .returned v ∧ Hid (Gi w' w.heap.size v (cats L k) ∧ Below w.heap.size w w') := by
  have H := hid h
  have HS := hid hs
  have Hb := hid hb
  clear h hs
  go_enter Try.func22, Try.ntmps22
  go_wp2
  go_loopg [3, 5, 11] k (fun gg s3 _ s11 wr => ∃ kk : Nat, kk ≤ k ∧ k - kk ≤ gg ∧ s11 = .int .i64 kk ∧ s3 = .int .i64 ((cats L kk).length : Nat) ∧ Hid (Below w.heap.size w wr))
  case atStart => exact ⟨0, Nat.zero_le _, by omega, rfl, rfl, hid (Below.refl _ w)⟩
  case round =>
    obtain ⟨kk, hkk, hg, rfl, rfl, BW⟩ := hrel
    obtain ⟨a, ha⟩ : ∃ a, a = (cats L kk).length := ⟨_, rfl⟩
    rw [← ha]
    by_cases hlt : kk < k
    · have hltz : (kk : Int) < (k : Int) := by omega
      obtain ⟨hc, hD⟩ := H.out kk hlt
      have hcell := (BW.out.cell (p := ⟨b, off + kk, none⟩) hb).trans hc
      have hlen := hD.ilen
      have hmx := hD.max
      have hle := cats_le L (show kk + 1 ≤ k by omega)
      have hnx : (cats L (kk + 1)).length = a + (S kk).2.1 := by
        rw [show cats L (kk + 1) = cats L kk ++ L kk from rfl, List.length_append, ← ha, hlen]
      have hle2 := HS.out
      obtain ⟨⟨A, n, cc⟩, hS⟩ : ∃ x, x = S kk := ⟨_, rfl⟩
      rw [← hS] at hcell hnx
      change wr.cell? ⟨b, off + kk, none⟩ = some (.slice A n cc) at hcell
      have hsum : a + n ≤ 100000 := by rw [hnx] at hle; exact Nat.le_trans hle hle2
      have hng : ¬ ((a : Int) + (n : Int) < 0) := by omega
      have HN := hid hnx
      clear hc hD hlen hmx hle hnx hle2 hS ha
      go_wp2
      go_roundg (k - (kk + 1))
      case measure => omega
      case rel =>
        refine ⟨kk + 1, by omega, by omega, by go_num, ?_, BW⟩
        rw [HN.out]
        go_num
    · have hltz : ¬ (kk : Int) < (k : Int) := by omega
      obtain rfl : kk = k := by omega
      have HG := hid (grow_nil a (by have := HS.out; omega) wr)
      have HBW := hid BW.out.size
      clear ha
      go_wp2_with (first | (go_at_call 30; refine HG.out.mono ?_; rintro e w1 ⟨v1, rfl, HV⟩) | go_in)
      go_loopg [6, 8, 27] kk (fun gg s6 _ s27 wx => ∃ (i : Nat) (v : Value), i ≤ kk ∧ kk - i ≤ gg ∧ s27 = .int .i64 i ∧ v = s6 ∧ Hid (Gi wx w.heap.size v (cats L i) ∧ Below w.heap.size w wx))
      case atStart => exact ⟨0, _, Nat.zero_le _, by omega, rfl, rfl, hid ⟨HV.out.1.mono HBW.out, BW.out.trans (HV.out.2.mono HBW.out)⟩⟩
      case round =>
        obtain ⟨i, v, hi, hg, rfl, rfl, HI⟩ := hrel
        by_cases hlt : i < kk
        · have hltz : (i : Int) < (kk : Int) := by omega
          obtain ⟨hc, hD⟩ := H.out i hlt
          have hcell := (HI.out.2.cell (p := ⟨b, off + i, none⟩) hb).trans hc
          have hle := cats_le L (show i + 1 ≤ kk by omega)
          have hnx : (cats L (i + 1)).length = (cats L i).length + (S i).2.1 := by
            rw [show cats L (i + 1) = cats L i ++ L i from rfl, List.length_append, hD.ilen]
          have hle2 := HS.out
          have hDs := hD.below HI.out.2
          have hmx := hD.max
          have hcap := hD.cap
          obtain ⟨⟨A, n, cc⟩, hS⟩ : ∃ x, x = S i := ⟨_, rfl⟩
          rw [← hS] at hcell hnx hDs hmx hcap
          change wr.cell? ⟨b, off + i, none⟩ = some (.slice A n cc) at hcell
          change Gs wr w.heap.size A n cc 1 (cellsI (L i)) at hDs
          have HSum : Hid ((cats L i).length + n ≤ 100000) := hid (by rw [hnx] at hle; exact Nat.le_trans hle hle2)
          have HDs := hid hDs
          clear hc hD hle hnx hle2 hS hDs
          go_wp2_with (first
            | (at_builtin; refine list_appI (v := v) (l := cats L i) (r := L i) rfl _ _ rfl rfl rfl HI.out.1 HDs.out HSum.out HI.out.2.size ?_; intro v' w' HT)
            | go_in)
          go_roundg (kk - (i + 1))
          case measure => omega
          case rel =>
            exact ⟨i + 1, _, by omega, by omega, by go_num, rfl, hid ⟨HT.out.own, HI.out.2.trans (HT.out.below HI.out.1 HI.out.2.size)⟩⟩
        · have hltz : ¬ (i : Int) < (kk : Int) := by omega
          obtain rfl : i = kk := by omega
          go_wp2
          go_ret
          exact ⟨_, rfl, HI⟩

/-- Concat of three lists. -/
theorem concat3 {w : World} {b n1 c1 n2 c2 n3 c3 : Nat} {A1 A2 A3 : Option Addr} {l1 l2 l3 : List Int} (hr : w.heap[b]? = some (.cells #[.slice A1 n1 c1, .slice A2 n2 c2, .slice A3 n3 c3] 22 (0, 0)))
    (h1 : Gs w w.heap.size A1 n1 c1 1 (cellsI l1)) (h2 : Gs w w.heap.size A2 n2 c2 1 (cellsI l2)) (h3 : Gs w w.heap.size A3 n3 c3 1 (cellsI l3)) (hs : l1.length + l2.length + l3.length ≤ 100000) :
    Calls Try.prog 22 #[.slice (some ⟨b, 0, none⟩) 3 3] w fun e w' => ∃ v, e = .returned v ∧ Hid (Gi w' w.heap.size v (l1 ++ l2 ++ l3) ∧ Below w.heap.size w w') := by
  have := concat_any (w := w) (b := b) (off := 0) (k := 3) (c := 3) (fun j => if j = 0 then (A1, n1, c1) else if j = 1 then (A2, n2, c2) else (A3, n3, c3)) (fun j => if j = 0 then l1 else if j = 1 then l2 else l3) (fun j hj => by
    rw [cell_of_row w b _ _ _ (0, 0) hr]
    obtain rfl | rfl | rfl : j = 0 ∨ j = 1 ∨ j = 2 := by omega
    · exact ⟨rfl, h1⟩
    · exact ⟨rfl, h2⟩
    · exact ⟨rfl, h3⟩) (lt_of_heap hr) (by omega) (Nat.le_refl _) (by simp [cats]; omega)
  exact this
end Go.Proofs.Ytohofgmdellpnaa.Seen
