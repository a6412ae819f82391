/- slices.Concat. -/
import Derived.Test.YtdemhghflanncaaCgro
namespace Go.Proofs.Ytdemhghflanncaa
open Go.RowKit Go.Shelf Go.Lib

/-- The first j lists, put together. -/
def cats (L : Nat → List De) : Nat → List De
  | 0 => []
  | j + 1 => cats L j ++ L j
theorem cats_le (L : Nat → List De) {j k : Nat} (h : j ≤ k) : (cats L j).length ≤ (cats L k).length := by
  induction k with
  | zero => obtain rfl : j = 0 := by omega
            exact Nat.le_refl _
  | succ k ih =>
    rcases Nat.lt_or_ge k j with h1 | h1
    · obtain rfl : j = k + 1 := by omega
      exact Nat.le_refl _
    · have := ih h1
      rw [show cats L (k + 1) = cats L k ++ L k from rfl, List.length_append]
      omega
theorem turned_below {w w' : World} {B : Nat} {v v' : Value} {l l' : List De} (h : Turned w w' B v v' l') (hO : Od w B v l) (hB : B ≤ w.heap.size) : Below B w w' :=
  ⟨h.grown.os, h.grown.tape, h.grown.output, h.grown.size, fun k hk => h.grown.block k (by omega) (fun e => by have := (own_lt hO k e.symm).1; omega)⟩

set_option maxHeartbeats 3200000 in
set_option maxRecDepth 100000 in
theorem concat_any {w : World} {b off k c : Nat} (S : Nat → Option Addr × Nat × Nat) (L : Nat → List De) (h : ∀ j, j < k → w.cell? ⟨b, off + j, none⟩ = some (.slice (S j).1 (S j).2.1 (S j).2.2) ∧ Ds w w.heap.size (S j).1 (S j).2.1 (S j).2.2 (L j)) (hb : b < w.heap.size) (hk : k ≤ 1000) (hkc : k ≤ c) (hs : (cats L k).length ≤ 100000) :
    Calls Try.prog 44 #[.slice (some ⟨b, off, none⟩) k c] w fun e w' => ∃ v, e = .returned v ∧ Hid (Od w' w.heap.size v (cats L k) ∧ Below w.heap.size w w') := by
  have H := hid h
  have HS := hid hs
  have Hb := hid hb
  clear h hs
  go_enter Try.func44, Try.ntmps44
  go_wp2
  go_loopg [3, 5, 11] k (fun gg s3 _ s11 wr => ∃ kk : Nat, kk ≤ k ∧ k - kk ≤ gg ∧ s11 = .int .i64 kk ∧ s3 = .int .i64 ((cats L kk).length : Nat) ∧ Hid (Below w.heap.size w wr))
  case atStart => exact ⟨0, Nat.zero_le _, by omega, rfl, rfl, hid (Below.refl _ w)⟩
  case round =>
    obtain ⟨kk, hkk, hg, rfl, rfl, BW⟩ := hrel
    obtain ⟨a, ha⟩ : ∃ a, a = (cats L kk).length := ⟨_, rfl⟩
    rw [← ha]
    by_cases hlt : kk < k
    · have hltz : (kk : Int) < (k : Int) := by omega
      obtain ⟨hc, hD⟩ := H.out kk hlt
      have hcell := (BW.out.cell (p := ⟨b, off + kk, none⟩) hb).trans hc
      have hlen := hD.len
      have hmx := hD.max
      have hle := cats_le L (show kk + 1 ≤ k by omega)
      have hnx : (cats L (kk + 1)).length = a + (S kk).2.1 := by
        rw [show cats L (kk + 1) = cats L kk ++ L kk from rfl, List.length_append, ← ha, hlen]
      have hle2 := HS.out
      obtain ⟨⟨A, n, cc⟩, hS⟩ : ∃ x, x = S kk := ⟨_, rfl⟩
      rw [← hS] at hcell hnx
      change wr.cell? ⟨b, off + kk, none⟩ = some (.slice A n cc) at hcell
      have hsum : a + n ≤ 100000 := by rw [hnx] at hle; exact Nat.le_trans hle hle2
      have hng : ¬ ((a : Int) + (n : Int) < 0) := by omega
      have HN := hid hnx
      clear hc hD hlen hmx hle hnx hle2 hS ha
      go_wp2
      go_roundg (k - (kk + 1))
      case measure => omega
      case rel =>
        refine ⟨kk + 1, by omega, by omega, by go_num, ?_, BW⟩
        rw [HN.out]
        go_num
    · have hltz : ¬ (kk : Int) < (k : Int) := by omega
      obtain rfl : kk = k := by omega
      have HG := hid (grow_nil a (by have := HS.out; omega) wr)
      have HBW := hid BW.out.size
      clear ha
      go_wp2_with (first | (go_at_call 53; refine HG.out.mono ?_; rintro e w1 ⟨v1, rfl, HV⟩) | go_in)
      go_loopg [6, 8, 27] kk (fun gg s6 _ s27 wx => ∃ i : Nat, i ≤ kk ∧ kk - i ≤ gg ∧ s27 = .int .i64 i ∧ Hid (Od wx w.heap.size s6 (cats L i) ∧ Below w.heap.size w wx))
      case atStart => exact ⟨0, Nat.zero_le _, by omega, rfl, hid ⟨HV.out.1.mono HBW.out, BW.out.trans (HV.out.2.mono HBW.out)⟩⟩
      case round =>
        obtain ⟨i, hi, hg, rfl, HI⟩ := hrel
        by_cases hlt : i < kk
        · have hltz : (i : Int) < (kk : Int) := by omega
          obtain ⟨hc, hD⟩ := H.out i hlt
          have hcell := (HI.out.2.cell (p := ⟨b, off + i, none⟩) hb).trans hc
          have hle := cats_le L (show i + 1 ≤ kk by omega)
          have hnx : (cats L (i + 1)).length = (cats L i).length + (S i).2.1 := by
            rw [show cats L (i + 1) = cats L i ++ L i from rfl, List.length_append, hD.len]
          have hle2 := HS.out
          have hDs := hD.below HI.out.2
          have hmx := hD.max
          have hcap := hD.cap
          obtain ⟨⟨A, n, cc⟩, hS⟩ : ∃ x, x = S i := ⟨_, rfl⟩
          rw [← hS] at hcell hnx hDs hmx hcap
          change wr.cell? ⟨b, off + i, none⟩ = some (.slice A n cc) at hcell
          change Ds wr w.heap.size A n cc (L i) at hDs
          have HSum : Hid ((cats L i).length + n ≤ 100000) := hid (by rw [hnx] at hle; exact Nat.le_trans hle hle2)
          have HDs := hid hDs
          clear hc hD hle hnx hle2 hS hDs
          go_wp2_with (first
            | (at_builtin; refine list_appD rfl _ _ rfl rfl rfl HI.out.1 HDs.out HSum.out HI.out.2.size ?_; intro v' w' HT)
            | go_in)
          go_roundg (kk - (i + 1))
          case measure => omega
          case rel =>
            exact ⟨i + 1, by omega, by omega, by go_num, hid ⟨HT.out.own, HI.out.2.trans (turned_below HT.out HI.out.1 HI.out.2.size)⟩⟩
        · have hltz : ¬ (i : Int) < (kk : Int) := by omega
          obtain rfl : i = kk := by omega
          go_wp2
          go_ret
          exact ⟨_, rfl, HI⟩
end Go.Proofs.Ytdemhghflanncaa
