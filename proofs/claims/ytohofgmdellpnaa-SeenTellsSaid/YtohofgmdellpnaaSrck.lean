/- Seen: the document's Check, Has, Below, First. -/
import Derived.Test.YtohofgmdellpnaaSref
import Derived.Deep.QuietTactic
namespace Go.Proofs.Ytohofgmdellpnaa.Seen
open Go.RowKit Go.Shelf Go.Lib

/-- What the reference's Check compares with. -/
theorem ahd_one {l : List Int} {k : Nat} (h : 0 < k) (hk : k ≤ l.length) : ∃ p, l[k - 1]? = some p ∧ ahd l k = p := by
  have : k - 1 < l.length := by omega
  refine ⟨l[k - 1], List.getElem?_eq_getElem _, ?_⟩
  unfold ahd
  rw [if_neg (by omega), List.getD_eq_getElem?_getD, List.getElem?_eq_getElem this]
  rfl

set_option maxHeartbeats 6400000 in
set_option maxRecDepth 100000 in
theorem rcheck_any {w : World} {B n c : Nat} {A : Option Addr} {l : List Int} (h : Gs w B A n c 1 (cellsI l)) (hB : B ≤ w.heap.size) :
    Calls Try.prog 20 #[.slice A n c] w fun e w' => e = .returned (.int .i64 (schk l)) ∧ Hid (Below w.heap.size w w') := by
  have H := hid (h.mono hB)
  have hl := hid h.ilen
  have hcap := h.cap
  clear h hB
  by_cases hn : 4096 < n
  · have hz : (n : Int) > 4096 := by omega
    go_enter Try.func20, Try.ntmps20
    go_wp2
    go_ret
    refine ⟨?_, hid (Below.refl _ _)⟩
    unfold schk
    rw [if_pos (by rw [hl.out]; exact hn)]
    rfl
  · have hz : ¬ (n : Int) > 4096 := by omega
    have hL := hid (show l.length ≤ 4096 by rw [hl.out]; omega)
    go_enter Try.func20, Try.ntmps20
    go_wp2
    go_loopg [3] n (fun gg s3 wr => ∃ kk : Nat, kk ≤ n ∧ n - kk ≤ gg ∧ s3 = .int .i64 kk ∧ Hid (Below w.heap.size w wr) ∧ Hid (Gone l kk (ahd l kk)))
    case atStart => exact ⟨0, Nat.zero_le _, by omega, rfl, hid (Below.refl _ _), hid (Gone.start l)⟩
    case round =>
      obtain ⟨kk, hkk, hg, rfl, BW, HA⟩ := hrel
      by_cases hlt : kk < n
      · have hltz : (kk : Int) < (n : Int) := by omega
        obtain ⟨y, hy⟩ := H.out.iget hlt
        obtain ⟨b, off, rfl, _, hc⟩ := (H.out.below BW.out).iat (by omega)
        have c1 := hc kk y hy
        have Hy := hid hy
        clear hy
        by_cases hm : NOk y
        · have HM := hid hm
          have hd : decide (NOk y) = true := decide_eq_true hm
          clear hm
          by_cases h0 : 0 < kk
          · have h0z : (kk : Int) > 0 := by omega
            have h0d : decide ((0 : Int) < (kk : Int)) = true := decide_eq_true (by omega)
            obtain ⟨p, hp, hap⟩ := ahd_one h0 (show kk ≤ l.length by rw [hl.out]; exact hkk)
            have c2 := hc (kk - 1) p hp
            have hw1 : IntKind.i64.wrap ((kk : Int) - 1) = ((kk - 1 : Nat) : Int) := by rw [IntKind.wrap_i64]; omega
            have hk1 : kk - 1 < n := by omega
            have hk1z : ((kk - 1 : Nat) : Int) < (n : Int) := by omega
            have HP := hid hap
            clear hc hp hap
            by_cases hle : y ≤ p
            · have HE := hid hle
              have hled : decide (y ≤ p) = true := decide_eq_true hle
              clear hle
              go_wp2_with fail
              go_quiet ((go_at_call 25; exact Calls.quiet_of_same (may_any _ _)))
              go_wp2
              go_ret
              refine ⟨?_, hid (below_drewN BW.out _)⟩
              rw [HA.out.bad hL.out Hy.out (.inl (by rw [HP.out]; exact HE.out))]
              rfl
            · have hled : decide (y ≤ p) = false := decide_eq_false hle
              have HN := hid (HA.out.next Hy.out (by rw [HP.out]; omega) HM.out.2)
              go_wp2_with fail
              go_quiet ((go_at_call 25; exact Calls.quiet_of_same (may_any _ _)))
              go_wp2
              go_roundg (n - (kk + 1))
              case measure => omega
              case rel => exact ⟨kk + 1, by omega, by omega, by go_num, hid (below_drewN BW.out _), hid (by rw [ahd_succ Hy.out]; exact HN.out)⟩
          · have h0z : ¬ (kk : Int) > 0 := by omega
            have h0d : decide (0 < kk) = false := decide_eq_false (by omega)
            clear hc h0
            have HN := hid (HA.out.next Hy.out (by have := HM.out.1; unfold ahd; rw [if_pos (by omega)]; omega) HM.out.2)
            go_wp2_with fail
            go_quiet ((go_at_call 25; exact Calls.quiet_of_same (may_any _ _)))
            go_wp2
            go_roundg (n - (kk + 1))
            case measure => omega
            case rel => exact ⟨kk + 1, by omega, by omega, by go_num, hid (below_drewN BW.out _), hid (by rw [ahd_succ Hy.out]; exact HN.out)⟩
        · have HM := hid hm
          have hd : decide (NOk y) = false := decide_eq_false hm
          clear hc hm
          go_wp2_with fail
          go_quiet ((go_at_call 25; exact Calls.quiet_of_same (may_any _ _)))
          go_wp2
          go_ret
          refine ⟨?_, hid (below_drewN BW.out _)⟩
          rw [HA.out.bad hL.out Hy.out (by have := HA.out.1; have := HM.out; unfold NOk at this; omega)]
          rfl
      · have hltz : ¬ (kk : Int) < (n : Int) := by omega
        obtain rfl : kk = n := by omega
        go_wp2
        go_ret
        refine ⟨?_, BW⟩
        rw [HA.out.good hL.out hl.out]
        rfl
end Go.Proofs.Ytohofgmdellpnaa.Seen
