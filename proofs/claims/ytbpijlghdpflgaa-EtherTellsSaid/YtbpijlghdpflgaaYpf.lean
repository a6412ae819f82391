/- Ether, the program: Twin, Many. -/
import Derived.Test.YtbpijlghdpflgaaYpe
namespace Go.Proofs.Ytbpijlghdpflgaa.Eth
open Go.RowKit Go.Shelf Go.Lib

set_option maxHeartbeats 3200000 in
set_option maxRecDepth 100000 in
theorem twin_ok : TwinOk := by
  intro w B n c A l h hB hn hT
  have hb := (Below.refl w.heap.size w).alloc (Nat.le_refl _) (.cells #[.slice A n c] 22)
  have hz : w.heap.size < (w.alloc (.cells #[.slice A n c] 22)).heap.size := by simp
  have CT := hid (together_any (w := w.alloc (.cells #[.slice A n c] 22)) (Gs.new (cs := cellsS [(A, n, c)]) (k := 1) (n := 1) (c := 1) (heap_alloc_new w _) hz rfl (Nat.le_refl _) (by omega))
    (Lss.one (h.on hB hb)) (Nat.le_refl _) (by simp [h.len]; exact hn) (fun q hq p hp => hT p ((show q = l by simpa using hq) ▸ hp)))
  rw [show ([l] : List (List Cp)).flatten = l by simp] at CT
  have HB := hid hb
  have hl := hid h.len
  clear h hB hT hb hz
  go_enter Try.func14, Try.ntmps14
  go_wp2_with fail
  refine CT.out.mono ?_
  rintro e w1 ⟨A1, n1, c1, rs1, rfl, h1⟩
  obtain rfl : n1 = n := h1.out.2.2.trans hl.out
  go_wp2
  go_ret
  exact ⟨_, _, _, rfl, hid ⟨h1.out.1.mono (fun _ hk => Nat.le_trans HB.out.size hk), gbelow_on HB.out (Nat.le_refl _) h1.out.2.1⟩⟩

set_option maxHeartbeats 3200000 in
set_option maxRecDepth 100000 in
theorem many_ok : ManyOk := by
  intro w B n c A l x0 h hB
  have CK := hid (check_ok h hB)
  have H := hid (h.mono hB)
  have hl := hid h.len
  have hcap := h.cap
  clear h hB
  by_cases h0 : echk l = 0
  · have hn : n ≤ 100 := by have := (echk_zero.1 h0).1; rw [hl.out] at this; omega
    rw [show mnA l x0 = cnt l x0 from if_pos h0, h0]
    rw [h0] at CK
    clear h0
    go_enter Try.func12, Try.ntmps12
    go_wp2_with fail
    refine CK.out.mono ?_
    rintro e w1 ⟨rfl, hb⟩
    go_wp2
    go_loopg [7, 17] n (fun gg s5 s6 wr => ∃ (kk q : Nat), kk ≤ n ∧ n - kk ≤ gg ∧ s6 = .int .i64 kk ∧ s5 = .int .i64 q ∧ q ≤ kk ∧ Hid (Below w.heap.size w wr) ∧ Hid (q = cnt (l.take kk) x0))
    case atStart => exact ⟨0, 0, Nat.zero_le _, by omega, rfl, rfl, Nat.le_refl _, hb, hid rfl⟩
    case round =>
      obtain ⟨kk, q, hkk, hg, rfl, rfl, hq, BW, HQ⟩ := hrel
      by_cases hlt : kk < n
      · have hltz : (kk : Int) < (n : Int) := by omega
        obtain ⟨b, off, x, y, A', n', c', t, s, rfl, hb, hp, c0, c1, c2, c3, ht, hf⟩ := (H.out.below BW.out).get hlt
        have HS := hid (show cnt (l.take (kk + 1)) x0 = cnt (l.take kk) x0 + (if x = x0 then 1 else 0) by rw [take_cp hp, cnt_snoc])
        have BN := hid (BW.out.alloc BW.out.size (.cells #[.int .i64 x, .int .i64 y, .slice A' n' c', .bool s] 25))
        clear hp hf ht
        by_cases hm : x = x0
        · have HM := hid hm
          have hmb : (x == x0) = true := beq_iff_eq.2 hm
          clear hm
          go_wp2
          go_roundg (n - (kk + 1))
          case measure => omega
          case rel => exact ⟨kk + 1, q + 1, by omega, by omega, by go_num, by go_num, by omega, BN, hid (by rw [HS.out, HQ.out, if_pos HM.out])⟩
        · have HZ := hid (show cnt (l.take (kk + 1)) x0 = cnt (l.take kk) x0 by rw [HS.out, if_neg hm]; rfl)
          have hmb : (x == x0) = false := beq_eq_false_iff_ne.2 hm
          clear hm
          go_wp2
          go_roundg (n - (kk + 1))
          case measure => omega
          case rel => exact ⟨kk + 1, q, by omega, by omega, by go_num, rfl, by omega, BN, hid (by rw [HZ.out, HQ.out])⟩
      · have hltz : ¬ (kk : Int) < (n : Int) := by omega
        obtain rfl : kk = n := by omega
        go_wp2
        go_ret2
        refine ⟨?_, BW⟩
        rw [HQ.out, List.take_of_length_le (by rw [hl.out]; exact Nat.le_refl _)]
        rfl
  · rw [show mnA l x0 = 0 from if_neg h0]
    generalize echk l = q at h0 CK ⊢
    go_enter Try.func12, Try.ntmps12
    go_wp2_with fail
    refine CK.out.mono ?_
    rintro e w1 ⟨rfl, hb⟩
    go_wp2
    go_ret2
    exact ⟨rfl, hb⟩
end Go.Proofs.Ytbpijlghdpflgaa.Eth
