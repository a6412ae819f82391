/- The law's own count: how often a descriptor is in a list. -/
import Derived.Test.YtelalanhalbicaaKali
import Derived.Test.YtelalanhalbicaaKmor
namespace Go.Proofs.Ytelalanhalbicaa
open Go.RowKit Go.Shelf Go.Lib

set_option maxHeartbeats 3200000 in
set_option maxRecDepth 100000 in
theorem count_any {w : World} {B n c : Nat} {A : Option Addr} {l : List De} (d : De) (h : Ds w B A n c l) (hB : B ≤ w.heap.size) :
    Calls Try.prog 19 #[.slice A n c, dv d] w fun e w' => e = .returned (.int .i64 (cnt d l : Nat)) ∧ Hid (Below w.heap.size w w') := by
  have H0 := hid (h.mono hB)
  have hm := h.max
  have hcap := h.cap
  have HL := hid h.len
  clear h
  obtain ⟨d1, d2⟩ := d
  obtain ⟨W, hW⟩ : ∃ W, W = w.alloc (.cells #[.int .i64 d1, .int .i64 d2] 26) := ⟨_, rfl⟩
  have B0 := hid (show Below w.heap.size w W from hW ▸ (Below.refl _ w).alloc (Nat.le_refl _) _)
  have h0 : W.heap[w.heap.size]? = some (.cells #[.int .i64 d1, .int .i64 d2] 26 (0, 0)) := hW ▸ heap_alloc_new w _
  have hgw : w.heap.size < W.heap.size := lt_of_heap h0
  have HX : Hid (∀ X, Below W.heap.size W X → X.cell? ⟨w.heap.size, 0, none⟩ = some (.int .i64 d1) ∧ X.cell? ⟨w.heap.size, 1, none⟩ = some (.int .i64 d2)) := hid fun X hb =>
    ⟨(hb.cell (p := ⟨w.heap.size, 0, none⟩) hgw).trans ((cell_of_row W _ 0 _ _ (0, 0) h0).trans rfl), (hb.cell (p := ⟨w.heap.size, 1, none⟩) hgw).trans ((cell_of_row W _ 1 _ _ (0, 0) h0).trans rfl)⟩
  have H := hid ((H0.out.below B0.out).mono B0.out.size)
  have HW := hid hW
  have hws : w.heap.size ≤ W.heap.size := B0.out.size
  clear hW h0 hgw H0
  show Calls Try.prog 19 #[.slice A n c, .agg #[.int .i64 d1, .int .i64 d2]] w _
  go_enter Try.func19, Try.ntmps19
  go_upto_region 1 with fail
  rw [← HW.out]
  clear HW
  go_wp2
  go_loopg [5, 6] n (fun gg s5 s6 wr => ∃ kk q : Nat, kk ≤ n ∧ n - kk ≤ gg ∧ s6 = .int .i64 kk ∧ s5 = .int .i64 q ∧ q ≤ kk ∧ Hid (q = cnt (d1, d2) (l.take kk)) ∧ Hid (Below W.heap.size W wr))
  case atStart => exact ⟨0, 0, Nat.zero_le _, by omega, rfl, rfl, Nat.le_refl _, hid (by simp [cnt]), hid (Below.refl _ W)⟩
  case round =>
    obtain ⟨kk, q, hkk, hg, rfl, rfl, hqk, HQ, BW⟩ := hrel
    by_cases hlt : kk < n
    · have hltz : (kk : Int) < (n : Int) := by omega
      obtain ⟨x, hx⟩ := H.out.get hlt
      obtain ⟨b, off, rfl, _, hc⟩ := (H.out.below BW.out).at_ (by omega)
      obtain ⟨c1, c2⟩ := hc kk x hx
      obtain ⟨c3, c4⟩ := HX.out wr BW.out
      have Hx := hid hx
      clear hc hx
      obtain ⟨x1, x2⟩ := x
      change wr.cell? ⟨b, off + kk * 2, none⟩ = some (.int .i64 x1) at c1
      change wr.cell? ⟨b, off + kk * 2 + 1, none⟩ = some (.int .i64 x2) at c2
      have hgd := grdD
      have mixed : Try.prog.follows .mixedOrders = true := by kernel_rfl
      by_cases hxy : (x1, x2) = (d1, d2)
      · have hq : ∀ W, Sem.run Try.prog (binOp .eql 26 (.agg #[.int .i64 x1, .int .i64 x2]) (.agg #[.int .i64 d1, .int .i64 d2])) W = .ok (.bool true) W := fun W => by rw [eqlD, decide_eq_true hxy]
        have HXY := hid hxy
        clear hxy
        go_wp2_with fail
        go_quiet_o (fail)
        go_wp2
        go_roundg (n - (kk + 1))
        case measure => omega
        case rel => exact ⟨kk + 1, q + 1, by omega, by omega, by go_num, by go_num, by omega, hid (by rw [cnt_hit Hx.out HXY.out, HQ.out]), hid (below_drewN BW.out _)⟩
      · have hq : ∀ W, Sem.run Try.prog (binOp .eql 26 (.agg #[.int .i64 x1, .int .i64 x2]) (.agg #[.int .i64 d1, .int .i64 d2])) W = .ok (.bool false) W := fun W => by rw [eqlD, decide_eq_false hxy]
        have HXY := hid hxy
        clear hxy
        go_wp2_with fail
        go_quiet_o (fail)
        go_wp2
        go_roundg (n - (kk + 1))
        case measure => omega
        case rel => exact ⟨kk + 1, q, by omega, by omega, by go_num, rfl, by omega, hid (by rw [cnt_miss Hx.out HXY.out, HQ.out]), hid (below_drewN BW.out _)⟩
    · have hltz : ¬ (kk : Int) < (n : Int) := by omega
      obtain rfl : kk = n := by omega
      go_wp2
      go_ret
      refine ⟨?_, hid (B0.out.trans (BW.out.mono hws))⟩
      rw [HQ.out, List.take_of_length_le (by rw [HL.out]; exact Nat.le_refl _)]
      rfl
end Go.Proofs.Ytelalanhalbicaa
