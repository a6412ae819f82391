/- slices.Index, Contains, ContainsFunc over timers; what the program asks of one. -/
import Derived.Test.YtgcmljnjfghagaaTcd
import Derived.Deep.DeepBigQuietO
namespace Go.Proofs.Ytgcmljnjfghagaa.Tm
open Go.RowKit Go.Shelf Go.Lib
set_option maxRecDepth 100000

theorem order1_any (a : De) (w : World) : Calls Try.prog 38 #[dv a] w (Tel w (!may a)) := by
  obtain ⟨a1, a2⟩ := a
  have HB := hid (box1 w a1 a2)
  have HC := hid (fun w => mayBe_any (a1, a2) w)
  generalize may (a1, a2) = r at HC ⊢
  unfold Tel dv at HC
  show Calls Try.prog 38 #[.agg #[.int .i64 a1, .int .i64 a2]] w _
  go_enter Try.func38, Try.ntmps38
  go_wp2_with (first | (go_at_call 25; refine (HC.out _).mono ?_; rintro e w1 ⟨rfl, hb⟩) | fail)
  go_ret
  exact ⟨rfl, hid (HB.out.trans (hb.out.mono HB.out.size))⟩
theorem due1_any {now : Int} {g : Nat} {w : World} (a : De) (hc : w.cell? ⟨g, 0, none⟩ = some (.int .i64 now)) :
    Calls Try.prog 33 #[dv a, .pointer (some ⟨g, 0, none⟩)] w (Tel w (decide (a.1 > now))) := by
  obtain ⟨a1, a2⟩ := a
  have HB := hid (box1 w a1 a2)
  have hgl : g < w.heap.size := block_lt_of_cell hc
  have hg : g ≠ w.heap.size := Nat.ne_of_lt hgl
  have hc2 := (HB.out.cell (p := ⟨g, 0, none⟩) hgl).trans hc
  show Calls Try.prog 33 #[.agg #[.int .i64 a1, .int .i64 a2], .pointer (some ⟨g, 0, none⟩)] w _
  go_enter Try.func33, Try.ntmps33
  go_wp2
  go_ret
  exact ⟨rfl, HB⟩
theorem off1_any {n : Int} {g : Nat} {w : World} (a : De) (hc : w.cell? ⟨g, 0, none⟩ = some (.int .i64 n)) :
    Calls Try.prog 36 #[dv a, .pointer (some ⟨g, 0, none⟩)] w (Tel w (a.2 == n)) := by
  obtain ⟨a1, a2⟩ := a
  have HB := hid (box1 w a1 a2)
  have hgl : g < w.heap.size := block_lt_of_cell hc
  have hg : g ≠ w.heap.size := Nat.ne_of_lt hgl
  have hc2 := (HB.out.cell (p := ⟨g, 0, none⟩) hgl).trans hc
  show Calls Try.prog 36 #[.agg #[.int .i64 a1, .int .i64 a2], .pointer (some ⟨g, 0, none⟩)] w _
  go_enter Try.func36, Try.ntmps36
  go_wp2
  go_ret
  exact ⟨rfl, HB⟩

theorem containsFunc_any (p : De → Bool) (f : Nat) (lb : Array Value) (eg : ∀ args w, (callFunc f args).run Try.prog w = .ok (.enter f args) w) {w : World} {B n c : Nat} {A : Option Addr} {l : List De} (h : Ds w B A n c l) (hB : B ≤ w.heap.size)
    (hp : ∀ (W : World) (x : De), Below w.heap.size w W → Calls Try.prog f (#[dv x] ++ lb) W fun e w' => e = .returned (.bool (p x)) ∧ Hid (Below W.heap.size W w')) :
    Calls Try.prog 37 #[.slice A n c, .func (.func f) #[] lb] w (Tel w (l.any p)) := by
  have HC := hid (index_any p f lb eg h hB hp)
  have hi := idx_any p l
  generalize l.any p = r at hi ⊢
  clear h hp
  go_enter Try.func37, Try.ntmps37
  go_wp2_with (first
    | (go_at_call 32; refine HC.out.mono ?_; rintro e w' ⟨rfl, hb⟩)
    | go_in)
  go_ret
  exact ⟨by rw [← hi]; rfl, hb⟩

set_option maxHeartbeats 3200000 in
theorem at_any {w : World} {B n c : Nat} {A : Option Addr} {l : List De} (d : De) (h : Ds w B A n c l) (hB : B ≤ w.heap.size) :
    Calls Try.prog 46 #[.slice A n c, dv d] w fun e w' => e = .returned (.int .i64 (idx (fun x => decide (d = x)) l)) ∧ Hid (Below w.heap.size w w') := by
  have H := hid (h.mono hB)
  have hm := h.max
  have hcap := h.cap
  obtain ⟨d1, d2⟩ := d
  obtain ⟨W1, hW1⟩ : ∃ W1, W1 = w.alloc (.cells #[.int .i64 d1, .int .i64 d2] 23) := ⟨_, rfl⟩
  have B1 : Hid (Below w.heap.size w W1) := hid (hW1 ▸ box1 w d1 d2)
  have X1 : Hid (W1.heap[w.heap.size]? = some (.cells #[.int .i64 d1, .int .i64 d2] 23 (0, 0))) := hid (hW1 ▸ heap_alloc_new w _)
  have HW1 := hid hW1
  clear h hW1
  show Calls Try.prog 46 #[.slice A n c, .agg #[.int .i64 d1, .int .i64 d2]] w _
  go_enter Try.func46, Try.ntmps46
  go_upto_region 1 with fail
  rw [← HW1.out]
  clear HW1
  go_wp2
  go_loopg [5, 8] n (fun gg _ s8 wr => ∃ kk : Nat, kk ≤ n ∧ n - kk ≤ gg ∧ s8 = .int .i64 kk ∧ Hid (Below W1.heap.size W1 wr) ∧ Hid (∀ j e, j < kk → l[j]? = some e → decide ((d1, d2) = e) = false))
  case atStart => exact ⟨0, Nat.zero_le _, by omega, rfl, hid (Below.refl _ W1), hid (fun j _ hj => absurd hj (Nat.not_lt_zero _))⟩
  case round =>
    obtain ⟨kk, hkk, hg, rfl, BW, HA⟩ := hrel
    have BX := hid (B1.out.trans (BW.out.mono B1.out.size))
    by_cases hlt : kk < n
    · have hltz : (kk : Int) < (n : Int) := by omega
      obtain ⟨x, hx⟩ := H.out.get hlt
      obtain ⟨b, off, rfl, _, hc⟩ := (H.out.below BX.out).at_ (by omega)
      obtain ⟨c1, c2⟩ := hc kk x hx
      have Hx := hid hx
      have hxb := (BW.out.block _ (lt_of_heap X1.out)).trans X1.out
      have c3 : wr.cell? ⟨w.heap.size, 0, none⟩ = some (.int .i64 d1) := (cell_of_row wr _ 0 _ _ (0, 0) hxb).trans rfl
      have c4 : wr.cell? ⟨w.heap.size, 1, none⟩ = some (.int .i64 d2) := (cell_of_row wr _ 1 _ _ (0, 0) hxb).trans rfl
      clear hc hx hxb
      obtain ⟨x1, x2⟩ := x
      change wr.cell? ⟨b, off + kk * 2, none⟩ = some (.int .i64 x1) at c1
      change wr.cell? ⟨b, off + kk * 2 + 1, none⟩ = some (.int .i64 x2) at c2
      have hgd := grdD
      have mixed : Try.prog.follows .mixedOrders = true := by kernel_rfl
      by_cases hxy : (d1, d2) = (x1, x2)
      · have hq : ∀ W, Sem.run Try.prog (binOp .eql 23 (.agg #[.int .i64 d1, .int .i64 d2]) (.agg #[.int .i64 x1, .int .i64 x2])) W = .ok (.bool true) W := fun W => by rw [eqlD, decide_eq_true hxy]
        have HX := hid hxy
        clear hxy
        go_wp2_with fail
        go_quiet_o (fail)
        go_wp2
        go_ret
        refine ⟨?_, hid (below_drewN BX.out _)⟩
        rw [idx_hit Hx.out (decide_eq_true HX.out) HA.out]
        rfl
      · have hq : ∀ W, Sem.run Try.prog (binOp .eql 23 (.agg #[.int .i64 d1, .int .i64 d2]) (.agg #[.int .i64 x1, .int .i64 x2])) W = .ok (.bool false) W := fun W => by rw [eqlD, decide_eq_false hxy]
        have HX := hid hxy
        clear hxy
        go_wp2_with fail
        go_quiet_o (fail)
        go_wp2
        go_roundg (n - (kk + 1))
        case measure => omega
        case rel =>
          refine ⟨kk + 1, by omega, by omega, by go_num, hid (below_drewN BW.out _), hid (fun j e hj he => ?_)⟩
          by_cases hjk : j = kk
          · subst hjk
            rw [Hx.out] at he
            injection he with he
            rw [← he]
            exact decide_eq_false HX.out
          · exact HA.out j e (by omega) he
    · have hltz : ¬ (kk : Int) < (n : Int) := by omega
      obtain rfl : kk = n := by omega
      go_wp2
      go_ret
      refine ⟨?_, BX⟩
      rw [idx_miss (fun j e he => HA.out j e (by have := (List.getElem?_eq_some_iff.1 he).1; rw [H.out.len] at this; exact this) he)]
      rfl

theorem contains_any {w : World} {B n c : Nat} {A : Option Addr} {l : List De} (d : De) (h : Ds w B A n c l) (hB : B ≤ w.heap.size) :
    Calls Try.prog 26 #[.slice A n c, dv d] w (Tel w (decide (d ∈ l))) := by
  obtain ⟨d1, d2⟩ := d
  have b1 := box1 w d1 d2
  have HC := hid (at_any (d1, d2) (h.below (w' := w.alloc (.cells #[.int .i64 d1, .int .i64 d2] 23)) (b1.mono hB)) (Nat.le_trans hB b1.size))
  have HB := hid b1
  have hi := idx_any (fun x => decide ((d1, d2) = x)) l
  have hm : l.any (fun x => decide ((d1, d2) = x)) = decide ((d1, d2) ∈ l) := by
    rw [Bool.eq_iff_iff, List.any_eq_true, decide_eq_true_eq]
    constructor
    · rintro ⟨x, hx, he⟩
      rw [of_decide_eq_true he]
      exact hx
    · intro hx
      exact ⟨_, hx, decide_eq_true rfl⟩
  rw [hm] at hi
  generalize decide ((d1, d2) ∈ l) = r at hi ⊢
  generalize idx (fun x => decide ((d1, d2) = x)) l = q at HC hi
  unfold dv at HC
  clear h b1 hm
  show Calls Try.prog 26 #[.slice A n c, .agg #[.int .i64 d1, .int .i64 d2]] w _
  go_enter Try.func26, Try.ntmps26
  go_wp2_with (first
    | (go_at_call 46; refine HC.out.mono ?_; rintro e w' ⟨rfl, hb⟩)
    | fail)
  go_ret
  exact ⟨by rw [← hi]; rfl, hid (HB.out.trans (hb.out.mono HB.out.size))⟩
end Go.Proofs.Ytgcmljnjfghagaa.Tm
