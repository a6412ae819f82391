/- Same of both sides. -/
import Derived.Test.YtdemhghflanncaaKds
import Derived.Deep.DeepBigQuietO
namespace Go.Proofs.Ytdemhghflanncaa
open Go.RowKit Go.Shelf

theorem eqlD (d1 d2 e1 e2 : Int) (w : World) : Sem.run Try.prog (binOp .eql 23 (.agg #[.int .i64 d1, .int .i64 d2]) (.agg #[.int .i64 e1, .int .i64 e2])) w = .ok (.bool (decide ((d1, d2) = (e1, e2)))) w := by
  have u3 := Try.underlying3
  have a3 := Try.isAgg3
  have z3 := Try.sizeOf3
  have hS : Try.prog.underlying 23 = some (.struct (Try.prog.fieldsOf 23)) := by kernel_rfl
  have hp : Try.prog.stoodInHeld 23 = false := by kernel_rfl
  rw [run_eql_struct, show (10000 : Nat) = 9999 + 1 from rfl, run_equalIn_agg w 9999 23 _ _ hS hp]
  simp only [Program.fieldsOf, Try.underlying23]
  go_simp
  by_cases h1 : d1 = e1 <;> by_cases h2 : d2 = e2 <;> simp [h1, h2]
theorem neqD (d1 d2 e1 e2 : Int) (w : World) : Sem.run Try.prog (binOp .neq 23 (.agg #[.int .i64 d1, .int .i64 d2]) (.agg #[.int .i64 e1, .int .i64 e2])) w = .ok (.bool (!decide ((d1, d2) = (e1, e2)))) w := by
  have u3 := Try.underlying3
  have a3 := Try.isAgg3
  have z3 := Try.sizeOf3
  have hS : Try.prog.underlying 23 = some (.struct (Try.prog.fieldsOf 23)) := by kernel_rfl
  have hp : Try.prog.stoodInHeld 23 = false := by kernel_rfl
  rw [run_neq_struct, show (10000 : Nat) = 9999 + 1 from rfl, run_equalIn_agg w 9999 23 _ _ hS hp]
  simp only [Program.fieldsOf, Try.underlying23]
  go_simp
  by_cases h1 : d1 = e1 <;> by_cases h2 : d2 = e2 <;> simp [h1, h2]
theorem grdD (op : BinOp) (x y : Operand) (xs ys : Array Value) (w : World) : Sem.run Try.prog (eqGuard op 23 x y (.agg xs) (.agg ys)) w = .ok () w := run_eqGuard_agg w op 23 x y xs ys (by kernel_rfl)

theorem dec_ne {l m : List De} {k : Nat} {d e : De} (h1 : l[k]? = some d) (h2 : m[k]? = some e) (h : d ≠ e) : decide (l = m) = false := by
  rw [decide_eq_false_iff_not]
  intro hl
  rw [hl, h2] at h1
  injection h1 with h1
  exact h h1.symm

set_option maxHeartbeats 3200000 in
set_option maxRecDepth 100000 in
theorem rsame_any {w : World} {B C n c m d : Nat} {A D : Option Addr} {l r : List De} (h : Ds w B A n c l) (k : Ds w C D m d r) (hB : B ≤ w.heap.size) (hC : C ≤ w.heap.size) :
    Calls Try.prog 18 #[.slice A n c, .slice D m d] w fun e w' => e = .returned (.bool (decide (l = r))) ∧ Hid (Below w.heap.size w w') := by
  have H := hid (h.mono hB)
  have K := hid (k.mono hC)
  have hl := h.len
  have hr := k.len
  have hm := h.max
  have hm2 := k.max
  have hcap := h.cap
  have hcap2 := k.cap
  clear h k
  by_cases hnm : n = m
  case neg =>
    have hne : ¬ (n : Int) = (m : Int) := by omega
    have hd : decide (l = r) = false := by
      rw [decide_eq_false_iff_not]
      intro e
      rw [e] at hl
      omega
    rw [hd]
    go_enter Try.func18, Try.ntmps18
    go_wp2
    go_ret
    exact ⟨rfl, hid (Below.refl _ _)⟩
  subst hnm
  clear hm2
  have HL := hid hl
  have HR := hid hr
  clear hl hr
  go_enter Try.func18, Try.ntmps18
  go_wp2
  go_loopg [5] n (fun gg s5 wr => ∃ kk : Nat, kk ≤ n ∧ n - kk ≤ gg ∧ s5 = .int .i64 kk ∧ Hid (Below w.heap.size w wr) ∧ Hid (∀ j, j < kk → l[j]? = r[j]?))
  case atStart => exact ⟨0, Nat.zero_le _, by omega, rfl, hid (Below.refl _ w), hid (fun j hj => absurd hj (Nat.not_lt_zero _))⟩
  case round =>
    obtain ⟨kk, hkk, hg, rfl, BW, HA⟩ := hrel
    by_cases hlt : kk < n
    · have hltz : (kk : Int) < (n : Int) := by omega
      obtain ⟨x, hx⟩ := H.out.get hlt
      obtain ⟨y, hy⟩ := K.out.get hlt
      obtain ⟨b, off, rfl, _, hc⟩ := (H.out.below BW.out).at_ (by omega)
      obtain ⟨b', off', rfl, _, hc'⟩ := (K.out.below BW.out).at_ (by omega)
      obtain ⟨c1, c2⟩ := hc kk x hx
      obtain ⟨c3, c4⟩ := hc' kk y hy
      have Hx := hid hx
      have Hy := hid hy
      clear hc hc' hx hy
      obtain ⟨x1, x2⟩ := x
      obtain ⟨y1, y2⟩ := y
      change wr.cell? ⟨b, off + kk * 2, none⟩ = some (.int .i64 x1) at c1
      change wr.cell? ⟨b, off + kk * 2 + 1, none⟩ = some (.int .i64 x2) at c2
      change wr.cell? ⟨b', off' + kk * 2, none⟩ = some (.int .i64 y1) at c3
      change wr.cell? ⟨b', off' + kk * 2 + 1, none⟩ = some (.int .i64 y2) at c4
      have hgd := grdD
      have mixed : Try.prog.follows .mixedOrders = true := by kernel_rfl
      by_cases hxy : (x1, x2) = (y1, y2)
      · have hq : ∀ W, Sem.run Try.prog (binOp .neq 23 (.agg #[.int .i64 x1, .int .i64 x2]) (.agg #[.int .i64 y1, .int .i64 y2])) W = .ok (.bool false) W := fun W => by rw [neqD, decide_eq_true hxy]; rfl
        have HX := hid hxy
        clear hxy
        go_wp2_with fail
        go_quiet_o (fail)
        go_wp2
        go_roundg (n - (kk + 1))
        case measure => omega
        case rel =>
          refine ⟨kk + 1, by omega, by omega, by go_num, hid (below_drewN BW.out _), hid (fun j hj => ?_)⟩
          by_cases hjk : j = kk
          · subst hjk
            rw [Hx.out, Hy.out, HX.out]
          · exact HA.out j (by omega)
      · have hq : ∀ W, Sem.run Try.prog (binOp .neq 23 (.agg #[.int .i64 x1, .int .i64 x2]) (.agg #[.int .i64 y1, .int .i64 y2])) W = .ok (.bool true) W := fun W => by rw [neqD, decide_eq_false hxy]; rfl
        have HX := hid hxy
        clear hxy
        go_wp2_with fail
        go_quiet_o (fail)
        go_wp2
        go_ret
        refine ⟨?_, hid (below_drewN BW.out _)⟩
        rw [dec_ne Hx.out Hy.out HX.out]
        rfl
    · have hltz : ¬ (kk : Int) < (n : Int) := by omega
      obtain rfl : kk = n := by omega
      go_wp2
      go_ret
      refine ⟨?_, BW⟩
      rw [decide_eq_true (show l = r from List.ext_getElem? fun j => by
        rcases Nat.lt_or_ge j kk with h | h
        · exact HA.out j h
        · rw [List.getElem?_eq_none (by rw [HL.out]; exact h), List.getElem?_eq_none (by rw [HR.out]; exact h)])]
      rfl


set_option maxHeartbeats 3200000 in
set_option maxRecDepth 100000 in
theorem equal_any {w : World} {B C n c m d : Nat} {A D : Option Addr} {l r : List De} (h : Ds w B A n c l) (k : Ds w C D m d r) (hB : B ≤ w.heap.size) (hC : C ≤ w.heap.size) :
    Calls Try.prog 32 #[.slice A n c, .slice D m d] w fun e w' => e = .returned (.bool (decide (l = r))) ∧ Hid (Below w.heap.size w w') := by
  have H := hid (h.mono hB)
  have K := hid (k.mono hC)
  have hl := h.len
  have hr := k.len
  have hm := h.max
  have hm2 := k.max
  have hcap := h.cap
  have hcap2 := k.cap
  clear h k
  by_cases hnm : n = m
  case neg =>
    have hne : ¬ (n : Int) = (m : Int) := by omega
    have hd : decide (l = r) = false := by
      rw [decide_eq_false_iff_not]
      intro e
      rw [e] at hl
      omega
    rw [hd]
    go_enter Try.func32, Try.ntmps32
    go_wp2
    go_ret
    exact ⟨rfl, hid (Below.refl _ _)⟩
  subst hnm
  clear hm2
  have HL := hid hl
  have HR := hid hr
  clear hl hr
  go_enter Try.func32, Try.ntmps32
  go_wp2
  go_loopg [5, 13] n (fun gg _ s5 wr => ∃ kk : Nat, kk ≤ n ∧ n - kk ≤ gg ∧ s5 = .int .i64 kk ∧ Hid (Below w.heap.size w wr) ∧ Hid (∀ j, j < kk → l[j]? = r[j]?))
  case atStart => exact ⟨0, Nat.zero_le _, by omega, rfl, hid (Below.refl _ w), hid (fun j hj => absurd hj (Nat.not_lt_zero _))⟩
  case round =>
    obtain ⟨kk, hkk, hg, rfl, BW, HA⟩ := hrel
    by_cases hlt : kk < n
    · have hltz : (kk : Int) < (n : Int) := by omega
      obtain ⟨x, hx⟩ := H.out.get hlt
      obtain ⟨y, hy⟩ := K.out.get hlt
      obtain ⟨b, off, rfl, _, hc⟩ := (H.out.below BW.out).at_ (by omega)
      obtain ⟨b', off', rfl, _, hc'⟩ := (K.out.below BW.out).at_ (by omega)
      obtain ⟨c1, c2⟩ := hc kk x hx
      obtain ⟨c3, c4⟩ := hc' kk y hy
      have Hx := hid hx
      have Hy := hid hy
      clear hc hc' hx hy
      obtain ⟨x1, x2⟩ := x
      obtain ⟨y1, y2⟩ := y
      change wr.cell? ⟨b, off + kk * 2, none⟩ = some (.int .i64 x1) at c1
      change wr.cell? ⟨b, off + kk * 2 + 1, none⟩ = some (.int .i64 x2) at c2
      change wr.cell? ⟨b', off' + kk * 2, none⟩ = some (.int .i64 y1) at c3
      change wr.cell? ⟨b', off' + kk * 2 + 1, none⟩ = some (.int .i64 y2) at c4
      have hgd := grdD
      have mixed : Try.prog.follows .mixedOrders = true := by kernel_rfl
      by_cases hxy : (x1, x2) = (y1, y2)
      · have hq : ∀ W, Sem.run Try.prog (binOp .neq 23 (.agg #[.int .i64 x1, .int .i64 x2]) (.agg #[.int .i64 y1, .int .i64 y2])) W = .ok (.bool false) W := fun W => by rw [neqD, decide_eq_true hxy]; rfl
        have HX := hid hxy
        clear hxy
        go_wp2_with fail
        go_quiet_o (fail)
        go_wp2
        go_roundg (n - (kk + 1))
        case measure => omega
        case rel =>
          refine ⟨kk + 1, by omega, by omega, by go_num, hid (below_drewN BW.out _), hid (fun j hj => ?_)⟩
          by_cases hjk : j = kk
          · subst hjk
            rw [Hx.out, Hy.out, HX.out]
          · exact HA.out j (by omega)
      · have hq : ∀ W, Sem.run Try.prog (binOp .neq 23 (.agg #[.int .i64 x1, .int .i64 x2]) (.agg #[.int .i64 y1, .int .i64 y2])) W = .ok (.bool true) W := fun W => by rw [neqD, decide_eq_false hxy]; rfl
        have HX := hid hxy
        clear hxy
        go_wp2_with fail
        go_quiet_o (fail)
        go_wp2
        go_ret
        refine ⟨?_, hid (below_drewN BW.out _)⟩
        rw [dec_ne Hx.out Hy.out HX.out]
        rfl
    · have hltz : ¬ (kk : Int) < (n : Int) := by omega
      obtain rfl : kk = n := by omega
      go_wp2
      go_ret
      refine ⟨?_, BW⟩
      rw [decide_eq_true (show l = r from List.ext_getElem? fun j => by
        rcases Nat.lt_or_ge j kk with h | h
        · exact HA.out j h
        · rw [List.getElem?_eq_none (by rw [HL.out]; exact h), List.getElem?_eq_none (by rw [HR.out]; exact h)])]
      rfl


theorem dsame_any {w : World} {B C n c m d : Nat} {A D : Option Addr} {l r : List De} (h : Ds w B A n c l) (k : Ds w C D m d r) (hB : B ≤ w.heap.size) (hC : C ≤ w.heap.size) :
    Calls Try.prog 22 #[.slice A n c, .slice D m d] w fun e w' => e = .returned (.bool (decide (l = r))) ∧ Hid (Below w.heap.size w w') := by
  have HC := hid (equal_any h k hB hC)
  generalize decide (l = r) = q at HC ⊢
  clear h k
  go_enter Try.func22, Try.ntmps22
  go_wp2_with (go_at_call 32; refine HC.out.mono ?_; rintro e w' ⟨rfl, hb⟩)
  go_ret
  exact ⟨rfl, hb⟩

end Go.Proofs.Ytdemhghflanncaa
