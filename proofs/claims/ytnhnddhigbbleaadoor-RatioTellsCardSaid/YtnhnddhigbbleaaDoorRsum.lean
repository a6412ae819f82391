/- The reference's bit, Order, Plus, Minus, Of. -/
import Derived.Test.YtnhnddhigbbleaaDoorRlimbs
import Derived.Test.YtnhnddhigbbleaaDoorRa
namespace Go.Proofs.YtnhnddhigbbleaaDoor
open Go.RowKit

set_option maxHeartbeats 800000 in
theorem rbit_in (b off n c i x : Nat) (w : World) (hi : i < n) (_hc : n ≤ c) (_hm : n ≤ 140737488355328) (hx : w.cell? ⟨b, off + i, none⟩ = some (.int .u8 (x : Int))) :
    Calls Tryd.prog 37 #[.slice (some ⟨b, off, none⟩) n c, .int .i64 (i : Int)] w fun e w' => e = .returned (.int .u8 (x : Int)) ∧ w = w' := by
  go_enter Tryd.func37, Tryd.ntmps37
  go_wp2
  go_ret
  exact ⟨rfl, rfl⟩

set_option maxHeartbeats 800000 in
theorem rbit_out (A : Option Addr) (n c i : Nat) (w : World) (hi : n ≤ i) (_hm : n ≤ 140737488355328) :
    Calls Tryd.prog 37 #[.slice A n c, .int .i64 (i : Int)] w fun e w' => e = .returned (.int .u8 0) ∧ w = w' := by
  go_enter Tryd.func37, Tryd.ntmps37
  go_wp2
  go_ret
  exact ⟨rfl, rfl⟩

theorem rbit_any {w : World} {B n c V : Nat} {A : Option Addr} (h : Bits w B A n c V) (i : Nat) :
    Calls Tryd.prog 37 #[.slice A n c, .int .i64 (i : Int)] w fun e w' => e = .returned (.int .u8 (bt V i : Int)) ∧ w = w' := by
  rcases Nat.lt_or_ge i n with hlt | hge
  · obtain ⟨b, off, rfl, _, hc⟩ := h.at_ (by omega)
    exact rbit_in b off n c i _ w hlt h.cap h.max (hc i hlt)
  · rw [bt_out (Nat.lt_of_lt_of_le h.lt (tw_mono hge))]
    exact rbit_out A n c i w hge h.max

theorem up_bit (U s : Nat) : U / tw s = 2 * (U / tw (s + 1)) + bt U s := by
  rw [tw_half]
  unfold bt
  omega

set_option maxHeartbeats 1600000 in
theorem Order_any {w : World} {B C n c m d U V : Nat} {A D : Option Addr} (ha : Bits w B A n c U) (hb : Bits w C D m d V) :
    Calls Tryd.prog 35 #[.slice A n c, .slice D m d] w fun e w' => e = .returned (.int .i64 (cmpN U V)) ∧ w = w' := by
  have Ca := hid (rbit_any ha)
  have Cb := hid (rbit_any hb)
  have hnm := ha.max
  have hmm := hb.max
  have hcase : ∃ T : Nat, ((n < m ∧ T = m) ∨ (m ≤ n ∧ T = n)) ∧ U < tw T ∧ V < tw T := by
    rcases Nat.lt_or_ge n m with h | h
    · exact ⟨m, .inl ⟨h, rfl⟩, Nat.lt_of_lt_of_le ha.lt (tw_mono (by omega)), hb.lt⟩
    · exact ⟨n, .inr ⟨h, rfl⟩, ha.lt, Nat.lt_of_lt_of_le hb.lt (tw_mono h)⟩
  obtain ⟨T, hT, hU, hV⟩ := hcase
  have HU := hid hU
  have HV := hid hV
  have hT2 : T ≤ 140737488355328 := by omega
  clear ha hb hU hV
  rcases hT with ⟨hmin, HT⟩ | ⟨hmin, HT⟩
  all_goals
    subst HT
    go_enter Tryd.func35, Tryd.ntmps35
    go_wp2_with fail
    go_loopw [5] (fun i wr => ∃ t : Nat, t ≤ T ∧ i = .int .i64 ((t : Int) - 1) ∧ Hid (U / tw t = V / tw t) ∧ wr = w) (fun i _ => (intOf i + 1).toNat)
    case atStart => exact ⟨T, Nat.le_refl _, rfl, hid (by rw [Nat.div_eq_of_lt HU.out, Nat.div_eq_of_lt HV.out]), rfl⟩
    case round =>
      obtain ⟨t, ht, rfl, He, rfl⟩ := hrel
      cases t with
      | zero =>
        have HE : Hid (U = V) := by
          have := He.out
          rw [tw_zero, Nat.div_one, Nat.div_one] at this
          exact this
        go_wp2
        go_ret
        exact ⟨by rw [cmpN_eq HE.out]; rfl, by first | rfl | trivial⟩
      | succ s =>
        rw [show (((s + 1 : Nat) : Int) - 1) = (s : Int) by omega]
        have c1 := hid (Ca.out s)
        have c2 := hid (Cb.out s)
        have e1 := up_bit U s
        have e2 := up_bit V s
        have b1 := bt_le U s
        have b2 := bt_le V s
        rw [← He.out] at e2
        have hlt : bt U s < bt V s → U < V := fun h => by
          rcases Nat.lt_or_ge U V with h2 | h2
          · exact h2
          · have := Nat.div_le_div_right (c := tw s) h2
            omega
        have hgt : bt V s < bt U s → V < U := fun h => by
          rcases Nat.lt_or_ge V U with h2 | h2
          · exact h2
          · have := Nat.div_le_div_right (c := tw s) h2
            omega
        have hEq : bt U s = bt V s → U / tw s = V / tw s := fun h => by rw [e1, e2, h]
        have Hlt := hid hlt
        have Hgt := hid hgt
        have HEq := hid hEq
        clear hlt hgt hEq e1 e2
        generalize bt U s = x at *
        generalize bt V s = y at *
        rcases Nat.lt_trichotomy x y with h | h | h
        · have hne : (((x : Nat) : Int) != ((y : Nat) : Int)) = true := by simp; omega
          have HL := hid (Hlt.out h)
          go_wp2_with fail
          refine c1.out.mono ?_
          rintro e w' ⟨rfl, rfl⟩
          go_wp2_with fail
          refine c2.out.mono ?_
          rintro e w' ⟨rfl, rfl⟩
          go_wp2_with fail
          refine c1.out.mono ?_
          rintro e w' ⟨rfl, rfl⟩
          go_wp2_with fail
          refine c2.out.mono ?_
          rintro e w' ⟨rfl, rfl⟩
          go_wp2
          go_ret
          exact ⟨by rw [cmpN_lt HL.out]; rfl, by first | rfl | trivial⟩
        · subst h
          go_wp2_with fail
          refine c1.out.mono ?_
          rintro e w' ⟨rfl, rfl⟩
          go_wp2_with fail
          refine c2.out.mono ?_
          rintro e w' ⟨rfl, rfl⟩
          go_wp2
          go_roundw
          case rel => exact ⟨s, by omega, by first | rfl | go_num, hid (HEq.out (by first | rfl | trivial)), by first | rfl | trivial⟩
          case measure => simp [intOf]
        · have hne : (((x : Nat) : Int) != ((y : Nat) : Int)) = true := by simp; omega
          have HL := hid (Hgt.out h)
          go_wp2_with fail
          refine c1.out.mono ?_
          rintro e w' ⟨rfl, rfl⟩
          go_wp2_with fail
          refine c2.out.mono ?_
          rintro e w' ⟨rfl, rfl⟩
          go_wp2_with fail
          refine c1.out.mono ?_
          rintro e w' ⟨rfl, rfl⟩
          go_wp2_with fail
          refine c2.out.mono ?_
          rintro e w' ⟨rfl, rfl⟩
          go_wp2
          go_ret
          exact ⟨by rw [cmpN_gt HL.out]; rfl, by first | rfl | trivial⟩

end Go.Proofs.YtnhnddhigbbleaaDoor
