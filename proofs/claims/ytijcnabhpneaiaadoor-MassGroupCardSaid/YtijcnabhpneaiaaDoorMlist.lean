/- Lists of masses: anyBad, by slices.ContainsFunc; Sum. -/
import Derived.Test.YtijcnabhpneaiaaDoorMalive
namespace Go.Proofs.YtijcnabhpneaiaaDoor
open Go.RowKit Go.Shelf

/-- n masses that lie in a row, from A on. -/
def Mlist (w : World) (A : Option Addr) (n : Nat) (D : Nat → Nat → Dy) : Prop :=
  0 < n → ∃ b off, A = some ⟨b, off, none⟩ ∧ b < w.heap.size ∧ ∀ i, i < n → w.rangeAt b (off + i * 12) (mcells (D i)).toList
theorem Mlist.below {w w' : World} {A : Option Addr} {n : Nat} {D : Nat → Nat → Dy} (h : Mlist w A n D) (hb : Below w.heap.size w w') : Mlist w' A n D := fun hn => by
  obtain ⟨b, off, hA, hlt, hc⟩ := h hn
  exact ⟨b, off, hA, Nat.lt_of_lt_of_le hlt hb.size, fun i hi j v hv => (hb.cell (p := ⟨b, off + i * 12 + j, none⟩) hlt).trans (hc i hi j v hv)⟩
/-- A mass is loaded out of a row. -/
theorem wp_mload_at {ops : Array Oper} {rest : List Oper} {o : Oper} {a : Act} {w : World} {Q : Exit → Act → World → Prop} (hgd : o.guard = none) (x : Operand) (ho : o.op = .load 37 x)
    (b off : Nat) (D : Nat → Dy) (hx : a.eval x = .pointer (some ⟨b, off, none⟩)) (hg : w.rangeAt b off (mcells D).toList) (h : wpList Tryd.prog ops Q rest (a.put o.dst (.agg (mcells D))) w) : wpList Tryd.prog ops Q (o :: rest) a w :=
  wpList_load_mid hgd _ x ho b off hx (mcells D).toList _ hg Tryd.underlying37 rfl mass_size h

/-- What IndexFunc tells. -/
def IdxR (w : World) (n : Nat) (bd : Nat → Bool) (e : Ending) (w' : World) : Prop := ∃ r : Int, e = .returned (.int .i64 r) ∧ Hid ((r = -1 ∧ ∀ i, i < n → bd i = false) ∨ (0 ≤ r ∧ ∃ i, i < n ∧ bd i = true)) ∧ Hid (Below w.heap.size w w')

set_option maxRecDepth 100000 in
set_option maxHeartbeats 1600000 in
theorem mindex_list {w : World} {A : Option Addr} {n c : Nat} {D : Nat → Nat → Dy} {bd : Nat → Bool} (h : Mlist w A n D) (hn : n ≤ 140737488355328) (hm : ∀ i, i < n → MAsks w (.agg (mcells (D i))) (bd i)) :
    Calls Tryd.prog 104 #[.slice A n c, .func (.func 81) #[] #[]] w (IdxR w n bd) := by
  have HL := hid h
  have HM := hid hm
  clear h hm
  go_enter Tryd.func104, Tryd.ntmps104
  go_wp2
  go_loopw [8] (fun i wr => ∃ k : Nat, k ≤ n ∧ i = .int .i64 (k : Int) ∧ Hid (∀ j, j < k → bd j = false) ∧ Hid (Below w.heap.size w wr)) (fun i _ => n - (intOf i).toNat)
  case atStart => exact ⟨0, Nat.zero_le _, rfl, hid (fun j hj => absurd hj (Nat.not_lt_zero _)), hid (Below.refl _ _)⟩
  case round =>
    obtain ⟨k, hk, rfl, hpre, hbel⟩ := hrel
    by_cases hlt : k < n
    · obtain ⟨b, off, rfl, hbl, hcs⟩ := HL.out (by omega)
      have hr := hcs k hlt
      have HR := hid (show wr.rangeAt b (off + k * 12) (mcells (D k)).toList from fun j v hv => (hbel.out.cell (p := ⟨b, off + k * 12 + j, none⟩) hbl).trans (hr j v hv))
      have CA := hid (HM.out k hlt wr hbel.out)
      clear hr hcs hbl
      cases hbk : bd k with
      | true =>
        rw [hbk] at CA
        have Hbk := hid hbk
        clear hbk
        go_wp2_with (first
          | (with_reducible refine wp_mload_at rfl (.tmp 14) rfl b (off + k * 12) (D k) rfl HR.out ?_)
          | fail)
        refine CA.out.mono ?_
        rintro e w2 ⟨rfl, hb⟩
        have B2 := hid (hbel.out.trans (hb.mono hbel.out.size))
        clear hb
        go_wp2
        go_ret
        exact ⟨(k : Int), rfl, .inr ⟨by omega, k, hlt, Hbk.out⟩, B2.out⟩
      | false =>
        rw [hbk] at CA
        have Hbk := hid hbk
        clear hbk
        go_wp2_with (first
          | (with_reducible refine wp_mload_at rfl (.tmp 14) rfl b (off + k * 12) (D k) rfl HR.out ?_)
          | fail)
        refine CA.out.mono ?_
        rintro e w2 ⟨rfl, hb⟩
        have B2 := hid (hbel.out.trans (hb.mono hbel.out.size))
        clear hb
        go_wp2
        go_roundw
        case rel => exact ⟨k + 1, by omega, by go_num, hid (fun j hj => (Nat.lt_succ_iff_lt_or_eq.1 hj).elim (fun h => hpre.out j h) (fun e => e ▸ Hbk.out)), B2⟩
        case measure => simp [intOf]; omega
    · obtain rfl : k = n := by omega
      go_wp2
      go_ret
      exact ⟨-1, rfl, .inl ⟨rfl, hpre.out⟩, hbel.out⟩

set_option maxHeartbeats 1600000 in
theorem manybad_list {w : World} {A : Option Addr} {n c : Nat} {D : Nat → Nat → Dy} {bd : Nat → Bool} (h : Mlist w A n D) (hn : n ≤ 140737488355328) (hm : ∀ i, i < n → MAsks w (.agg (mcells (D i))) (bd i)) :
    Calls Tryd.prog 52 #[.slice A n c] w fun e w' => ∃ r : Bool, e = .returned (.bool r) ∧ Hid (r = true ↔ ∃ i, i < n ∧ bd i = true) ∧ Hid (Below w.heap.size w w') := by
  have C := hid (mindex_list (c := c) h hn hm)
  have C2 : Hid (Calls Tryd.prog 80 #[.slice A n c, .func (.func 81) #[] #[]] w fun e w' => ∃ r : Bool, e = .returned (.bool r) ∧ Hid (r = true ↔ ∃ i, i < n ∧ bd i = true) ∧ Hid (Below w.heap.size w w')) := by
    clear h hm hn
    go_enter Tryd.func80, Tryd.ntmps80
    go_wp2_with fail
    refine C.out.mono ?_
    rintro e w' ⟨r, rfl, HR, hb⟩
    rcases HR.out with ⟨rfl, hall⟩ | ⟨h0, i, hi, hbi⟩
    · have HA := hid hall
      clear hall HR C
      go_wp2
      go_ret
      exact ⟨false, rfl, ⟨(fun h => by cases h), fun ⟨i, hi, hbi⟩ => by rw [HA.out i hi] at hbi; cases hbi⟩, hb⟩
    · have HA := hid (And.intro hi hbi)
      clear hi hbi HR C
      go_wp2
      go_ret
      exact ⟨true, rfl, ⟨fun _ => ⟨i, HA.out.1, HA.out.2⟩, fun _ => rfl⟩, hb⟩
  clear C h hm hn
  go_enter Tryd.func52, Tryd.ntmps52
  go_wp2_with fail
  refine C2.out.mono ?_
  rintro e w' ⟨r, rfl, HR, hb⟩
  go_wp2
  go_ret
  exact ⟨r, rfl, HR, hb⟩

end Go.Proofs.YtijcnabhpneaiaaDoor
