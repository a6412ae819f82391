/- The document's Of. -/
import Derived.Test.YtelalanhalbicaaDoorEplus
import Derived.Test.YtelalanhalbicaaDoorRof
import Derived.Test.YtelalanhalbicaaDoorRg
namespace Go.Proofs.YtelalanhalbicaaDoor
open Go.RowKit

set_option maxHeartbeats 3200000 in
theorem eof_any (n : Int) (hn : -9223372036854775808 ≤ n ∧ n ≤ 9223372036854775807) (w : World) :
    Calls Tryd.prog 53 #[.int .i64 n] w fun e w' => ∃ d, e = .returned d ∧ Hid (Dv w' (n * (tp 4000 : Int)) d) ∧ Hid (Below w.heap.size w w') := by
  have B0 := hid ((Below.refl w.heap.size w).alloc (Nat.le_refl _) (.cells #[.bool false, .slice none 0 0, .int .i64 0] 24))
  have D0 : Hid (Dbox _ w.heap.size false (.slice none 0 0) 0) := heap_alloc_new w (.cells #[.bool false, .slice none 0 0, .int .i64 0] 24)
  have key : ∀ (s : Bool) (m : Nat) (w1 : World) (A1 : Option Addr) (k1 c1 : Nat) (h1 : Nat → Nat), num s m = n → (m = 0 → s = false) → m ≤ 9223372036854775808 → Rd w1 w1.heap.size A1 k1 c1 h1 → (0 < k1 → h1 (k1 - 1) ≠ 0) → vl h1 k1 = m → Dv w1 (n * (tp 4000 : Int)) (.agg #[.bool s, .slice A1 k1 c1, .int .i64 0]) := by
    intro s m w1 A1 k1 c1 h1 hnm hs hm hr hl hv
    have hlt : m < pw 40 := by
      have a := pw_mono (j := 3) (k := 40) (by omega)
      have b : pw 3 = 79228162514264337593543950336 := by unfold pw; rfl
      omega
    refine ⟨s, _, 0, m, rfl, ⟨A1, k1, c1, h1, rfl, hr, ⟨(lm_40 hr.lt hl hv).2 hlt, hl⟩, hv⟩, ⟨fun h0 => ⟨hs h0, rfl⟩, fun h => absurd h (by omega)⟩, by omega, ?_⟩
    unfold dv
    rw [num_mul, hnm]
  have Key := hid key
  clear key
  by_cases h0 : n < 0
  · obtain ⟨m, hm, hm2, hm3⟩ : ∃ m : Nat, n = -(m : Int) ∧ m ≤ 9223372036854775808 ∧ 1 ≤ m := ⟨(-n).toNat, by omega, by omega, by omega⟩
    have C1 := hid (rOf_any m (by omega) (w.alloc (.cells #[.bool false, .slice none 0 0, .int .i64 0] 24)))
    have hw1 : IntKind.i64.wrap (n + 1) = n + 1 := IntWalk.i64_in _ (by omega)
    have hneg : wrap64 (-(n + 1)) = -(n + 1) := by unfold wrap64; omega
    have hw2 : IntKind.u64.wrap (-(n + 1)) = (m : Int) - 1 := by rw [IntKind.wrap_u64]; omega
    have hw3 : IntKind.u64.wrap ((m : Int) - 1 + 1) = (m : Int) := by rw [IntKind.wrap_u64]; omega
    have Hm := hid hm
    clear hm
    go_enter Tryd.func53, Tryd.ntmps53
    go_wp2_with fail
    refine C1.out.mono ?_
    rintro e w1 ⟨v, rfl, hb, A1, k1, c1, h1, rfl, hr, hl, hv⟩
    have Hb := hid hb
    have Hr := hid hr
    have Hl := hid hl
    have Hv := hid hv
    clear hb hr hl hv C1
    have P1 := hid (D0.out.below Hb.out D0.out.lt)
    have g0 := P1.out.frozen 0
    have g1 := P1.out.frozen 1
    have g2 := P1.out.frozen 2
    have b0 := P1.out.c0
    have b1 := P1.out.c1
    have b2 := P1.out.c2
    have B1 := hid (B0.out.trans (Hb.out.mono B0.out.size))
    go_wp2
    refine ret_one rfl rfl rfl (P1.out.store (t := true) (u := .slice A1 k1 c1) (y := 0)) ?_
    exact ⟨_, rfl, Key.out true m _ A1 k1 c1 h1 Hm.out.symm (fun h => by omega) hm2 (Hr.out.stay P1.out) Hl.out Hv.out, below_put3 B1.out (Nat.le_refl _)⟩
  · obtain ⟨m, rfl⟩ := Int.eq_ofNat_of_zero_le (show 0 ≤ n by omega)
    have C1 := hid (rOf_any m (by omega) (w.alloc (.cells #[.bool false, .slice none 0 0, .int .i64 0] 24)))
    have hw2 : IntKind.u64.wrap (m : Int) = (m : Int) := by rw [IntKind.wrap_u64]; omega
    go_enter Tryd.func53, Tryd.ntmps53
    go_wp2_with fail
    refine C1.out.mono ?_
    rintro e w1 ⟨v, rfl, hb, A1, k1, c1, h1, rfl, hr, hl, hv⟩
    have Hb := hid hb
    have Hr := hid hr
    have Hl := hid hl
    have Hv := hid hv
    clear hb hr hl hv C1
    have P1 := hid (D0.out.below Hb.out D0.out.lt)
    have g0 := P1.out.frozen 0
    have g1 := P1.out.frozen 1
    have g2 := P1.out.frozen 2
    have b0 := P1.out.c0
    have b1 := P1.out.c1
    have b2 := P1.out.c2
    have B1 := hid (B0.out.trans (Hb.out.mono B0.out.size))
    go_wp2
    refine ret_one rfl rfl rfl (P1.out.store (t := false) (u := .slice A1 k1 c1) (y := 0)) ?_
    exact ⟨_, rfl, Key.out false m _ A1 k1 c1 h1 rfl (fun _ => rfl) (by omega) (Hr.out.stay P1.out) Hl.out Hv.out, below_put3 B1.out (Nat.le_refl _)⟩

end Go.Proofs.YtelalanhalbicaaDoor
