/- Package dyad: Same, Of; the law's own helper part. -/
import Derived.Test.YtjppogmhibmebaaDoorDbox
namespace Go.Proofs.YtjppogmhibmebaaDoor
open Go.RowKit

set_option maxHeartbeats 3200000 in
theorem dof_any (n : Int) (hn : -9223372036854775808 ≤ n ∧ n ≤ 9223372036854775807) (w : World) :
    Calls Tryd.prog 13 #[.int .i64 n] w fun e w' => ∃ s v V, e = .returned (.agg #[.bool s, v, .int .i64 0]) ∧ Hid (Num 26 w.heap.size w' V v ∧ (n < 0 ↔ s = true) ∧ num s V = n) ∧ Hid (Below w.heap.size w w') := by
  have B0 := hid ((Below.refl w.heap.size w).alloc (Nat.le_refl _) (.cells #[.bool false, .slice none 0 0, .int .i64 0] 24))
  have D0 : Hid (Dbox _ w.heap.size false (.slice none 0 0) 0) := heap_alloc_new w (.cells #[.bool false, .slice none 0 0, .int .i64 0] 24)
  by_cases h0 : n < 0
  · obtain ⟨m, hm, hm2⟩ : ∃ m : Nat, n = -(m : Int) ∧ m ≤ 9223372036854775808 := ⟨(-n).toNat, by omega, by omega⟩
    have C1 := hid (of_val m (by omega) (w.alloc (.cells #[.bool false, .slice none 0 0, .int .i64 0] 24)))
    have hw : IntKind.u64.wrap (wrap64 (-n)) = (m : Int) := by
      rw [IntKind.wrap_u64]
      unfold wrap64
      omega
    have Hm := hid hm
    clear hm
    go_enter Tryd.func13, Tryd.ntmps13
    go_wp2_with fail
    refine C1.out.mono ?_
    rintro e w1 ⟨v, rfl, Hn, Hb⟩
    obtain ⟨A1, n1, d1, rfl⟩ := Hn.out.shape
    have P1 := hid (D0.out.below Hb.out D0.out.lt)
    have g0 := P1.out.frozen 0
    have g1 := P1.out.frozen 1
    have g2 := P1.out.frozen 2
    have b0 := P1.out.c0
    have b1 := P1.out.c1
    have b2 := P1.out.c2
    have B1 := hid (B0.out.trans (Hb.out.mono B0.out.size))
    clear C1 B0 D0 Hb
    go_wp2
    refine ret_one rfl rfl rfl (P1.out.store (t := true) (u := .slice A1 n1 d1) (y := 0)) ?_
    exact ⟨true, _, m, rfl, ⟨(Hn.out.put3 (by simp)).mono (by simp), ⟨fun _ => rfl, fun _ => h0⟩, Hm.out.symm⟩, below_put3 B1.out (Nat.le_refl _)⟩
  · obtain ⟨m, rfl⟩ := Int.eq_ofNat_of_zero_le (show 0 ≤ n by omega)
    have C1 := hid (of_val m (by omega) (w.alloc (.cells #[.bool false, .slice none 0 0, .int .i64 0] 24)))
    go_enter Tryd.func13, Tryd.ntmps13
    go_wp2_with fail
    refine C1.out.mono ?_
    rintro e w1 ⟨v, rfl, Hn, Hb⟩
    obtain ⟨A1, n1, d1, rfl⟩ := Hn.out.shape
    have P1 := hid (D0.out.below Hb.out D0.out.lt)
    have g0 := P1.out.frozen 0
    have g1 := P1.out.frozen 1
    have g2 := P1.out.frozen 2
    have b0 := P1.out.c0
    have b1 := P1.out.c1
    have b2 := P1.out.c2
    have B1 := hid (B0.out.trans (Hb.out.mono B0.out.size))
    clear C1 B0 D0 Hb
    go_wp2
    refine ret_one rfl rfl rfl (P1.out.store (t := false) (u := .slice A1 n1 d1) (y := 0)) ?_
    exact ⟨false, _, m, rfl, ⟨(Hn.out.put3 (by simp)).mono (by simp), ⟨fun h => by omega, fun h => by cases h⟩, rfl⟩, below_put3 B1.out (Nat.le_refl _)⟩

theorem dof_dn (n : Int) (hn : -9223372036854775808 ≤ n ∧ n ≤ 9223372036854775807) (w : World) :
    Calls Tryd.prog 13 #[.int .i64 n] w fun e w' => ∃ d, e = .returned d ∧ Hid (Dn w.heap.size w' (n * (tp 4000 : Int)) d) ∧ Hid (Below w.heap.size w w') := by
  refine (dof_any n hn w).mono ?_
  rintro e w' ⟨s, v, V, rfl, ⟨Hn, hs, hV⟩, Hb⟩
  refine ⟨_, rfl, ⟨s, v, 0, V, rfl, Hn, ⟨fun h0 => ⟨?_, rfl⟩, fun h => absurd h (by omega)⟩, by omega, ?_⟩, Hb⟩
  · subst h0
    rw [num_zero] at hV
    cases s with
    | false => rfl
    | true => have := hs.2 rfl; omega
  · unfold dv
    rw [num_mul, hV]

/-- A Boolean that tells whether P, in new memory. -/
def Says (w : World) (P : Prop) (e : Ending) (w' : World) : Prop := ∃ r, e = .returned (.bool r) ∧ Hid (r = true ↔ P) ∧ Hid (Below w.heap.size w w')
set_option maxHeartbeats 3200000 in
theorem dsame_raw {w : World} {A D : Option Addr} {n c k d : Nat} {f h : Nat → Nat} {s t : Bool} {x y : Int} {P : Prop} (ha : Rd w w.heap.size A n c f) (hb : Rd w w.heap.size D k d h) (HP : Hid (P ↔ (s = t ∧ x = y ∧ n = k ∧ ∀ j, f j = h j))) :
    Calls Tryd.prog 18 #[.agg #[.bool s, .slice A n c, .int .i64 x], .agg #[.bool t, .slice D k d, .int .i64 y]] w (Says w P) := by
  have B0 := hid (((Below.refl w.heap.size w).alloc (Nat.le_refl _) (.cells #[.bool s, .slice A n c, .int .i64 x] 24)).alloc (by simp) (.cells #[.bool t, .slice D k d, .int .i64 y] 24))
  have C1 := hid (same_any (ha.below B0.out) (hb.below B0.out))
  clear ha hb
  by_cases hst : s = t
  · subst hst
    by_cases hxy : x = y
    · subst hxy
      have HP2 : Hid (P ↔ (n = k ∧ ∀ j, f j = h j)) := ⟨fun p => (HP.out.1 p).2.2, fun q => HP.out.2 ⟨rfl, rfl, q⟩⟩
      clear HP
      go_enter Tryd.func18, Tryd.ntmps18
      go_wp2_with fail
      refine C1.out.mono ?_
      rintro e w1 ⟨r, rfl, hr, q, rfl⟩
      have Hr := hid hr
      clear hr
      go_wp2
      go_ret
      exact ⟨r, rfl, ⟨fun h => HP2.out.2 (Hr.out.1 h), fun h => Hr.out.2 (HP2.out.1 h)⟩, below_drewN B0.out q⟩
    · have hxy2 : (x == y) = false := by simp [hxy]
      have Hxy := hid hxy
      clear hxy C1
      go_enter Tryd.func18, Tryd.ntmps18
      go_wp2
      go_ret
      exact ⟨false, rfl, ⟨fun h => (by cases h), fun h => absurd (HP.out.1 h).2.1 Hxy.out⟩, B0.out⟩
  · have hst2 : (s == t) = false := by simp [hst]
    have Hst := hid hst
    clear hst C1
    go_enter Tryd.func18, Tryd.ntmps18
    go_wp2
    go_ret
    exact ⟨false, rfl, ⟨fun h => (by cases h), fun h => absurd (HP.out.1 h).1 Hst.out⟩, B0.out⟩

theorem dsame_any {w : World} {p q : Prop} {M N : Int} {v u : Value} (h1 : DArg w p M v) (h2 : DArg w q N u) (hp : p) (hq : q) :
    Calls Tryd.prog 18 #[v, u] w fun e w' => e = .returned (.bool (decide (M = N))) ∧ Hid (Below w.heap.size w w') := by
  obtain ⟨s, A, n, c, f, x, rfl, hr, hp1, hM⟩ := h1
  obtain ⟨t, D, k, d, h, y, rfl, hs, hp2, hN⟩ := h2
  obtain ⟨X, rfl, rfl⟩ := hM hp
  obtain ⟨Y, rfl, rfl⟩ := hN hq
  have m1 := hp1.1 hp
  have m2 := hp2.1 hq
  obtain ⟨X', e1, c1, l1⟩ := may_canon m1 hr.out
  obtain ⟨Y', e2, c2, l2⟩ := may_canon m2 hs.out
  obtain rfl : X = X' := by omega
  obtain rfl : Y = Y' := by omega
  refine (dsame_raw hr hs (hid Iff.rfl)).mono ?_
  rintro e w' ⟨r, rfl, Hr, Hb⟩
  refine ⟨?_, Hb⟩
  have hiff : r = true ↔ dv s (vl f n) X = dv t (vl h k) Y := by
    rw [Hr.out]
    constructor
    · rintro ⟨rfl, hx, rfl, hf⟩
      obtain rfl : X = Y := by omega
      rw [vl_congr (fun j _ => hf j)]
    · intro he
      obtain ⟨rfl, hV, rfl⟩ := canon_uniq c1 c2 (by omega) (by omega) he
      exact ⟨rfl, rfl, hr.same hs m1.1.2 m2.1.2 hV⟩
  cases r with
  | true => rw [bool_of_dec (hiff.1 rfl)]
  | false => rw [bool_of_not (fun he => by have := hiff.2 he; cases this)]

end Go.Proofs.YtjppogmhibmebaaDoor
