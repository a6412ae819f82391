/- Package dyad: Same, Of; the law's own helper part. -/
import Derived.Test.YtndehapggbmndaaDbox
namespace Go.Proofs.Ytndehapggbmndaa
open Go.RowKit

/-- A Boolean that tells whether P, in new memory. -/
def Says (w : World) (P : Prop) (e : Ending) (w' : World) : Prop := ∃ r, e = .returned (.bool r) ∧ Hid (r = true ↔ P) ∧ Hid (Below w.heap.size w w')
set_option maxHeartbeats 3200000 in
theorem dsame_raw {w : World} {A D : Option Addr} {n c k d : Nat} {f h : Nat → Nat} {s t : Bool} {x y : Int} {P : Prop} (ha : Rd w w.heap.size A n c f) (hb : Rd w w.heap.size D k d h) (HP : Hid (P ↔ (s = t ∧ x = y ∧ n = k ∧ ∀ j, f j = h j))) :
    Calls Try.prog 24 #[.agg #[.bool s, .slice A n c, .int .i64 x], .agg #[.bool t, .slice D k d, .int .i64 y]] w (Says w P) := by
  have B0 := hid (((Below.refl w.heap.size w).alloc (Nat.le_refl _) (.cells #[.bool s, .slice A n c, .int .i64 x] 30)).alloc (by simp) (.cells #[.bool t, .slice D k d, .int .i64 y] 30))
  have C1 := hid (same_any (ha.below B0.out) (hb.below B0.out))
  clear ha hb
  by_cases hst : s = t
  · subst hst
    by_cases hxy : x = y
    · subst hxy
      have HP2 : Hid (P ↔ (n = k ∧ ∀ j, f j = h j)) := ⟨fun p => (HP.out.1 p).2.2, fun q => HP.out.2 ⟨rfl, rfl, q⟩⟩
      clear HP
      go_enter Try.func24, Try.ntmps24
      go_wp2_with fail
      refine C1.out.mono ?_
      rintro e w1 ⟨r, rfl, hr, q, rfl⟩
      have Hr := hid hr
      clear hr
      go_wp2
      go_ret
      exact ⟨r, rfl, ⟨fun h => HP2.out.2 (Hr.out.1 h), fun h => Hr.out.2 (HP2.out.1 h)⟩, below_drewN B0.out q⟩
    · have hxy2 : (x == y) = false := by simp [hxy]
      have Hxy := hid hxy
      clear hxy C1
      go_enter Try.func24, Try.ntmps24
      go_wp2
      go_ret
      exact ⟨false, rfl, ⟨fun h => (by cases h), fun h => absurd (HP.out.1 h).2.1 Hxy.out⟩, B0.out⟩
  · have hst2 : (s == t) = false := by simp [hst]
    have Hst := hid hst
    clear hst C1
    go_enter Try.func24, Try.ntmps24
    go_wp2
    go_ret
    exact ⟨false, rfl, ⟨fun h => (by cases h), fun h => absurd (HP.out.1 h).1 Hst.out⟩, B0.out⟩

theorem dsame_any {w : World} {p q : Prop} {M N : Int} {v u : Value} (h1 : DArg w p M v) (h2 : DArg w q N u) (hp : p) (hq : q) :
    Calls Try.prog 24 #[v, u] w fun e w' => e = .returned (.bool (decide (M = N))) ∧ Hid (Below w.heap.size w w') := by
  obtain ⟨s, A, n, c, f, x, rfl, hr, hp1, hM⟩ := h1
  obtain ⟨t, D, k, d, h, y, rfl, hs, hp2, hN⟩ := h2
  obtain ⟨X, rfl, rfl⟩ := hM hp
  obtain ⟨Y, rfl, rfl⟩ := hN hq
  have m1 := hp1.1 hp
  have m2 := hp2.1 hq
  obtain ⟨X', e1, c1, l1⟩ := may_canon m1 hr.out
  obtain ⟨Y', e2, c2, l2⟩ := may_canon m2 hs.out
  obtain rfl : X = X' := by omega
  obtain rfl : Y = Y' := by omega
  refine (dsame_raw hr hs (hid Iff.rfl)).mono ?_
  rintro e w' ⟨r, rfl, Hr, Hb⟩
  refine ⟨?_, Hb⟩
  have hiff : r = true ↔ dv s (vl f n) X = dv t (vl h k) Y := by
    rw [Hr.out]
    constructor
    · rintro ⟨rfl, hx, rfl, hf⟩
      obtain rfl : X = Y := by omega
      rw [vl_congr (fun j _ => hf j)]
    · intro he
      obtain ⟨rfl, hV, rfl⟩ := canon_uniq c1 c2 (by omega) (by omega) he
      exact ⟨rfl, rfl, hr.same hs m1.1.2 m2.1.2 hV⟩
  cases r with
  | true => rw [bool_of_dec (hiff.1 rfl)]
  | false => rw [bool_of_not (fun he => by have := hiff.2 he; cases this)]

end Go.Proofs.Ytndehapggbmndaa
