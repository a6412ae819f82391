/- DyadHalves's walk. -/
import Derived.Test.YtflegkefgbifcaaDoorDalive
namespace Go.Proofs.YtflegkefgbifcaaDoor
open Go.RowKit

theorem DArg.okay {w : World} {p : Prop} {M : Int} {v : Value} (h : DArg w p M v) (hp : p) : Okay M := by
  obtain ⟨s, A, n, c, f, x, _, hr, hpd, hM⟩ := h
  obtain ⟨X, rfl, rfl⟩ := hM hp
  have m1 := hpd.1 hp
  obtain ⟨X', e1, c1, l1⟩ := may_canon m1 hr.out
  obtain rfl : X = X' := by omega
  exact ⟨s, vl f n, X, c1, vl_pw40 hr m1.1, l1, rfl⟩
theorem DArg.check {w : World} {p : Prop} {M : Int} {v : Value} (h : DArg w p M v) : Calls Tryd.prog 14 #[v] w fun e w' => ∃ er, e = .returned (.int .i64 er) ∧ Hid ((p → er = 0) ∧ (¬ p → er = 8)) ∧ Hid (Below w.heap.size w w') := by
  obtain ⟨s, A, n, c, f, x, rfl, hr, hpd, hM⟩ := h
  refine (dcheck_any hr s x).mono ?_
  rintro e w' ⟨rfl, hb⟩
  exact ⟨_, rfl, ⟨fun hp => if_pos (hpd.1 hp), fun hn => if_neg (fun hm => hn (hpd.2 hm))⟩, hb⟩
theorem half_okay {s : Bool} {V X : Nat} {H : Int} (hc : Canon s V X) (hV : V < pw 40) (hX : X < 1024) (hH : 2 * H = dv s V X) : Okay H := by
  have e := half_scaled (s := s) (V := V) (X := X) (by omega)
  obtain rfl : H = num s (V * tp (4000 - (X + 1))) := by omega
  rcases Nat.eq_zero_or_pos V with h0 | h0
  · subst h0
    rw [Nat.zero_mul, num_zero]
    exact okay_zero
  · by_cases hodd : V % 2 = 1
    · exact ⟨s, V, X + 1, ⟨fun h => by omega, fun _ => hodd⟩, hV, by omega, rfl⟩
    · have hX0 : X = 0 := by
        rcases Nat.eq_zero_or_pos X with h | h
        · exact h
        · exact absurd (hc.2 h) hodd
      subst hX0
      obtain ⟨m, rfl⟩ : ∃ m, V = m * 2 := ⟨V / 2, by omega⟩
      refine ⟨s, m, 0, ⟨fun h => by omega, fun h => absurd h (by omega)⟩, by omega, by omega, ?_⟩
      unfold dv
      rw [Nat.mul_assoc, Nat.mul_comm 2, ← tp_succ]

set_option maxHeartbeats 800000 in
theorem dgreat_any (s : Bool) (A : Option Addr) (n c : Nat) (x : Int) (w : World) (_hm : n ≤ 140737488355328) :
    Calls Tryd.prog 17 #[.agg #[.bool s, .slice A n c, .int .i64 x]] w fun e w' => e = .returned (.bool (decide (42 < n ∨ 1100 < x))) ∧ Hid (Below w.heap.size w w') := by
  have B0 := hid ((Below.refl w.heap.size w).alloc (Nat.le_refl _) (.cells #[.bool s, .slice A n c, .int .i64 x] 24))
  by_cases h1 : 42 < n
  · rw [bool_of_dec (.inl h1)]
    go_enter Tryd.func17, Tryd.ntmps17
    go_wp2
    go_ret
    exact ⟨rfl, B0.out⟩
  · by_cases h2 : 1100 < x
    · rw [bool_of_dec (.inr h2)]
      go_enter Tryd.func17, Tryd.ntmps17
      go_wp2
      go_ret
      exact ⟨rfl, B0.out⟩
    · rw [bool_of_not (fun h => h.elim h1 h2)]
      go_enter Tryd.func17, Tryd.ntmps17
      go_wp2
      go_ret
      exact ⟨by simp <;> omega, B0.out⟩

set_option maxHeartbeats 3200000 in
theorem halves_walk {w : World} {A : Option Addr} {n c : Nat} {f : Nat → Nat} {s : Bool} {x : Int} (hr : Rd w w.heap.size A n c f) (hT : Tab w) :
    Calls Tryd.prog 6 #[.agg #[.bool s, .slice A n c, .int .i64 x]] w fun e w' => e = .returned (.bool true) ∧ Below w.heap.size w w' := by
  have DA : Hid (∃ (p : Prop) (M : Int), DArg w p M (.agg #[.bool s, .slice A n c, .int .i64 x]) ∧ (p → ∃ V X, Canon s V X ∧ V < pw 40 ∧ M = dv s V X ∧ x = ((X : Nat) : Int))) := by
    by_cases hm : DMay s n f x
    · obtain ⟨X, rfl, c1, l1⟩ := may_canon hm hr.out
      exact ⟨True, dv s (vl f n) X, ⟨s, A, n, c, f, _, rfl, hr, ⟨fun _ => hm, fun _ => trivial⟩, fun _ => ⟨X, rfl, rfl⟩⟩, fun _ => ⟨_, X, c1, vl_pw40 hr hm.1, rfl, rfl⟩⟩
    · exact ⟨False, 0, ⟨s, A, n, c, f, _, rfl, hr, ⟨fun h => h.elim, fun h => hm h⟩, fun h => h.elim⟩, fun h => h.elim⟩
  obtain ⟨p, M, hDA, hpx⟩ := DA.out
  have HA := hid hDA
  have HX := hid hpx
  have HT := hid hT
  have hm := hr.max
  have B0 := hid ((Below.refl w.heap.size w).alloc (Nat.le_refl _) (.cells #[.bool s, .slice A n c, .int .i64 x] 24))
  have P0 : Hid (Dbox _ w.heap.size s (.slice A n c) x) := heap_alloc_new w (.cells #[.bool s, .slice A n c, .int .i64 x] 24)
  clear hDA hpx hT hr DA
  go_enter Tryd.func6, Tryd.ntmps6
  go_wp2_with fail
  refine (dalive_any _ (HT.out.below B0.out HT.out.lt)).mono ?_
  rintro e w1 ⟨rfl, B1⟩
  have P1 := hid (P0.out.below B1.out P0.out.lt)
  have K1 := hid (B0.out.trans (B1.out.mono B0.out.size))
  have a0 := P1.out.c0
  have a1 := P1.out.c1
  have a2 := P1.out.c2
  clear B0 P0 B1
  go_wp2_with fail
  refine (dgreat_any s A n c x _ hm).mono ?_
  rintro e w2 ⟨rfl, B2⟩
  have P2 := hid (P1.out.below B2.out P1.out.lt)
  have K2 := hid (K1.out.trans (B2.out.mono K1.out.size))
  clear a0 a1 a2 P1 K1 B2
  by_cases hg : 42 < n ∨ 1100 < x
  · rw [bool_of_dec hg]
    clear hg
    go_wp2
    go_ret
    exact ⟨rfl, K2.out⟩
  · rw [bool_of_not hg]
    clear hg
    have a0 := P2.out.c0
    have a1 := P2.out.c1
    have a2 := P2.out.c2
    go_wp2_with fail
    refine (dhalf_any (HA.out.below K2.out) (HT.out.below K2.out HT.out.lt)).mono ?_
    rintro e w3 ⟨H, hH, d, er, rfl, HE, HD, HB⟩
    have HH := hid hH
    obtain ⟨sh, Ah, nh, ch, xh, rfl⟩ := HD.out.parts
    have B3a := hid ((Below.refl w3.heap.size w3).alloc (Nat.le_refl _) (.cells #[.bool sh, .slice Ah nh ch, .int .i64 xh] 24))
    have B3 := hid (HB.out.trans (B3a.out.mono HB.out.size))
    have K3 := hid (K2.out.trans (B3.out.mono K2.out.size))
    have P3 := hid (P2.out.below B3.out P2.out.lt)
    have PH : Hid (Dbox (w3.alloc (.cells #[.bool sh, .slice Ah nh ch, .int .i64 xh] 24)) w3.heap.size sh (.slice Ah nh ch) xh) := heap_alloc_new _ _
    have DH := hid (HD.out.arg.below B3a.out)
    clear a0 a1 a2 P2 K2 hH HB HD B3 B3a
    have a0 := P3.out.c0
    have a1 := P3.out.c1
    have a2 := P3.out.c2
    have hcase : (er = 0 ∧ p ∧ Okay H) ∨ (er = 8 ∧ ¬ p) ∨ (er = 10 ∧ p ∧ x = 1024) := by
      by_cases hp : p
      · rcases HE.out.1 hp with ⟨ho, h⟩ | ⟨ho, h⟩
        · exact .inl ⟨h, hp, ho⟩
        · refine .inr (.inr ⟨h, hp, ?_⟩)
          obtain ⟨V, X, hc, hV, hM, rfl⟩ := HX.out hp
          have hle : X ≤ 1024 := by
            obtain ⟨s', A', n', c', f', x', hv, hr', hpd, _⟩ := HA.out
            injection hv with hv
            have e1 : x' = (X : Int) := by simp at hv; exact hv.2.2.symm
            have := (hpd.1 hp).2.2.1
            omega
          rcases Nat.lt_or_ge X 1024 with h2 | h2
          · exact absurd (half_okay hc hV h2 (hM ▸ HH.out hp)) ho
          · omega
      · exact .inr (.inl ⟨HE.out.2 hp, hp⟩)
    rcases hcase with ⟨rfl, hp, ho⟩ | ⟨rfl, hp⟩ | ⟨rfl, hp, rfl⟩
    · have HO := hid ho
      have Hp := hid hp
      have hMe := HH.out hp
      have HMe := hid hMe
      have h0 := PH.out.c0
      have h1 := PH.out.c1
      have h2 := PH.out.c2
      clear HE HX ho hp hMe HH
      rw [resD_ok rfl] at DH
      go_wp2_with fail
      refine (add_good (R := M) DH.out DH.out trivial trivial (HT.out.below K3.out HT.out.lt) (by have := HMe.out; omega) (HA.out.okay Hp.out)).mono ?_
      rintro e w4 ⟨ss, As, ns, cs, xs, rfl, DS, B4⟩
      have B4a := hid ((Below.refl w4.heap.size w4).alloc (Nat.le_refl _) (.cells #[.bool ss, .slice As ns cs, .int .i64 xs] 24))
      have J4 := hid (B4.out.trans (B4a.out.mono B4.out.size))
      have K4 := hid (K3.out.trans (J4.out.mono K3.out.size))
      have P4 := hid (P3.out.below J4.out P3.out.lt)
      have PH4 := hid (PH.out.below J4.out PH.out.lt)
      have PS : Hid (Dbox (w4.alloc (.cells #[.bool ss, .slice As ns cs, .int .i64 xs] 24)) w4.heap.size ss (.slice As ns cs) xs) := heap_alloc_new _ _
      have DH4 := hid (DH.out.below J4.out)
      have DS4 := hid (DS.out.below B4a.out)
      clear a0 a1 a2 h0 h1 h2 P3 PH K3 DH DS B4 B4a J4
      have a0 := P4.out.c0
      have a1 := P4.out.c1
      have a2 := P4.out.c2
      have h0 := PH4.out.c0
      have h1 := PH4.out.c1
      have h2 := PH4.out.c2
      go_wp2_with fail
      refine (sub_good (R := H) (HA.out.below K4.out) DH4.out Hp.out trivial (HT.out.below K4.out HT.out.lt) (by have := HMe.out; omega) HO.out).mono ?_
      rintro e w5 ⟨sd, Ad, nd, cd, xd, rfl, DD, B5⟩
      have B5a := hid ((Below.refl w5.heap.size w5).alloc (Nat.le_refl _) (.cells #[.bool sd, .slice Ad nd cd, .int .i64 xd] 24))
      have J5 := hid (B5.out.trans (B5a.out.mono B5.out.size))
      have K5 := hid (K4.out.trans (J5.out.mono K4.out.size))
      have P5 := hid (P4.out.below J5.out P4.out.lt)
      have PH5 := hid (PH4.out.below J5.out PH4.out.lt)
      have PS5 := hid (PS.out.below J5.out PS.out.lt)
      have PD : Hid (Dbox (w5.alloc (.cells #[.bool sd, .slice Ad nd cd, .int .i64 xd] 24)) w5.heap.size sd (.slice Ad nd cd) xd) := heap_alloc_new _ _
      have DH5 := hid (DH4.out.below J5.out)
      have DS5 := hid (DS4.out.below J5.out)
      have DD5 := hid (DD.out.below B5a.out)
      clear a0 a1 a2 h0 h1 h2 P4 PH4 K4 DH4 DS4 PS DD B5 B5a J5
      have a0 := P5.out.c0
      have a1 := P5.out.c1
      have a2 := P5.out.c2
      have s0 := PS5.out.c0
      have s1 := PS5.out.c1
      have s2 := PS5.out.c2
      go_wp2_with fail
      refine (same_true DS5.out (HA.out.below K5.out) trivial Hp.out rfl).mono ?_
      rintro e w6 ⟨rfl, B6⟩
      have K6 := hid (K5.out.trans (B6.out.mono K5.out.size))
      have PH6 := hid (PH5.out.below B6.out PH5.out.lt)
      have PD6 := hid (PD.out.below B6.out PD.out.lt)
      have DH6 := hid (DH5.out.below B6.out)
      have DD6 := hid (DD5.out.below B6.out)
      clear a0 a1 a2 s0 s1 s2 P5 PH5 PS5 PD DH5 DS5 DD5 K5 B6
      have h0 := PH6.out.c0
      have h1 := PH6.out.c1
      have h2 := PH6.out.c2
      have d0 := PD6.out.c0
      have d1 := PD6.out.c1
      have d2 := PD6.out.c2
      go_wp2_with fail
      refine (same_true DD6.out DH6.out trivial trivial rfl).mono ?_
      rintro e w7 ⟨rfl, B7⟩
      have K7 := hid (K6.out.trans (B7.out.mono K6.out.size))
      have PH7 := hid (PH6.out.below B7.out PH6.out.lt)
      have DH7 := hid (DH6.out.below B7.out)
      clear h0 h1 h2 d0 d1 d2 PH6 PD6 DH6 DD6 K6 B7
      have h0 := PH7.out.c0
      have h1 := PH7.out.c1
      have h2 := PH7.out.c2
      go_wp2_with fail
      refine DH7.out.check.mono ?_
      rintro e w8 ⟨er, rfl, Her, B8⟩
      obtain rfl : er = 0 := Her.out.1 trivial
      have K8 := hid (K7.out.trans (B8.out.mono K7.out.size))
      clear h0 h1 h2 Her B8 K7
      go_wp2
      go_ret
      exact ⟨rfl, K8.out⟩
    · have Hp := hid hp
      clear HE HX hp HH
      go_wp2_with fail
      refine (HA.out.below K3.out).check.mono ?_
      rintro e w8 ⟨er, rfl, Her, B8⟩
      obtain rfl : er = 8 := Her.out.2 Hp.out
      have K8 := hid (K3.out.trans (B8.out.mono K3.out.size))
      clear Her B8
      go_wp2
      go_ret
      exact ⟨rfl, K8.out⟩
    · have Hp := hid hp
      clear HE HX hp HH
      go_wp2_with fail
      refine (HA.out.below K3.out).check.mono ?_
      rintro e w8 ⟨er, rfl, Her, B8⟩
      obtain rfl : er = 0 := Her.out.1 Hp.out
      have K8 := hid (K3.out.trans (B8.out.mono K3.out.size))
      have z2 := (P3.out.below B8.out P3.out.lt).c2
      clear Her B8
      go_wp2
      go_ret
      exact ⟨rfl, K8.out⟩

end Go.Proofs.YtflegkefgbifcaaDoor
