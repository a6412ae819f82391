/- Package dyad: Same, Of; the law's own helper part. -/
/- The law's own helpers of package dyad: part, alive. -/
/- Package dyad: side, compareSizes, Cmp. -/
/- Package dyad: Cmp. -/
/- Laws' walks: what is too great to be gone through; a dyad that came in. -/
/- Dyads: what the laws' walks have in common. -/
import Derived.Test.YtmaggpigodkhhaaDoorRd
import Derived.Test.YtmaggpigodkhhaaDoorRf
import Derived.Test.YtmaggpigodkhhaaDoorRc
import Derived.Deep.RegionHeld3

namespace Go.Proofs.YtmaggpigodkhhaaDoor
open Go.RowKit

set_option maxHeartbeats 3200000 in
theorem dof_any (n : Int) (hn : -9223372036854775808 ≤ n ∧ n ≤ 9223372036854775807) (w : World) :
    Calls Tryd.prog 20 #[.int .i64 n] w fun e w' => ∃ s v V, e = .returned (.agg #[.bool s, v, .int .i64 0]) ∧ Hid (Num 45 w.heap.size w' V v ∧ (n < 0 ↔ s = true) ∧ num s V = n) ∧ Hid (Below w.heap.size w w') := by
  have B0 := hid ((Below.refl w.heap.size w).alloc (Nat.le_refl _) (.cells #[.bool false, .slice none 0 0, .int .i64 0] 24))
  have D0 : Hid (Dbox _ w.heap.size false (.slice none 0 0) 0) := heap_alloc_new w (.cells #[.bool false, .slice none 0 0, .int .i64 0] 24)
  by_cases h0 : n < 0
  · obtain ⟨m, hm, hm2⟩ : ∃ m : Nat, n = -(m : Int) ∧ m ≤ 9223372036854775808 := ⟨(-n).toNat, by omega, by omega⟩
    have C1 := hid (of_val m (by omega) (w.alloc (.cells #[.bool false, .slice none 0 0, .int .i64 0] 24)))
    have hw : IntKind.u64.wrap (wrap64 (-n)) = (m : Int) := by
      rw [IntKind.wrap_u64]
      unfold wrap64
      omega
    have Hm := hid hm
    clear hm
    go_enter Tryd.func20, Tryd.ntmps20
    go_wp2_with fail
    refine C1.out.mono ?_
    rintro e w1 ⟨v, rfl, Hn, Hb⟩
    obtain ⟨A1, n1, d1, rfl⟩ := Hn.out.shape
    have P1 := hid (D0.out.below Hb.out D0.out.lt)
    have g0 := P1.out.frozen 0
    have g1 := P1.out.frozen 1
    have g2 := P1.out.frozen 2
    have b0 := P1.out.c0
    have b1 := P1.out.c1
    have b2 := P1.out.c2
    have B1 := hid (B0.out.trans (Hb.out.mono B0.out.size))
    clear C1 B0 D0 Hb
    go_wp2
    refine ret_one rfl rfl rfl (P1.out.store (t := true) (u := .slice A1 n1 d1) (y := 0)) ?_
    exact ⟨true, _, m, rfl, ⟨(Hn.out.put3 (by simp)).mono (by simp), ⟨fun _ => rfl, fun _ => h0⟩, Hm.out.symm⟩, below_put3 B1.out (Nat.le_refl _)⟩
  · obtain ⟨m, rfl⟩ := Int.eq_ofNat_of_zero_le (show 0 ≤ n by omega)
    have C1 := hid (of_val m (by omega) (w.alloc (.cells #[.bool false, .slice none 0 0, .int .i64 0] 24)))
    go_enter Tryd.func20, Tryd.ntmps20
    go_wp2_with fail
    refine C1.out.mono ?_
    rintro e w1 ⟨v, rfl, Hn, Hb⟩
    obtain ⟨A1, n1, d1, rfl⟩ := Hn.out.shape
    have P1 := hid (D0.out.below Hb.out D0.out.lt)
    have g0 := P1.out.frozen 0
    have g1 := P1.out.frozen 1
    have g2 := P1.out.frozen 2
    have b0 := P1.out.c0
    have b1 := P1.out.c1
    have b2 := P1.out.c2
    have B1 := hid (B0.out.trans (Hb.out.mono B0.out.size))
    clear C1 B0 D0 Hb
    go_wp2
    refine ret_one rfl rfl rfl (P1.out.store (t := false) (u := .slice A1 n1 d1) (y := 0)) ?_
    exact ⟨false, _, m, rfl, ⟨(Hn.out.put3 (by simp)).mono (by simp), ⟨fun h => by omega, fun h => by cases h⟩, rfl⟩, below_put3 B1.out (Nat.le_refl _)⟩

theorem dof_dn (n : Int) (hn : -9223372036854775808 ≤ n ∧ n ≤ 9223372036854775807) (w : World) :
    Calls Tryd.prog 20 #[.int .i64 n] w fun e w' => ∃ d, e = .returned d ∧ Hid (Dn w.heap.size w' (n * (tp 4000 : Int)) d) ∧ Hid (Below w.heap.size w w') := by
  refine (dof_any n hn w).mono ?_
  rintro e w' ⟨s, v, V, rfl, ⟨Hn, hs, hV⟩, Hb⟩
  refine ⟨_, rfl, ⟨s, v, 0, V, rfl, Hn, ⟨fun h0 => ⟨?_, rfl⟩, fun h => absurd h (by omega)⟩, by omega, ?_⟩, Hb⟩
  · subst h0
    rw [num_zero] at hV
    cases s with
    | false => rfl
    | true => have := hs.2 rfl; omega
  · unfold dv
    rw [num_mul, hV]

/-- A Boolean that tells whether P, in new memory. -/
def Says (w : World) (P : Prop) (e : Ending) (w' : World) : Prop := ∃ r, e = .returned (.bool r) ∧ Hid (r = true ↔ P) ∧ Hid (Below w.heap.size w w')
set_option maxHeartbeats 3200000 in
theorem dsame_raw {w : World} {A D : Option Addr} {n c k d : Nat} {f h : Nat → Nat} {s t : Bool} {x y : Int} {P : Prop} (ha : Rd w w.heap.size A n c f) (hb : Rd w w.heap.size D k d h) (HP : Hid (P ↔ (s = t ∧ x = y ∧ n = k ∧ ∀ j, f j = h j))) :
    Calls Tryd.prog 23 #[.agg #[.bool s, .slice A n c, .int .i64 x], .agg #[.bool t, .slice D k d, .int .i64 y]] w (Says w P) := by
  have B0 := hid (((Below.refl w.heap.size w).alloc (Nat.le_refl _) (.cells #[.bool s, .slice A n c, .int .i64 x] 24)).alloc (by simp) (.cells #[.bool t, .slice D k d, .int .i64 y] 24))
  have C1 := hid (same_any (ha.below B0.out) (hb.below B0.out))
  clear ha hb
  by_cases hst : s = t
  · subst hst
    by_cases hxy : x = y
    · subst hxy
      have HP2 : Hid (P ↔ (n = k ∧ ∀ j, f j = h j)) := ⟨fun p => (HP.out.1 p).2.2, fun q => HP.out.2 ⟨rfl, rfl, q⟩⟩
      clear HP
      go_enter Tryd.func23, Tryd.ntmps23
      go_wp2_with fail
      refine C1.out.mono ?_
      rintro e w1 ⟨r, rfl, hr, q, rfl⟩
      have Hr := hid hr
      clear hr
      go_wp2
      go_ret
      exact ⟨r, rfl, ⟨fun h => HP2.out.2 (Hr.out.1 h), fun h => Hr.out.2 (HP2.out.1 h)⟩, below_drewN B0.out q⟩
    · have hxy2 : (x == y) = false := by simp [hxy]
      have Hxy := hid hxy
      clear hxy C1
      go_enter Tryd.func23, Tryd.ntmps23
      go_wp2
      go_ret
      exact ⟨false, rfl, ⟨fun h => (by cases h), fun h => absurd (HP.out.1 h).2.1 Hxy.out⟩, B0.out⟩
  · have hst2 : (s == t) = false := by simp [hst]
    have Hst := hid hst
    clear hst C1
    go_enter Tryd.func23, Tryd.ntmps23
    go_wp2
    go_ret
    exact ⟨false, rfl, ⟨fun h => (by cases h), fun h => absurd (HP.out.1 h).1 Hst.out⟩, B0.out⟩

theorem dsame_any {w : World} {p q : Prop} {M N : Int} {v u : Value} (h1 : DArg w p M v) (h2 : DArg w q N u) (hp : p) (hq : q) :
    Calls Tryd.prog 23 #[v, u] w fun e w' => e = .returned (.bool (decide (M = N))) ∧ Hid (Below w.heap.size w w') := by
  obtain ⟨s, A, n, c, f, x, rfl, hr, hp1, hM⟩ := h1
  obtain ⟨t, D, k, d, h, y, rfl, hs, hp2, hN⟩ := h2
  obtain ⟨X, rfl, rfl⟩ := hM hp
  obtain ⟨Y, rfl, rfl⟩ := hN hq
  have m1 := hp1.1 hp
  have m2 := hp2.1 hq
  obtain ⟨X', e1, c1, l1⟩ := may_canon m1 hr.out
  obtain ⟨Y', e2, c2, l2⟩ := may_canon m2 hs.out
  obtain rfl : X = X' := by omega
  obtain rfl : Y = Y' := by omega
  refine (dsame_raw hr hs (hid Iff.rfl)).mono ?_
  rintro e w' ⟨r, rfl, Hr, Hb⟩
  refine ⟨?_, Hb⟩
  have hiff : r = true ↔ dv s (vl f n) X = dv t (vl h k) Y := by
    rw [Hr.out]
    constructor
    · rintro ⟨rfl, hx, rfl, hf⟩
      obtain rfl : X = Y := by omega
      rw [vl_congr (fun j _ => hf j)]
    · intro he
      obtain ⟨rfl, hV, rfl⟩ := canon_uniq c1 c2 (by omega) (by omega) he
      exact ⟨rfl, rfl, hr.same hs m1.1.2 m2.1.2 hV⟩
  cases r with
  | true => rw [bool_of_dec (hiff.1 rfl)]
  | false => rw [bool_of_not (fun he => by have := hiff.2 he; cases this)]

end Go.Proofs.YtmaggpigodkhhaaDoor


namespace Go.Proofs.YtmaggpigodkhhaaDoor
open Go.RowKit

/-- A dyad that is handed back, and an error that is OK. -/
def Good (w : World) (N : Int) (e : Ending) (w' : World) : Prop := ∃ s A n c x, e = .returned (.tuple #[.agg #[.bool s, .slice A n c, .int .i64 x], .int .i64 0]) ∧ Hid (DArg w' True N (.agg #[.bool s, .slice A n c, .int .i64 x])) ∧ Hid (Below w.heap.size w w')
/-- A dyad that is handed back. -/
def One (w : World) (N : Int) (e : Ending) (w' : World) : Prop := ∃ s A n c x, e = .returned (.agg #[.bool s, .slice A n c, .int .i64 x]) ∧ Hid (DArg w' True N (.agg #[.bool s, .slice A n c, .int .i64 x])) ∧ Hid (Below w.heap.size w w')

theorem Dn.parts {B : Nat} {w : World} {M : Int} {d : Value} (h : Dn B w M d) : ∃ s A n c x, d = .agg #[.bool s, .slice A n c, .int .i64 x] := by
  obtain ⟨s, u, X, V, rfl, hn, _⟩ := h
  obtain ⟨A, n, c, rfl⟩ := hn.shape
  exact ⟨s, A, n, c, _, rfl⟩
theorem DRes.good {w w' : World} {p : Prop} {M : Int} {e : Ending} (h : DRes w (Derrs p M) M e w') (hp : p) (hM : Okay M) : Good w M e w' := by
  obtain ⟨d, er, rfl, HE, HD, HB⟩ := h
  obtain rfl : er = 0 := (HE.out.1 hp).uniq (.inl ⟨hM, rfl⟩)
  have hd := HD.out
  rw [resD_ok rfl] at hd
  obtain ⟨s, A, n, c, x, rfl⟩ := hd.parts
  exact ⟨s, A, n, c, x, rfl, hd.arg, HB⟩
theorem half_good {w : World} {p : Prop} {M N : Int} {v : Value} (h1 : DArg w p M v) (hp : p) (hT : Tab w) (hN : 2 * N = M) (ho : Okay N) : Calls Tryd.prog 21 #[v] w (Good w N) := by
  refine (dhalf_any h1 hT).mono ?_
  rintro e w' ⟨H, hH, hr⟩
  obtain rfl : H = N := by have := hH hp; omega
  exact hr.good hp ho
theorem add_good {w : World} {p q : Prop} {M N R : Int} {v u : Value} (h1 : DArg w p M v) (h2 : DArg w q N u) (hp : p) (hq : q) (hT : Tab w) (hR : M + N = R) (ho : Okay R) : Calls Tryd.prog 70 #[v, u] w (Good w R) := by
  subst hR
  exact (dadd_any h1 h2 hT).mono fun e w' h => h.good ⟨hp, hq⟩ ho
theorem sub_good {w : World} {p q : Prop} {M N R : Int} {v u : Value} (h1 : DArg w p M v) (h2 : DArg w q N u) (hp : p) (hq : q) (hT : Tab w) (hR : M - N = R) (ho : Okay R) : Calls Tryd.prog 22 #[v, u] w (Good w R) := by
  subst hR
  exact (dsub_any h1 h2 hT).mono fun e w' h => h.good ⟨hp, hq⟩ ho
theorem of_one (n : Nat) (hn : n ≤ 9223372036854775807) (w : World) : Calls Tryd.prog 20 #[.int .i64 (n : Int)] w (One w (dv false n 0)) := by
  refine (dof_dn (n : Int) (by omega) w).mono ?_
  rintro e w' ⟨d, rfl, HD, HB⟩
  obtain ⟨s, A, m, c, x, rfl⟩ := HD.out.parts
  refine ⟨s, A, m, c, x, rfl, ?_, HB⟩
  have h := HD.out.arg
  rwa [show (n : Int) * (tp 4000 : Int) = dv false n 0 by simp [dv, num]] at h
theorem same_true {w : World} {p q : Prop} {M N : Int} {v u : Value} (h1 : DArg w p M v) (h2 : DArg w q N u) (hp : p) (hq : q) (he : M = N) :
    Calls Tryd.prog 23 #[v, u] w fun e w' => e = .returned (.bool true) ∧ Hid (Below w.heap.size w w') := by
  have h := dsame_any h1 h2 hp hq
  rwa [bool_of_dec he] at h

theorem canon_small {s : Bool} {n x : Nat} (h0 : 0 < n) (hx : 0 < x → n % 2 = 1) : Canon s n x := ⟨fun h => by omega, hx⟩
theorem okay_small {s : Bool} {n x : Nat} (h0 : 0 < n) (hn : n < 4294967296) (hx : 0 < x → n % 2 = 1) (h1 : x ≤ 1024) : Okay (dv s n x) :=
  ⟨s, n, x, canon_small h0 hx, Nat.lt_of_lt_of_le hn (pw_mono (j := 1) (k := 40) (by omega)), h1, rfl⟩

theorem e0 : tp (4000 - 0) = tp 3998 * 4 := by
  show tp (3998 + 1 + 1) = _
  rw [tp_succ, tp_succ, Nat.mul_assoc]
theorem e1 : tp (4000 - 1) = tp 3998 * 2 := by
  show tp (3998 + 1) = _
  rw [tp_succ]
theorem e2 : tp (4000 - 2) = tp 3998 := rfl
theorem half3 : 2 * dv false 3 1 = dv false 3 0 := by
  unfold dv num
  rw [e0, e1]
  generalize tp 3998 = T
  simp <;> omega
theorem half2 : 2 * dv false 1 0 = dv false 2 0 := by
  unfold dv num
  rw [e0]
  generalize tp 3998 = T
  simp <;> omega
theorem add11 : dv false 1 1 + dv false 1 1 = dv false 1 0 := by
  unfold dv num
  rw [e0, e1]
  generalize tp 3998 = T
  simp <;> omega
theorem sub13 : dv false 1 1 - dv false 3 2 = dv true 1 2 := by
  unfold dv num
  rw [e1, e2]
  generalize tp 3998 = T
  simp <;> omega


end Go.Proofs.YtmaggpigodkhhaaDoor


namespace Go.Proofs.YtmaggpigodkhhaaDoor
open Go.RowKit

/-- How two numbers stand. -/
def cmpI (a b : Int) : Int := if a < b then -1 else if a = b then 0 else 1
theorem cmpI_lt {a b : Int} (h : a < b) : cmpI a b = -1 := if_pos h
theorem cmpI_eq {a b : Int} (h : a = b) : cmpI a b = 0 := by unfold cmpI; rw [if_neg (by omega), if_pos h]
theorem cmpI_gt {a b : Int} (h : b < a) : cmpI a b = 1 := by unfold cmpI; rw [if_neg (by omega), if_neg (by omega)]
theorem cmpI_nat (a b : Nat) : cmpI (a : Int) (b : Int) = cmpN a b := by
  unfold cmpI cmpN
  by_cases h : a < b
  · rw [if_pos h, if_pos (by omega)]
  · by_cases h2 : a = b
    · rw [if_neg h, if_pos h2, if_neg (by omega), if_pos (by omega)]
    · rw [if_neg h, if_neg h2, if_neg (by omega), if_neg (by omega)]

set_option maxHeartbeats 800000 in
theorem nan_any (x : Int) (w : World) : Calls Tryd.prog 103 #[.int .i64 x] w fun e w' => e = .returned (.bool false) ∧ w = w' := by
  go_enter Tryd.func103, Tryd.ntmps103
  go_wp2
  go_ret
  exact ⟨by simp, rfl⟩
set_option maxHeartbeats 1600000 in
theorem compare_int (x y : Int) (w : World) : Calls Tryd.prog 65 #[.int .i64 x, .int .i64 y] w fun e w' => e = .returned (.int .i64 (cmpI x y)) ∧ Hid (Below w.heap.size w w') := by
  have C1 := hid (nan_any x w)
  have C2 := hid (nan_any y w)
  rcases Int.lt_trichotomy x y with h | h | h
  · rw [cmpI_lt h]
    go_enter Tryd.func65, Tryd.ntmps65
    go_wp2_with fail
    refine C1.out.mono ?_
    rintro e w' ⟨rfl, rfl⟩
    go_wp2_with fail
    refine C2.out.mono ?_
    rintro e w' ⟨rfl, rfl⟩
    go_wp2
    go_ret
    exact ⟨rfl, Below.refl _ _⟩
  · subst h
    rw [cmpI_eq rfl]
    go_enter Tryd.func65, Tryd.ntmps65
    go_wp2_with fail
    refine C1.out.mono ?_
    rintro e w' ⟨rfl, rfl⟩
    go_wp2_with fail
    refine C2.out.mono ?_
    rintro e w' ⟨rfl, rfl⟩
    go_wp2
    go_ret
    exact ⟨rfl, Below.refl _ _⟩
  · rw [cmpI_gt h]
    go_enter Tryd.func65, Tryd.ntmps65
    go_wp2_with fail
    refine C1.out.mono ?_
    rintro e w' ⟨rfl, rfl⟩
    go_wp2_with fail
    refine C2.out.mono ?_
    rintro e w' ⟨rfl, rfl⟩
    go_wp2
    go_ret
    exact ⟨rfl, Below.refl _ _⟩

/-- The side of 0 on which a number lies. -/
def sideI (s : Bool) (n : Nat) : Int := if s then -1 else if 0 < n then 1 else 0
set_option maxHeartbeats 800000 in
theorem side_any (s : Bool) (A : Option Addr) (n c : Nat) (x : Int) (w : World) (_hm : n ≤ 140737488355328) : Calls Tryd.prog 64 #[.agg #[.bool s, .slice A n c, .int .i64 x]] w fun e w' => e = .returned (.int .i64 (sideI s n)) ∧ Hid (Below w.heap.size w w') := by
  have B0 := hid ((Below.refl w.heap.size w).alloc (Nat.le_refl _) (.cells #[.bool s, .slice A n c, .int .i64 x] 24))
  cases s with
  | true =>
    go_enter Tryd.func64, Tryd.ntmps64
    go_wp2
    go_ret
    exact ⟨rfl, B0.out⟩
  | false =>
    rcases Nat.eq_zero_or_pos n with h0 | h0
    · subst h0
      go_enter Tryd.func64, Tryd.ntmps64
      go_wp2
      go_ret
      exact ⟨rfl, B0.out⟩
    · rw [show sideI false n = 1 by unfold sideI; simp [h0]]
      have hp : (0 : Int) < (n : Int) := by omega
      go_enter Tryd.func64, Tryd.ntmps64
      go_wp2
      go_ret
      exact ⟨rfl, B0.out⟩

theorem bits_val {V : Nat} {w : World} {v : Value} (h1 : Val w V v) : Calls Tryd.prog 104 #[v] w fun e w' => ∃ s : Nat, e = .returned (.tuple #[.int .i64 (s : Int), .int .i64 0]) ∧ Hid (Size V s) ∧ Hid (Below w.heap.size w w') := by
  obtain ⟨A, n, c, f, rfl, hr, hf, rfl⟩ := h1
  refine (Bits_any hr).mono ?_
  rintro e w' ⟨hb, k, rfl, hgood, _⟩
  rw [chk_fit hf]
  exact ⟨k, rfl, hgood hf, hb⟩

/-- Whose highest digit stands lower is less. -/
theorem size_less {V U x y X Y : Nat} (hx : Size V x) (hy : Size U y) (hX : X ≤ 4000) (hY : Y ≤ 4000) (hU : 0 < U) (h : (x : Int) - (X : Int) < (y : Int) - (Y : Int)) : V * tp (4000 - X) < U * tp (4000 - Y) := by
  have hy0 : 0 < y := by
    rcases Nat.eq_zero_or_pos y with h0 | h0
    · subst h0
      have := hy.1
      omega
    · exact h0
  have a : V * tp (4000 - X) < tp (x + (4000 - X)) := by
    rw [tp_add]
    exact Nat.mul_lt_mul_of_pos_right hx.1 (tp_pos _)
  have b : tp ((y - 1) + (4000 - Y)) ≤ U * tp (4000 - Y) := by
    rw [tp_add]
    exact Nat.mul_le_mul_right _ (hy.2 hy0)
  have c : tp (x + (4000 - X)) ≤ tp ((y - 1) + (4000 - Y)) := Nat.pow_le_pow_right (by omega) (by omega)
  omega
theorem scale_cmp {V U X Y E : Nat} (hX : X ≤ E) (hY : Y ≤ E) (hE : E ≤ 4000) : cmpN (V * tp (E - X)) (U * tp (E - Y)) = cmpN (V * tp (4000 - X)) (U * tp (4000 - Y)) := by
  rw [tp_split hX hE, tp_split hY hE, ← Nat.mul_assoc, ← Nat.mul_assoc]
  have hp := tp_pos (4000 - E)
  generalize V * tp (E - X) = a
  generalize U * tp (E - Y) = b
  rcases Nat.lt_trichotomy a b with h | h | h
  · rw [cmpN_lt h, cmpN_lt (Nat.mul_lt_mul_of_pos_right h hp)]
  · subst h
    rw [cmpN_eq rfl, cmpN_eq rfl]
  · rw [cmpN_gt h, cmpN_gt (Nat.mul_lt_mul_of_pos_right h hp)]
theorem fits_shift {V U x y X Y : Nat} (hx : Size V x) (hy : Size U y) (hU : U < pw 40) (hXY : X ≤ Y) (h : (x : Int) - (X : Int) = (y : Int) - (Y : Int)) : V * tp (Y - X) < pw 40 := by
  have a : V * tp (Y - X) < tp (x + (Y - X)) := by
    rw [tp_add]
    exact Nat.mul_lt_mul_of_pos_right hx.1 (tp_pos _)
  have hy2 : y ≤ 1280 := by
    rcases Nat.lt_or_ge 1280 y with h1 | h1
    · have b := hy.2 (by omega)
      have c := pw40_le (k := y - 1) (by omega)
      omega
    · exact h1
  have c : tp (x + (Y - X)) ≤ pw 40 := le_pw40 (by omega)
  omega

theorem size_le1280 {V x : Nat} (hx : Size V x) (hV : V < pw 40) : x ≤ 1280 := by
  rcases Nat.lt_or_ge 1280 x with h1 | h1
  · have b := hx.2 (by omega)
    have c := pw40_le (k := x - 1) (by omega)
    omega
  · exact h1
theorem size_zero {x : Nat} (hx : Size 0 x) : x = 0 := by
  rcases Nat.eq_zero_or_pos x with h | h
  · exact h
  · have a := hx.2 h
    have b : 0 < 2 ^ (x - 1) := Nat.pow_pos (by omega)
    omega

section
variable {w : World} {V U X Y : Nat} {s t : Bool} {v u : Value}
set_option maxHeartbeats 3200000 in
theorem sizes_any (hv : Val w V v) (hu : Val w U u) (hX : X ≤ 1024) (hY : Y ≤ 1024) (h0 : (V = 0 ∧ U = 0 ∧ X = 0 ∧ Y = 0) ∨ (0 < V ∧ 0 < U)) :
    Calls Tryd.prog 66 #[.agg #[.bool s, v, .int .i64 (X : Int)], .agg #[.bool t, u, .int .i64 (Y : Int)]] w fun e w' => e = .returned (.int .i64 (cmpN (V * tp (4000 - X)) (U * tp (4000 - Y)))) ∧ Hid (Below w.heap.size w w') := by
  obtain ⟨A, n, c, rfl⟩ := hv.shape
  obtain ⟨D, k, d, rfl⟩ := hu.shape
  have B0 := hid (((Below.refl w.heap.size w).alloc (Nat.le_refl _) (.cells #[.bool s, .slice A n c, .int .i64 (X : Int)] 24)).alloc (by simp) (.cells #[.bool t, .slice D k d, .int .i64 (Y : Int)] 24))
  have P1 : Hid (Dbox _ (w.heap.size + 1) t (.slice D k d) (Y : Int)) := heap_alloc2_new w (.cells #[.bool s, .slice A n c, .int .i64 (X : Int)] 24) (.cells #[.bool t, .slice D k d, .int .i64 (Y : Int)] 24)
  have P0 : Hid (Dbox _ w.heap.size s (.slice A n c) (X : Int)) := (Below.heap_alloc _ (.cells #[.bool t, .slice D k d, .int .i64 (Y : Int)] 24) _ (by simp)).trans (heap_alloc_new w (.cells #[.bool s, .slice A n c, .int .i64 (X : Int)] 24))
  have VA := hid hv
  have VB := hid hu
  have H0 := hid h0
  obtain ⟨r, hr⟩ : ∃ r, r = cmpN (V * tp (4000 - X)) (U * tp (4000 - Y)) := ⟨_, rfl⟩
  rw [← hr]
  have Hr := hid hr
  clear hv hu h0 hr
  go_enter Tryd.func66, Tryd.ntmps66
  go_wp2_with fail
  refine (bits_val (VA.out.below B0.out)).mono ?_
  rintro e w1 ⟨x, rfl, Sx, J⟩
  have P0 := hid (P0.out.below J.out P0.out.lt)
  have P1 := hid (P1.out.below J.out P1.out.lt)
  have K := hid (B0.out.trans (J.out.mono B0.out.size))
  clear J B0
  have b1 := P1.out.c1
  go_wp2_with fail
  refine (bits_val (VB.out.below K.out)).mono ?_
  rintro e w2 ⟨y, rfl, Sy, J⟩
  have P0 := hid (P0.out.below J.out P0.out.lt)
  have P1 := hid (P1.out.below J.out P1.out.lt)
  have K := hid (K.out.trans (J.out.mono K.out.size))
  clear J b1
  have hx := size_le1280 Sx.out VA.out.lt
  have hy := size_le1280 Sy.out VB.out.lt
  have a1 := P0.out.c1
  have a2 := P0.out.c2
  have b1 := P1.out.c1
  have b2 := P1.out.c2
  by_cases he : (x : Int) - (X : Int) = (y : Int) - (Y : Int)
  · obtain ⟨E, hE⟩ : ∃ E : Nat, E = max X Y := ⟨_, rfl⟩
    have hmax : max (X : Int) (Y : Int) = (E : Int) := by omega
    have hXE : X ≤ E := by omega
    have hYE : Y ≤ E := by omega
    have hE4 : E ≤ 1024 := by omega
    have hp : V * tp (E - X) < pw 40 ∧ U * tp (E - Y) < pw 40 := by
      rcases Nat.le_total X Y with h | h
      · obtain rfl : E = Y := by omega
        refine ⟨fits_shift Sx.out Sy.out VB.out.lt h he, ?_⟩
        rw [Nat.sub_self, tp_zero, Nat.mul_one]
        exact VB.out.lt
      · obtain rfl : E = X := by omega
        refine ⟨?_, fits_shift Sy.out Sx.out VA.out.lt h he.symm⟩
        rw [Nat.sub_self, tp_zero, Nat.mul_one]
        exact VA.out.lt
    have C1 := left_val (VA.out.below K.out) (E - X) (by omega)
    rw [over_ok hp.1, show ((E - X : Nat) : Int) = (E : Int) - (X : Int) by omega] at C1
    have C1 := hid C1
    have Hp := hid hp
    have Hsc := hid (scale_cmp (V := V) (U := U) hXE hYE (by omega : E ≤ 4000))
    clear hp hE
    go_wp2_with fail
    refine C1.out.mono ?_
    rintro e w3 ⟨v3, er, rfl, ⟨rfl⟩, Hn3, J⟩
    obtain ⟨A3, n3, d3, rfl⟩ := Hn3.out.shape
    have P1 := hid (P1.out.below J.out P1.out.lt)
    have K := hid (K.out.trans (J.out.mono K.out.size))
    have C2 := left_val (VB.out.below K.out) (E - Y) (by omega)
    rw [over_ok Hp.out.2, show ((E - Y : Nat) : Int) = (E : Int) - (Y : Int) by omega] at C2
    have C2 := hid C2
    clear J a1 a2 b1 b2 C1 P0
    have b1 := P1.out.c1
    have b2 := P1.out.c2
    go_wp2_with fail
    refine C2.out.mono ?_
    rintro e w4 ⟨v4, er, rfl, ⟨rfl⟩, Hn4, J⟩
    obtain ⟨A4, n4, d4, rfl⟩ := Hn4.out.shape
    have C3 := dcmp_val (Hn3.out.val.below J.out) Hn4.out.val
    rw [resV_ok rfl, resV_ok rfl, Hsc.out, ← Hr.out] at C3
    have C3 := hid C3
    have K := hid (K.out.trans (J.out.mono K.out.size))
    clear J C2 b1 b2 Hn3 Hn4 P1
    go_wp2_with fail
    refine C3.out.mono ?_
    rintro e w5 ⟨rfl, J⟩
    have K := hid (K.out.trans (J.mono K.out.size))
    clear J C3
    go_wp2
    go_ret
    exact ⟨rfl, K⟩
  · have he2 : (((x : Int) - (X : Int)) == ((y : Int) - (Y : Int))) = false := by simp [he]
    have hr2 : cmpI ((x : Int) - (X : Int)) ((y : Int) - (Y : Int)) = r := by
      rw [Hr.out]
      rcases H0.out with ⟨rfl, rfl, rfl, rfl⟩ | ⟨hV, hU⟩
      · have e1 := size_zero Sx.out
        have e2 := size_zero Sy.out
        subst e1 e2
        exact absurd rfl he
      · rcases Int.lt_trichotomy ((x : Int) - (X : Int)) ((y : Int) - (Y : Int)) with h | h | h
        · rw [cmpI_lt h, cmpN_lt (size_less Sx.out Sy.out (by omega) (by omega) hU h)]
        · exact absurd h he
        · rw [cmpI_gt h, cmpN_gt (size_less Sy.out Sx.out (by omega) (by omega) hV h)]
    have Hr2 := hid hr2
    have He := hid he
    clear he hr2
    go_wp2_with fail
    refine (compare_int _ _ _).mono ?_
    rintro e w3 ⟨rfl, J⟩
    rw [Hr2.out]
    have K := hid (K.out.trans (J.out.mono K.out.size))
    clear J
    go_wp2
    go_ret
    exact ⟨rfl, K⟩
end

/-- The sides tell how two numbers of different sides stand. -/
theorem side_cmp {s t : Bool} {V U X Y n k : Nat} (hn : V = 0 ↔ n = 0) (hk : U = 0 ↔ k = 0) (hs : V = 0 → s = false) (ht : U = 0 → t = false) (hne : sideI s n ≠ sideI t k) : cmpI (sideI s n) (sideI t k) = cmpI (dv s V X) (dv t U Y) := by
  have hp : ∀ W Z : Nat, (W = 0 ∧ W * tp (4000 - Z) = 0) ∨ (0 < W ∧ 0 < W * tp (4000 - Z)) := fun W Z => by
    rcases Nat.eq_zero_or_pos W with h | h
    · exact .inl ⟨h, by rw [h, Nat.zero_mul]⟩
    · exact .inr ⟨h, Nat.mul_pos h (tp_pos _)⟩
  unfold dv
  have h1 := hp V X
  have h2 := hp U Y
  generalize V * tp (4000 - X) = a at *
  generalize U * tp (4000 - Y) = b at *
  have key : (sideI s n < sideI t k ∧ num s a < num t b) ∨ (sideI t k < sideI s n ∧ num t b < num s a) := by
    cases s <;> cases t <;> simp [sideI, num] at hne hs ht ⊢
    · by_cases hn0 : n = 0 <;> by_cases hk0 : k = 0 <;> simp [hn0, hk0] at hne hn hk ⊢ <;> (try rw [if_pos (by omega)]) <;> omega
    · right
      split <;> omega
    · left
      split <;> omega
  rcases key with ⟨h, h2⟩ | ⟨h, h2⟩
  · rw [cmpI_lt h, cmpI_lt h2]
  · rw [cmpI_gt h, cmpI_gt h2]
theorem same_side {s t : Bool} {n k : Nat} (hn : n = 0 → s = false) (hk : k = 0 → t = false) (h : sideI s n = sideI t k) : s = t ∧ (n = 0 ↔ k = 0) := by
  cases s <;> cases t <;> simp [sideI] at h hn hk ⊢
  · by_cases h1 : n = 0 <;> by_cases h2 : k = 0 <;> simp [h1, h2] at h ⊢ <;> (try omega)
    all_goals (first | rw [if_pos (by omega)] at h | skip)
    all_goals (first | cases h | omega)
  · split at h <;> cases h
  · split at h <;> cases h
  · omega
theorem neg_cmp (a b : Nat) : cmpI (-(a : Int)) (-(b : Int)) = cmpN b a := by
  rw [← cmpI_nat]
  unfold cmpI
  by_cases h : b < a
  · rw [if_pos (by omega), if_pos (by omega)]
  · by_cases h2 : a = b
    · rw [if_neg (by omega), if_pos (by omega), if_neg (by omega), if_pos (by omega)]
    · rw [if_neg (by omega), if_neg (by omega), if_neg (by omega), if_neg (by omega)]

end Go.Proofs.YtmaggpigodkhhaaDoor


namespace Go.Proofs.YtmaggpigodkhhaaDoor
open Go.RowKit

section
variable {w : World} {A D : Option Addr} {n c k d : Nat} {f h : Nat → Nat} {s t : Bool}
set_option maxHeartbeats 6400000 in
theorem dcmp_ok {X Y : Nat} (ha : Rd w w.heap.size A n c f) (hb : Rd w w.heap.size D k d h) (hf : Fit n f) (hh : Fit k h) (hc : Canon s (vl f n) X) (hX : X ≤ 1024) (hc2 : Canon t (vl h k) Y) (hY : Y ≤ 1024) :
    Calls Tryd.prog 24 #[.agg #[.bool s, .slice A n c, .int .i64 (X : Int)], .agg #[.bool t, .slice D k d, .int .i64 (Y : Int)]] w fun e w' => e = .returned (.tuple #[.int .i64 (cmpI (dv s (vl f n) X) (dv t (vl h k) Y)), .int .i64 0]) ∧ Hid (Below w.heap.size w w') := by
  have hm1 := canon_may hf hc hX
  have hm2 := canon_may hh hc2 hY
  have B0 := hid ((((Below.refl w.heap.size w).alloc (Nat.le_refl _) (.cells #[.bool s, .slice A n c, .int .i64 (X : Int)] 24)).alloc (by simp) (.cells #[.bool t, .slice D k d, .int .i64 (Y : Int)] 24)).alloc (by simp <;> omega) (.cells #[.bool s, .slice A n c, .int .i64 (X : Int), .bool t, .slice D k d, .int .i64 (Y : Int)] 24))
  have P0 : Hid (Dbox _ w.heap.size s (.slice A n c) (X : Int)) := heap3_0 w (.cells #[.bool s, .slice A n c, .int .i64 (X : Int)] 24) (.cells #[.bool t, .slice D k d, .int .i64 (Y : Int)] 24) (.cells #[.bool s, .slice A n c, .int .i64 (X : Int), .bool t, .slice D k d, .int .i64 (Y : Int)] 24)
  have P1 : Hid (Dbox _ (w.heap.size + 1) t (.slice D k d) (Y : Int)) := heap3_1 w (.cells #[.bool s, .slice A n c, .int .i64 (X : Int)] 24) (.cells #[.bool t, .slice D k d, .int .i64 (Y : Int)] 24) (.cells #[.bool s, .slice A n c, .int .i64 (X : Int), .bool t, .slice D k d, .int .i64 (Y : Int)] 24)
  have hrow := heap3_2 w (.cells #[.bool s, .slice A n c, .int .i64 (X : Int)] 24) (.cells #[.bool t, .slice D k d, .int .i64 (Y : Int)] 24) (.cells #[.bool s, .slice A n c, .int .i64 (X : Int), .bool t, .slice D k d, .int .i64 (Y : Int)] 24)
  have Q1 := hid ((ha.asks s (X : Int)).below B0.out)
  have Q2 := hid ((hb.asks t (Y : Int)).below B0.out)
  rw [bool_of_not (not_not_intro hm1)] at Q1
  rw [bool_of_not (not_not_intro hm2)] at Q2
  have C1 := hid (danybad_two (w.heap.size + 2) _ _ _ _ _ _ _ _ _ ((cell_of_row _ _ 0 _ _ (0, 0) hrow).trans rfl) ((cell_of_row _ _ 1 _ _ (0, 0) hrow).trans rfl) ((cell_of_row _ _ 2 _ _ (0, 0) hrow).trans rfl) ((cell_of_row _ _ 3 _ _ (0, 0) hrow).trans rfl) ((cell_of_row _ _ 4 _ _ (0, 0) hrow).trans rfl) ((cell_of_row _ _ 5 _ _ (0, 0) hrow).trans rfl) Q1 Q2)
  have VA := hid (show Val w (vl f n) (.slice A n c) from ⟨A, n, c, f, rfl, ha, hf, rfl⟩)
  have VB := hid (show Val w (vl h k) (.slice D k d) from ⟨D, k, d, h, rfl, hb, hh, rfl⟩)
  have hn := vl_zero_iff hf
  have hk := vl_zero_iff hh
  have ham := ha.max
  have hbm := hb.max
  have hs1 : vl f n = 0 → s = false := fun e => (hc.1 e).1
  have hs2 : vl h k = 0 → t = false := fun e => (hc2.1 e).1
  have hx1 : vl f n = 0 → X = 0 := fun e => (hc.1 e).2
  have hx2 : vl h k = 0 → Y = 0 := fun e => (hc2.1 e).2
  have Hfacts := hid (And.intro hn (And.intro hk (And.intro hs1 (And.intro hs2 (And.intro hx1 hx2)))))
  clear ha hb hf hh hc hc2 hm1 hm2 Q1 Q2 hrow hn hk hs1 hs2 hx1 hx2
  obtain ⟨V, hV⟩ : ∃ V, V = vl f n := ⟨_, rfl⟩
  obtain ⟨U, hU⟩ : ∃ U, U = vl h k := ⟨_, rfl⟩
  rw [← hV] at VA Hfacts ⊢
  rw [← hU] at VB Hfacts ⊢
  clear hV hU
  obtain ⟨r, hr⟩ : ∃ r, r = cmpI (dv s V X) (dv t U Y) := ⟨_, rfl⟩
  rw [← hr]
  have Hr := hid hr
  clear hr
  go_enter Tryd.func24, Tryd.ntmps24
  go_wp2_with fail
  refine C1.out.mono ?_
  rintro e w1 ⟨rfl, J⟩
  have R0 := hid (P0.out.below J P0.out.lt)
  have R1 := hid (P1.out.below J P1.out.lt)
  have K := hid (B0.out.trans (J.mono B0.out.size))
  clear J B0 C1 P0 P1
  have a0 := R0.out.c0
  have a1 := R0.out.c1
  have a2 := R0.out.c2
  have b0 := R1.out.c0
  have b1 := R1.out.c1
  have b2 := R1.out.c2
  have L0 := hid R0.out.lt
  have L1 := hid R1.out.lt
  have HBz := hid ((Below.refl w1.heap.size w1).drew)
  go_upto_region 3 with fail
  go_region_held3 (fun w' => w'.cell? ⟨w.heap.size, 0, none⟩ = some (.bool s) ∧ w'.cell? ⟨w.heap.size, 1, none⟩ = some (.slice A n c) ∧ w'.cell? ⟨w.heap.size, 2, none⟩ = some (.int .i64 (X : Int)) ∧
      w'.cell? ⟨w.heap.size + 1, 0, none⟩ = some (.bool t) ∧ w'.cell? ⟨w.heap.size + 1, 1, none⟩ = some (.slice D k d) ∧ w'.cell? ⟨w.heap.size + 1, 2, none⟩ = some (.int .i64 (Y : Int)))
    (exact ⟨(HBz.out.cell (p := ⟨_, 0, none⟩) L0.out).trans a0, (HBz.out.cell (p := ⟨_, 1, none⟩) L0.out).trans a1, (HBz.out.cell (p := ⟨_, 2, none⟩) L0.out).trans a2, (HBz.out.cell (p := ⟨_, 0, none⟩) L1.out).trans b0, (HBz.out.cell (p := ⟨_, 1, none⟩) L1.out).trans b1, (HBz.out.cell (p := ⟨_, 2, none⟩) L1.out).trans b2⟩)
    (first
    | (go_at_call_of 64 (Value.agg #[Value.bool s, Value.slice A n c, Value.int IntKind.i64 (X : Int)])
       refine (side_any s A n c _ _ ham).mono ?_
       rintro e wa ⟨rfl, Ba⟩
       have HBz := hid (HBz.out.trans (Ba.out.mono HBz.out.size)))
    | (go_at_call_of 64 (Value.agg #[Value.bool t, Value.slice D k d, Value.int IntKind.i64 (Y : Int)])
       refine (side_any t D k d _ _ hbm).mono ?_
       rintro e wa ⟨rfl, Ba⟩
       have HBz := hid (HBz.out.trans (Ba.out.mono HBz.out.size))))
  all_goals
    have S0 := hid (R0.out.below HBz.out R0.out.lt)
    have S1 := hid (R1.out.below HBz.out R1.out.lt)
    have K := hid (K.out.trans (HBz.out.mono K.out.size))
    clear a0 a1 a2 b0 b1 b2 L0 L1 HBz R0 R1
    by_cases hside : sideI s n = sideI t k
    · obtain ⟨hst, hz⟩ := same_side (fun e => Hfacts.out.2.2.1 (Hfacts.out.1.2 e)) (fun e => Hfacts.out.2.2.2.1 (Hfacts.out.2.1.2 e)) hside
      subst hst
      have h0 : (V = 0 ∧ U = 0 ∧ X = 0 ∧ Y = 0) ∨ (0 < V ∧ 0 < U) := by
        obtain ⟨h1, h2, _, _, h5, h6⟩ := Hfacts.out
        rcases Nat.eq_zero_or_pos V with e | e
        · have e2 := h2.2 (hz.1 (h1.1 e))
          exact .inl ⟨e, e2, h5 e, h6 e2⟩
        · rcases Nat.eq_zero_or_pos U with e2 | e2
          · have e3 := h1.2 (hz.2 (h2.1 e2))
            omega
          · exact .inr ⟨e, e2⟩
      have H0 := hid h0
      rw [hside]
      generalize sideI s k = i1 at *
      clear h0 hz Hfacts hside
      have a0 := S0.out.c0
      have a1 := S0.out.c1
      have a2 := S0.out.c2
      have b0 := S1.out.c0
      have b1 := S1.out.c1
      have b2 := S1.out.c2
      cases s with
      | false =>
        have hr : r = cmpN (V * tp (4000 - X)) (U * tp (4000 - Y)) := by
          rw [Hr.out, ← cmpI_nat]
          rfl
        have Cz := sizes_any (s := false) (t := false) (VA.out.below K.out) (VB.out.below K.out) hX hY H0.out
        rw [← hr] at Cz
        have Cz := hid Cz
        clear hr
        go_wp2_with fail
        refine Cz.out.mono ?_
        rintro e w9 ⟨rfl, J⟩
        have K := hid (K.out.trans (J.out.mono K.out.size))
        clear J Cz
        go_wp2
        go_ret2
        exact ⟨rfl, K⟩
      | true =>
        have hr : r = cmpN (U * tp (4000 - Y)) (V * tp (4000 - X)) := by
          rw [Hr.out, ← neg_cmp]
          rfl
        have i0 := S0.out.frozen 0
        have i1' := S0.out.frozen 1
        have i2 := S0.out.frozen 2
        have j0 := S1.out.frozen 0
        have j1 := S1.out.frozen 1
        have j2 := S1.out.frozen 2
        have Kz : ∀ wz, Below w.heap.size w wz → Calls Tryd.prog 66 #[.agg #[.bool true, .slice D k d, .int .i64 (Y : Int)], .agg #[.bool true, .slice A n c, .int .i64 (X : Int)]] wz fun e w' => e = .returned (.int .i64 r) ∧ Hid (Below wz.heap.size wz w') := fun wz hb => by
          rw [hr]
          exact sizes_any (VB.out.below hb) (VA.out.below hb) hY hX (by rcases H0.out with ⟨e1, e2, e3, e4⟩ | ⟨e1, e2⟩; exact .inl ⟨e2, e1, e4, e3⟩; exact .inr ⟨e2, e1⟩)
        have Kz := hid Kz
        have K2 := hid (below_put3 (s := true) (v := .slice A n c) (x := (X : Int)) (g := w.heap.size + 1) (below_put3 (s := true) (v := .slice D k d) (x := (Y : Int)) K.out (Nat.le_refl w.heap.size)) (by omega))
        clear hr
        go_wp2_with fail
        refine (Kz.out _ K2.out).mono ?_
        rintro e w9 ⟨rfl, J⟩
        have K := hid (K2.out.trans (J.out.mono K2.out.size))
        clear J Kz
        go_wp2
        go_ret2
        exact ⟨rfl, K⟩
    · have hne : (sideI s n == sideI t k) = false := by simp [hside]
      have hne2 : (sideI s n != sideI t k) = true := by simp [hside]
      have hr : cmpI (sideI s n) (sideI t k) = r := by
        rw [Hr.out]
        exact side_cmp Hfacts.out.1 Hfacts.out.2.1 Hfacts.out.2.2.1 Hfacts.out.2.2.2.1 hside
      have Hr2 := hid hr
      clear hr hside Hfacts
      generalize sideI s n = i1 at *
      generalize sideI t k = i2 at *
      go_wp2_with fail
      refine (compare_int _ _ _).mono ?_
      rintro e w9 ⟨rfl, J⟩
      rw [Hr2.out]
      have K := hid (K.out.trans (J.out.mono K.out.size))
      clear J
      go_wp2
      go_ret2
      exact ⟨rfl, K⟩

set_option maxHeartbeats 3200000 in
theorem dcmp_bad {x y : Int} (ha : Rd w w.heap.size A n c f) (hb : Rd w w.heap.size D k d h) (hbad : ¬ (DMay s n f x ∧ DMay t k h y)) :
    Calls Tryd.prog 24 #[.agg #[.bool s, .slice A n c, .int .i64 x], .agg #[.bool t, .slice D k d, .int .i64 y]] w fun e w' => e = .returned (.tuple #[.int .i64 0, .int .i64 8]) ∧ Hid (Below w.heap.size w w') := by
  have B0 := hid ((((Below.refl w.heap.size w).alloc (Nat.le_refl _) (.cells #[.bool s, .slice A n c, .int .i64 x] 24)).alloc (by simp) (.cells #[.bool t, .slice D k d, .int .i64 y] 24)).alloc (by simp <;> omega) (.cells #[.bool s, .slice A n c, .int .i64 x, .bool t, .slice D k d, .int .i64 y] 24))
  have hrow := heap3_2 w (.cells #[.bool s, .slice A n c, .int .i64 x] 24) (.cells #[.bool t, .slice D k d, .int .i64 y] 24) (.cells #[.bool s, .slice A n c, .int .i64 x, .bool t, .slice D k d, .int .i64 y] 24)
  have Q1 := hid ((ha.asks s x).below B0.out)
  have Q2 := hid ((hb.asks t y).below B0.out)
  have C1 := danybad_two (w.heap.size + 2) _ _ _ _ _ _ _ _ _ ((cell_of_row _ _ 0 _ _ (0, 0) hrow).trans rfl) ((cell_of_row _ _ 1 _ _ (0, 0) hrow).trans rfl) ((cell_of_row _ _ 2 _ _ (0, 0) hrow).trans rfl) ((cell_of_row _ _ 3 _ _ (0, 0) hrow).trans rfl) ((cell_of_row _ _ 4 _ _ (0, 0) hrow).trans rfl) ((cell_of_row _ _ 5 _ _ (0, 0) hrow).trans rfl) Q1 Q2
  rw [show (decide (¬ DMay s n f x) || decide (¬ DMay t k h y)) = true by
    by_cases h1 : DMay s n f x
    · by_cases h2 : DMay t k h y
      · exact absurd ⟨h1, h2⟩ hbad
      · simp [h2]
    · simp [h1]] at C1
  have C1 := hid C1
  clear ha hb hbad Q1 Q2 hrow
  go_enter Tryd.func24, Tryd.ntmps24
  go_wp2_with fail
  refine C1.out.mono ?_
  rintro e w1 ⟨rfl, J⟩
  have K := hid (B0.out.trans (J.mono B0.out.size))
  clear J B0 C1
  go_wp2
  go_ret2
  exact ⟨rfl, K⟩
end

/-- What Cmp hands back. -/
def CRes (w : World) (p : Prop) (M N : Int) (e : Ending) (w' : World) : Prop := ∃ r er, e = .returned (.tuple #[.int .i64 r, .int .i64 er]) ∧ Hid ((p → er = 0 ∧ r = cmpI M N) ∧ (¬ p → er = 8 ∧ r = 0)) ∧ Hid (Below w.heap.size w w')
theorem dcmp_any {w : World} {p q : Prop} {M N : Int} {v u : Value} (h1 : DArg w p M v) (h2 : DArg w q N u) : Calls Tryd.prog 24 #[v, u] w (CRes w (p ∧ q) M N) := by
  obtain ⟨s, A, n, c, f, x, rfl, hr, hp, hM⟩ := h1
  obtain ⟨t, D, k, d, h, y, rfl, hs, hp2, hN⟩ := h2
  by_cases hpq : p ∧ q
  · obtain ⟨X, rfl, rfl⟩ := hM hpq.1
    obtain ⟨Y, rfl, rfl⟩ := hN hpq.2
    have m1 := hp.1 hpq.1
    have m2 := hp2.1 hpq.2
    obtain ⟨X', e1, c1, l1⟩ := may_canon m1 hr.out
    obtain ⟨Y', e2, c2, l2⟩ := may_canon m2 hs.out
    obtain rfl : X = X' := by omega
    obtain rfl : Y = Y' := by omega
    refine (dcmp_ok hr hs m1.1 m2.1 c1 l1 c2 l2).mono ?_
    rintro e w' ⟨rfl, HB⟩
    exact ⟨_, _, rfl, ⟨fun _ => ⟨rfl, rfl⟩, fun hn => absurd hpq hn⟩, HB⟩
  · refine (dcmp_bad hr hs (fun hm => hpq ⟨hp.2 hm.1, hp2.2 hm.2⟩)).mono ?_
    rintro e w' ⟨rfl, HB⟩
    exact ⟨_, _, rfl, ⟨fun h => absurd h hpq, fun _ => ⟨rfl, rfl⟩⟩, HB⟩

end Go.Proofs.YtmaggpigodkhhaaDoor


namespace Go.Proofs.YtmaggpigodkhhaaDoor
open Go.RowKit

set_option maxHeartbeats 800000 in
theorem dgreat_any (s : Bool) (A : Option Addr) (n c : Nat) (x : Int) (w : World) (_hm : n ≤ 140737488355328) :
    Calls Tryd.prog 10 #[.agg #[.bool s, .slice A n c, .int .i64 x]] w fun e w' => e = .returned (.bool (decide (42 < n ∨ 1100 < x))) ∧ Hid (Below w.heap.size w w') := by
  have B0 := hid ((Below.refl w.heap.size w).alloc (Nat.le_refl _) (.cells #[.bool s, .slice A n c, .int .i64 x] 24))
  by_cases h1 : 42 < n
  · rw [bool_of_dec (.inl h1)]
    go_enter Tryd.func10, Tryd.ntmps10
    go_wp2
    go_ret
    exact ⟨rfl, B0.out⟩
  · by_cases h2 : 1100 < x
    · rw [bool_of_dec (.inr h2)]
      go_enter Tryd.func10, Tryd.ntmps10
      go_wp2
      go_ret
      exact ⟨rfl, B0.out⟩
    · rw [bool_of_not (fun h => h.elim h1 h2)]
      go_enter Tryd.func10, Tryd.ntmps10
      go_wp2
      go_ret
      exact ⟨by simp <;> omega, B0.out⟩

theorem arg_of {w : World} {A : Option Addr} {n c : Nat} {f : Nat → Nat} {s : Bool} {x : Int} (hr : Rd w w.heap.size A n c f) : ∃ (p : Prop) (M : Int), DArg w p M (.agg #[.bool s, .slice A n c, .int .i64 x]) := by
  by_cases hm : DMay s n f x
  · obtain ⟨X, rfl, c1, l1⟩ := may_canon hm hr.out
    exact ⟨True, dv s (vl f n) X, s, A, n, c, f, _, rfl, hr, ⟨fun _ => hm, fun _ => trivial⟩, fun _ => ⟨X, rfl, rfl⟩⟩
  · exact ⟨False, 0, s, A, n, c, f, _, rfl, hr, ⟨fun h => h.elim, fun h => hm h⟩, fun h => h.elim⟩
theorem arg_both {w : World} {A D : Option Addr} {n c d : Nat} {f : Nat → Nat} {s : Bool} {x : Int} (hr : Rd w w.heap.size A n c f) (hs : Rd w w.heap.size D n d f) : ∃ (p : Prop) (M : Int), DArg w p M (.agg #[.bool s, .slice A n c, .int .i64 x]) ∧ DArg w p M (.agg #[.bool s, .slice D n d, .int .i64 x]) := by
  by_cases hm : DMay s n f x
  · obtain ⟨X, rfl, c1, l1⟩ := may_canon hm hr.out
    exact ⟨True, dv s (vl f n) X, ⟨s, A, n, c, f, _, rfl, hr, ⟨fun _ => hm, fun _ => trivial⟩, fun _ => ⟨X, rfl, rfl⟩⟩, ⟨s, D, n, d, f, _, rfl, hs, ⟨fun _ => hm, fun _ => trivial⟩, fun _ => ⟨X, rfl, rfl⟩⟩⟩
  · exact ⟨False, 0, ⟨s, A, n, c, f, _, rfl, hr, ⟨fun h => h.elim, fun h => hm h⟩, fun h => h.elim⟩, ⟨s, D, n, d, f, _, rfl, hs, ⟨fun h => h.elim, fun h => hm h⟩, fun h => h.elim⟩⟩
theorem ret_bool {fn : Func} {R : Ending → World → Prop} {a : Act} {w : World} {p : Tmp} {v : Value} (h : fn.results = #[.tmp p]) (hp : a.tmps[p]?.getD undef = v) (hd : a.defers = []) (hR : R (.returned v) w) : bodyPost Tryd.prog fn R .ret a w := by
  refine bodyPost_ret (v := v) ?_ hd hR
  rw [results_tmp h]
  simpa using hp

end Go.Proofs.YtmaggpigodkhhaaDoor


namespace Go.Proofs.YtmaggpigodkhhaaDoor
open Go.RowKit

theorem DArg.okay {w : World} {p : Prop} {M : Int} {v : Value} (h : DArg w p M v) (hp : p) : Okay M := by
  obtain ⟨s, A, n, c, f, x, _, hr, hpd, hM⟩ := h
  obtain ⟨X, rfl, rfl⟩ := hM hp
  have m1 := hpd.1 hp
  obtain ⟨X', e1, c1, l1⟩ := may_canon m1 hr.out
  obtain rfl : X = X' := by omega
  exact ⟨s, vl f n, X, c1, vl_pw40 hr m1.1, l1, rfl⟩
theorem DArg.check {w : World} {p : Prop} {M : Int} {v : Value} (h : DArg w p M v) : Calls Tryd.prog 74 #[v] w fun e w' => ∃ er, e = .returned (.int .i64 er) ∧ Hid ((p → er = 0) ∧ (¬ p → er = 8)) ∧ Hid (Below w.heap.size w w') := by
  obtain ⟨s, A, n, c, f, x, rfl, hr, hpd, hM⟩ := h
  refine (dcheck_any hr s x).mono ?_
  rintro e w' ⟨rfl, hb⟩
  exact ⟨_, rfl, ⟨fun hp => if_pos (hpd.1 hp), fun hn => if_neg (fun hm => hn (hpd.2 hm))⟩, hb⟩
theorem half_okay {s : Bool} {V X : Nat} {H : Int} (hc : Canon s V X) (hV : V < pw 40) (hX : X < 1024) (hH : 2 * H = dv s V X) : Okay H := by
  have e := half_scaled (s := s) (V := V) (X := X) (by omega)
  obtain rfl : H = num s (V * tp (4000 - (X + 1))) := by omega
  rcases Nat.eq_zero_or_pos V with h0 | h0
  · subst h0
    rw [Nat.zero_mul, num_zero]
    exact okay_zero
  · by_cases hodd : V % 2 = 1
    · exact ⟨s, V, X + 1, ⟨fun h => by omega, fun _ => hodd⟩, hV, by omega, rfl⟩
    · have hX0 : X = 0 := by
        rcases Nat.eq_zero_or_pos X with h | h
        · exact h
        · exact absurd (hc.2 h) hodd
      subst hX0
      obtain ⟨m, rfl⟩ : ∃ m, V = m * 2 := ⟨V / 2, by omega⟩
      refine ⟨s, m, 0, ⟨fun h => by omega, fun h => absurd h (by omega)⟩, by omega, by omega, ?_⟩
      unfold dv
      rw [Nat.mul_assoc, Nat.mul_comm 2, ← tp_succ]

theorem Derrs.uniq {p q : Prop} {M N a b : Int} (h : Derrs p M a) (k : Derrs q N b) (hpq : p ↔ q) (hMN : M = N) : a = b := by
  subst hMN
  by_cases hp : p
  · exact (h.1 hp).uniq (k.1 (hpq.1 hp))
  · rw [h.2 hp, k.2 (fun hq => hp (hpq.2 hq))]
theorem Derrs.zero {p : Prop} {M : Int} (h : Derrs p M 0) : p ∧ Okay M := by
  by_cases hp : p
  · rcases h.1 hp with ⟨ho, _⟩ | ⟨_, h0⟩
    · exact ⟨hp, ho⟩
    · cases h0
  · have := h.2 hp
    cases this
theorem Derrs.good {p : Prop} {M er : Int} (h : Derrs p M er) (hp : p) (ho : Okay M) : er = 0 := (h.1 hp).uniq (.inl ⟨ho, rfl⟩)

theorem same_false {w : World} {p q : Prop} {M N : Int} {v u : Value} (h1 : DArg w p M v) (h2 : DArg w q N u) (hp : p) (hq : q) (he : ¬ M = N) :
    Calls Tryd.prog 23 #[v, u] w fun e w' => e = .returned (.bool false) ∧ Hid (Below w.heap.size w w') := by
  have h := dsame_any h1 h2 hp hq
  rwa [bool_of_not he] at h
theorem DArg.len {w : World} {p : Prop} {M : Int} {s : Bool} {A : Option Addr} {n c : Nat} {x : Int} (h : DArg w p M (.agg #[.bool s, .slice A n c, .int .i64 x])) : n ≤ c ∧ n ≤ 140737488355328 := by
  obtain ⟨s', A', n', c', f, x', hv, hr, _, _⟩ := h
  injection hv with hv
  simp at hv
  obtain ⟨_, ⟨_, rfl, rfl⟩, _⟩ := hv
  exact ⟨hr.cap, hr.max⟩
theorem Dn.sign {B : Nat} {w : World} {M : Int} {d : Value} (h : Dn B w M d) : ∃ s A n c x, d = .agg #[.bool s, .slice A n c, .int .i64 x] ∧ (M < 0 → s = true ∧ ((n : Int) == 0) = false) ∧ (M = 0 → s = false ∧ n = 0) ∧ (0 < M → s = false ∧ ((n : Int) == 0) = false) := by
  obtain ⟨s, u, X, V, rfl, hn, hc, hX, rfl⟩ := h
  obtain ⟨A, n, c, rfl⟩ := hn.shape
  have hl := hn.val.len0
  refine ⟨s, A, n, c, _, rfl, ?_⟩
  rcases Nat.eq_zero_or_pos V with h0 | h0
  · have hz : dv s V X = 0 := by rw [h0]; unfold dv; rw [Nat.zero_mul, num_zero]
    rw [hz]
    exact ⟨fun h => absurd h (by omega), fun _ => ⟨(hc.1 h0).1, hl.2 h0⟩, fun h => absurd h (by omega)⟩
  · have hpos := Nat.mul_pos h0 (tp_pos (4000 - X))
    have hn0 : ((n : Int) == 0) = false := by
      have : n ≠ 0 := fun e => by have := hl.1 e; omega
      simp [this]
    unfold dv
    generalize V * tp (4000 - X) = a at *
    cases s with
    | false => exact ⟨fun h => absurd h (by simp [num]), fun h => absurd h (by simp [num] <;> omega), fun _ => ⟨rfl, hn0⟩⟩
    | true => exact ⟨fun _ => ⟨rfl, hn0⟩, fun h => absurd h (by simp [num] <;> omega), fun h => absurd h (by simp [num] <;> omega)⟩

end Go.Proofs.YtmaggpigodkhhaaDoor

