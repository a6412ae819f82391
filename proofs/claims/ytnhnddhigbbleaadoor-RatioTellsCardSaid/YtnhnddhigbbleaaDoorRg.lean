/- Package dyad: Same, Of; the law's own helper part. -/
/- The law's own helpers of package dyad: part, alive. -/
/- Package dyad: side, compareSizes, Cmp. -/
/- Package dyad: Cmp. -/
/- Laws' walks: what is too great to be gone through; a dyad that came in. -/
/- Dyads: what the laws' walks have in common. -/
import Derived.Test.YtnhnddhigbbleaaDoorRd
import Derived.Test.YtnhnddhigbbleaaDoorRf
import Derived.Test.YtnhnddhigbbleaaDoorRc
import Derived.Deep.RegionHeld3

namespace Go.Proofs.YtnhnddhigbbleaaDoor
open Go.RowKit

set_option maxHeartbeats 3200000 in
theorem dof_any (n : Int) (hn : -9223372036854775808 ≤ n ∧ n ≤ 9223372036854775807) (w : World) :
    Calls Tryd.prog 45 #[.int .i64 n] w fun e w' => ∃ s v V, e = .returned (.agg #[.bool s, v, .int .i64 0]) ∧ Hid (Num 63 w.heap.size w' V v ∧ (n < 0 ↔ s = true) ∧ num s V = n) ∧ Hid (Below w.heap.size w w') := by
  have B0 := hid ((Below.refl w.heap.size w).alloc (Nat.le_refl _) (.cells #[.bool false, .slice none 0 0, .int .i64 0] 24))
  have D0 : Hid (Dbox _ w.heap.size false (.slice none 0 0) 0) := heap_alloc_new w (.cells #[.bool false, .slice none 0 0, .int .i64 0] 24)
  by_cases h0 : n < 0
  · obtain ⟨m, hm, hm2⟩ : ∃ m : Nat, n = -(m : Int) ∧ m ≤ 9223372036854775808 := ⟨(-n).toNat, by omega, by omega⟩
    have C1 := hid (of_val m (by omega) (w.alloc (.cells #[.bool false, .slice none 0 0, .int .i64 0] 24)))
    have hw : IntKind.u64.wrap (wrap64 (-n)) = (m : Int) := by
      rw [IntKind.wrap_u64]
      unfold wrap64
      omega
    have Hm := hid hm
    clear hm
    go_enter Tryd.func45, Tryd.ntmps45
    go_wp2_with fail
    refine C1.out.mono ?_
    rintro e w1 ⟨v, rfl, Hn, Hb⟩
    obtain ⟨A1, n1, d1, rfl⟩ := Hn.out.shape
    have P1 := hid (D0.out.below Hb.out D0.out.lt)
    have g0 := P1.out.frozen 0
    have g1 := P1.out.frozen 1
    have g2 := P1.out.frozen 2
    have b0 := P1.out.c0
    have b1 := P1.out.c1
    have b2 := P1.out.c2
    have B1 := hid (B0.out.trans (Hb.out.mono B0.out.size))
    clear C1 B0 D0 Hb
    go_wp2
    refine ret_one rfl rfl rfl (P1.out.store (t := true) (u := .slice A1 n1 d1) (y := 0)) ?_
    exact ⟨true, _, m, rfl, ⟨(Hn.out.put3 (by simp)).mono (by simp), ⟨fun _ => rfl, fun _ => h0⟩, Hm.out.symm⟩, below_put3 B1.out (Nat.le_refl _)⟩
  · obtain ⟨m, rfl⟩ := Int.eq_ofNat_of_zero_le (show 0 ≤ n by omega)
    have C1 := hid (of_val m (by omega) (w.alloc (.cells #[.bool false, .slice none 0 0, .int .i64 0] 24)))
    go_enter Tryd.func45, Tryd.ntmps45
    go_wp2_with fail
    refine C1.out.mono ?_
    rintro e w1 ⟨v, rfl, Hn, Hb⟩
    obtain ⟨A1, n1, d1, rfl⟩ := Hn.out.shape
    have P1 := hid (D0.out.below Hb.out D0.out.lt)
    have g0 := P1.out.frozen 0
    have g1 := P1.out.frozen 1
    have g2 := P1.out.frozen 2
    have b0 := P1.out.c0
    have b1 := P1.out.c1
    have b2 := P1.out.c2
    have B1 := hid (B0.out.trans (Hb.out.mono B0.out.size))
    clear C1 B0 D0 Hb
    go_wp2
    refine ret_one rfl rfl rfl (P1.out.store (t := false) (u := .slice A1 n1 d1) (y := 0)) ?_
    exact ⟨false, _, m, rfl, ⟨(Hn.out.put3 (by simp)).mono (by simp), ⟨fun h => by omega, fun h => by cases h⟩, rfl⟩, below_put3 B1.out (Nat.le_refl _)⟩

theorem dof_dn (n : Int) (hn : -9223372036854775808 ≤ n ∧ n ≤ 9223372036854775807) (w : World) :
    Calls Tryd.prog 45 #[.int .i64 n] w fun e w' => ∃ d, e = .returned d ∧ Hid (Dn w.heap.size w' (n * (tp 4000 : Int)) d) ∧ Hid (Below w.heap.size w w') := by
  refine (dof_any n hn w).mono ?_
  rintro e w' ⟨s, v, V, rfl, ⟨Hn, hs, hV⟩, Hb⟩
  refine ⟨_, rfl, ⟨s, v, 0, V, rfl, Hn, ⟨fun h0 => ⟨?_, rfl⟩, fun h => absurd h (by omega)⟩, by omega, ?_⟩, Hb⟩
  · subst h0
    rw [num_zero] at hV
    cases s with
    | false => rfl
    | true => have := hs.2 rfl; omega
  · unfold dv
    rw [num_mul, hV]

/-- A Boolean that tells whether P, in new memory. -/
def Says (w : World) (P : Prop) (e : Ending) (w' : World) : Prop := ∃ r, e = .returned (.bool r) ∧ Hid (r = true ↔ P) ∧ Hid (Below w.heap.size w w')
end Go.Proofs.YtnhnddhigbbleaaDoor


namespace Go.Proofs.YtnhnddhigbbleaaDoor
open Go.RowKit

/-- A dyad that is handed back, and an error that is OK. -/
def Good (w : World) (N : Int) (e : Ending) (w' : World) : Prop := ∃ s A n c x, e = .returned (.tuple #[.agg #[.bool s, .slice A n c, .int .i64 x], .int .i64 0]) ∧ Hid (DArg w' True N (.agg #[.bool s, .slice A n c, .int .i64 x])) ∧ Hid (Below w.heap.size w w')
/-- A dyad that is handed back. -/
def One (w : World) (N : Int) (e : Ending) (w' : World) : Prop := ∃ s A n c x, e = .returned (.agg #[.bool s, .slice A n c, .int .i64 x]) ∧ Hid (DArg w' True N (.agg #[.bool s, .slice A n c, .int .i64 x])) ∧ Hid (Below w.heap.size w w')

theorem Dn.parts {B : Nat} {w : World} {M : Int} {d : Value} (h : Dn B w M d) : ∃ s A n c x, d = .agg #[.bool s, .slice A n c, .int .i64 x] := by
  obtain ⟨s, u, X, V, rfl, hn, _⟩ := h
  obtain ⟨A, n, c, rfl⟩ := hn.shape
  exact ⟨s, A, n, c, _, rfl⟩
theorem DRes.good {w w' : World} {p : Prop} {M : Int} {e : Ending} (h : DRes w (Derrs p M) M e w') (hp : p) (hM : Okay M) : Good w M e w' := by
  obtain ⟨d, er, rfl, HE, HD, HB⟩ := h
  obtain rfl : er = 0 := (HE.out.1 hp).uniq (.inl ⟨hM, rfl⟩)
  have hd := HD.out
  rw [resD_ok rfl] at hd
  obtain ⟨s, A, n, c, x, rfl⟩ := hd.parts
  exact ⟨s, A, n, c, x, rfl, hd.arg, HB⟩
theorem add_good {w : World} {p q : Prop} {M N R : Int} {v u : Value} (h1 : DArg w p M v) (h2 : DArg w q N u) (hp : p) (hq : q) (hT : Tab w) (hR : M + N = R) (ho : Okay R) : Calls Tryd.prog 28 #[v, u] w (Good w R) := by
  subst hR
  exact (dadd_any h1 h2 hT).mono fun e w' h => h.good ⟨hp, hq⟩ ho
theorem of_one (n : Nat) (hn : n ≤ 9223372036854775807) (w : World) : Calls Tryd.prog 45 #[.int .i64 (n : Int)] w (One w (dv false n 0)) := by
  refine (dof_dn (n : Int) (by omega) w).mono ?_
  rintro e w' ⟨d, rfl, HD, HB⟩
  obtain ⟨s, A, m, c, x, rfl⟩ := HD.out.parts
  refine ⟨s, A, m, c, x, rfl, ?_, HB⟩
  have h := HD.out.arg
  rwa [show (n : Int) * (tp 4000 : Int) = dv false n 0 by simp [dv, num]] at h
theorem canon_small {s : Bool} {n x : Nat} (h0 : 0 < n) (hx : 0 < x → n % 2 = 1) : Canon s n x := ⟨fun h => by omega, hx⟩
theorem okay_small {s : Bool} {n x : Nat} (h0 : 0 < n) (hn : n < 4294967296) (hx : 0 < x → n % 2 = 1) (h1 : x ≤ 1024) : Okay (dv s n x) :=
  ⟨s, n, x, canon_small h0 hx, Nat.lt_of_lt_of_le hn (pw_mono (j := 1) (k := 40) (by omega)), h1, rfl⟩

theorem e0 : tp (4000 - 0) = tp 3998 * 4 := by
  show tp (3998 + 1 + 1) = _
  rw [tp_succ, tp_succ, Nat.mul_assoc]
theorem e1 : tp (4000 - 1) = tp 3998 * 2 := by
  show tp (3998 + 1) = _
  rw [tp_succ]
theorem e2 : tp (4000 - 2) = tp 3998 := rfl
theorem half3 : 2 * dv false 3 1 = dv false 3 0 := by
  unfold dv num
  rw [e0, e1]
  generalize tp 3998 = T
  simp <;> omega
theorem half2 : 2 * dv false 1 0 = dv false 2 0 := by
  unfold dv num
  rw [e0]
  generalize tp 3998 = T
  simp <;> omega
theorem add11 : dv false 1 1 + dv false 1 1 = dv false 1 0 := by
  unfold dv num
  rw [e0, e1]
  generalize tp 3998 = T
  simp <;> omega
theorem sub13 : dv false 1 1 - dv false 3 2 = dv true 1 2 := by
  unfold dv num
  rw [e1, e2]
  generalize tp 3998 = T
  simp <;> omega


end Go.Proofs.YtnhnddhigbbleaaDoor


namespace Go.Proofs.YtnhnddhigbbleaaDoor
open Go.RowKit

/-- How two numbers stand. -/
def cmpI (a b : Int) : Int := if a < b then -1 else if a = b then 0 else 1
theorem cmpI_lt {a b : Int} (h : a < b) : cmpI a b = -1 := if_pos h
theorem cmpI_eq {a b : Int} (h : a = b) : cmpI a b = 0 := by unfold cmpI; rw [if_neg (by omega), if_pos h]
theorem cmpI_gt {a b : Int} (h : b < a) : cmpI a b = 1 := by unfold cmpI; rw [if_neg (by omega), if_neg (by omega)]
theorem cmpI_nat (a b : Nat) : cmpI (a : Int) (b : Int) = cmpN a b := by
  unfold cmpI cmpN
  by_cases h : a < b
  · rw [if_pos h, if_pos (by omega)]
  · by_cases h2 : a = b
    · rw [if_neg h, if_pos h2, if_neg (by omega), if_pos (by omega)]
    · rw [if_neg h, if_neg h2, if_neg (by omega), if_neg (by omega)]

/-- The side of 0 on which a number lies. -/
def sideI (s : Bool) (n : Nat) : Int := if s then -1 else if 0 < n then 1 else 0
theorem bits_val {V : Nat} {w : World} {v : Value} (h1 : Val w V v) : Calls Tryd.prog 51 #[v] w fun e w' => ∃ s : Nat, e = .returned (.tuple #[.int .i64 (s : Int), .int .i64 0]) ∧ Hid (Size V s) ∧ Hid (Below w.heap.size w w') := by
  obtain ⟨A, n, c, f, rfl, hr, hf, rfl⟩ := h1
  refine (Bits_any hr).mono ?_
  rintro e w' ⟨hb, k, rfl, hgood, _⟩
  rw [chk_fit hf]
  exact ⟨k, rfl, hgood hf, hb⟩

/-- Whose highest digit stands lower is less. -/
theorem size_less {V U x y X Y : Nat} (hx : Size V x) (hy : Size U y) (hX : X ≤ 4000) (hY : Y ≤ 4000) (hU : 0 < U) (h : (x : Int) - (X : Int) < (y : Int) - (Y : Int)) : V * tp (4000 - X) < U * tp (4000 - Y) := by
  have hy0 : 0 < y := by
    rcases Nat.eq_zero_or_pos y with h0 | h0
    · subst h0
      have := hy.1
      omega
    · exact h0
  have a : V * tp (4000 - X) < tp (x + (4000 - X)) := by
    rw [tp_add]
    exact Nat.mul_lt_mul_of_pos_right hx.1 (tp_pos _)
  have b : tp ((y - 1) + (4000 - Y)) ≤ U * tp (4000 - Y) := by
    rw [tp_add]
    exact Nat.mul_le_mul_right _ (hy.2 hy0)
  have c : tp (x + (4000 - X)) ≤ tp ((y - 1) + (4000 - Y)) := Nat.pow_le_pow_right (by omega) (by omega)
  omega
theorem scale_cmp {V U X Y E : Nat} (hX : X ≤ E) (hY : Y ≤ E) (hE : E ≤ 4000) : cmpN (V * tp (E - X)) (U * tp (E - Y)) = cmpN (V * tp (4000 - X)) (U * tp (4000 - Y)) := by
  rw [tp_split hX hE, tp_split hY hE, ← Nat.mul_assoc, ← Nat.mul_assoc]
  have hp := tp_pos (4000 - E)
  generalize V * tp (E - X) = a
  generalize U * tp (E - Y) = b
  rcases Nat.lt_trichotomy a b with h | h | h
  · rw [cmpN_lt h, cmpN_lt (Nat.mul_lt_mul_of_pos_right h hp)]
  · subst h
    rw [cmpN_eq rfl, cmpN_eq rfl]
  · rw [cmpN_gt h, cmpN_gt (Nat.mul_lt_mul_of_pos_right h hp)]
theorem fits_shift {V U x y X Y : Nat} (hx : Size V x) (hy : Size U y) (hU : U < pw 40) (hXY : X ≤ Y) (h : (x : Int) - (X : Int) = (y : Int) - (Y : Int)) : V * tp (Y - X) < pw 40 := by
  have a : V * tp (Y - X) < tp (x + (Y - X)) := by
    rw [tp_add]
    exact Nat.mul_lt_mul_of_pos_right hx.1 (tp_pos _)
  have hy2 : y ≤ 1280 := by
    rcases Nat.lt_or_ge 1280 y with h1 | h1
    · have b := hy.2 (by omega)
      have c := pw40_le (k := y - 1) (by omega)
      omega
    · exact h1
  have c : tp (x + (Y - X)) ≤ pw 40 := le_pw40 (by omega)
  omega

theorem size_le1280 {V x : Nat} (hx : Size V x) (hV : V < pw 40) : x ≤ 1280 := by
  rcases Nat.lt_or_ge 1280 x with h1 | h1
  · have b := hx.2 (by omega)
    have c := pw40_le (k := x - 1) (by omega)
    omega
  · exact h1
theorem size_zero {x : Nat} (hx : Size 0 x) : x = 0 := by
  rcases Nat.eq_zero_or_pos x with h | h
  · exact h
  · have a := hx.2 h
    have b : 0 < 2 ^ (x - 1) := Nat.pow_pos (by omega)
    omega

section
variable {w : World} {V U X Y : Nat} {s t : Bool} {v u : Value}
end

/-- The sides tell how two numbers of different sides stand. -/
theorem side_cmp {s t : Bool} {V U X Y n k : Nat} (hn : V = 0 ↔ n = 0) (hk : U = 0 ↔ k = 0) (hs : V = 0 → s = false) (ht : U = 0 → t = false) (hne : sideI s n ≠ sideI t k) : cmpI (sideI s n) (sideI t k) = cmpI (dv s V X) (dv t U Y) := by
  have hp : ∀ W Z : Nat, (W = 0 ∧ W * tp (4000 - Z) = 0) ∨ (0 < W ∧ 0 < W * tp (4000 - Z)) := fun W Z => by
    rcases Nat.eq_zero_or_pos W with h | h
    · exact .inl ⟨h, by rw [h, Nat.zero_mul]⟩
    · exact .inr ⟨h, Nat.mul_pos h (tp_pos _)⟩
  unfold dv
  have h1 := hp V X
  have h2 := hp U Y
  generalize V * tp (4000 - X) = a at *
  generalize U * tp (4000 - Y) = b at *
  have key : (sideI s n < sideI t k ∧ num s a < num t b) ∨ (sideI t k < sideI s n ∧ num t b < num s a) := by
    cases s <;> cases t <;> simp [sideI, num] at hne hs ht ⊢
    · by_cases hn0 : n = 0 <;> by_cases hk0 : k = 0 <;> simp [hn0, hk0] at hne hn hk ⊢ <;> (try rw [if_pos (by omega)]) <;> omega
    · right
      split <;> omega
    · left
      split <;> omega
  rcases key with ⟨h, h2⟩ | ⟨h, h2⟩
  · rw [cmpI_lt h, cmpI_lt h2]
  · rw [cmpI_gt h, cmpI_gt h2]
theorem same_side {s t : Bool} {n k : Nat} (hn : n = 0 → s = false) (hk : k = 0 → t = false) (h : sideI s n = sideI t k) : s = t ∧ (n = 0 ↔ k = 0) := by
  cases s <;> cases t <;> simp [sideI] at h hn hk ⊢
  · by_cases h1 : n = 0 <;> by_cases h2 : k = 0 <;> simp [h1, h2] at h ⊢ <;> (try omega)
    all_goals (first | rw [if_pos (by omega)] at h | skip)
    all_goals (first | cases h | omega)
  · split at h <;> cases h
  · split at h <;> cases h
  · omega
theorem neg_cmp (a b : Nat) : cmpI (-(a : Int)) (-(b : Int)) = cmpN b a := by
  rw [← cmpI_nat]
  unfold cmpI
  by_cases h : b < a
  · rw [if_pos (by omega), if_pos (by omega)]
  · by_cases h2 : a = b
    · rw [if_neg (by omega), if_pos (by omega), if_neg (by omega), if_pos (by omega)]
    · rw [if_neg (by omega), if_neg (by omega), if_neg (by omega), if_neg (by omega)]

end Go.Proofs.YtnhnddhigbbleaaDoor


namespace Go.Proofs.YtnhnddhigbbleaaDoor
open Go.RowKit

section
variable {w : World} {A D : Option Addr} {n c k d : Nat} {f h : Nat → Nat} {s t : Bool}
end

/-- What Cmp hands back. -/
def CRes (w : World) (p : Prop) (M N : Int) (e : Ending) (w' : World) : Prop := ∃ r er, e = .returned (.tuple #[.int .i64 r, .int .i64 er]) ∧ Hid ((p → er = 0 ∧ r = cmpI M N) ∧ (¬ p → er = 8 ∧ r = 0)) ∧ Hid (Below w.heap.size w w')
end Go.Proofs.YtnhnddhigbbleaaDoor


namespace Go.Proofs.YtnhnddhigbbleaaDoor
open Go.RowKit

set_option maxHeartbeats 800000 in
theorem dgreat_any (s : Bool) (A : Option Addr) (n c : Nat) (x : Int) (w : World) (_hm : n ≤ 140737488355328) :
    Calls Tryd.prog 4 #[.agg #[.bool s, .slice A n c, .int .i64 x]] w fun e w' => e = .returned (.bool (decide (42 < n ∨ 1100 < x))) ∧ Hid (Below w.heap.size w w') := by
  have B0 := hid ((Below.refl w.heap.size w).alloc (Nat.le_refl _) (.cells #[.bool s, .slice A n c, .int .i64 x] 24))
  by_cases h1 : 42 < n
  · rw [bool_of_dec (.inl h1)]
    go_enter Tryd.func4, Tryd.ntmps4
    go_wp2
    go_ret
    exact ⟨rfl, B0.out⟩
  · by_cases h2 : 1100 < x
    · rw [bool_of_dec (.inr h2)]
      go_enter Tryd.func4, Tryd.ntmps4
      go_wp2
      go_ret
      exact ⟨rfl, B0.out⟩
    · rw [bool_of_not (fun h => h.elim h1 h2)]
      go_enter Tryd.func4, Tryd.ntmps4
      go_wp2
      go_ret
      exact ⟨by simp <;> omega, B0.out⟩

theorem arg_of {w : World} {A : Option Addr} {n c : Nat} {f : Nat → Nat} {s : Bool} {x : Int} (hr : Rd w w.heap.size A n c f) : ∃ (p : Prop) (M : Int), DArg w p M (.agg #[.bool s, .slice A n c, .int .i64 x]) := by
  by_cases hm : DMay s n f x
  · obtain ⟨X, rfl, c1, l1⟩ := may_canon hm hr.out
    exact ⟨True, dv s (vl f n) X, s, A, n, c, f, _, rfl, hr, ⟨fun _ => hm, fun _ => trivial⟩, fun _ => ⟨X, rfl, rfl⟩⟩
  · exact ⟨False, 0, s, A, n, c, f, _, rfl, hr, ⟨fun h => h.elim, fun h => hm h⟩, fun h => h.elim⟩
theorem arg_both {w : World} {A D : Option Addr} {n c d : Nat} {f : Nat → Nat} {s : Bool} {x : Int} (hr : Rd w w.heap.size A n c f) (hs : Rd w w.heap.size D n d f) : ∃ (p : Prop) (M : Int), DArg w p M (.agg #[.bool s, .slice A n c, .int .i64 x]) ∧ DArg w p M (.agg #[.bool s, .slice D n d, .int .i64 x]) := by
  by_cases hm : DMay s n f x
  · obtain ⟨X, rfl, c1, l1⟩ := may_canon hm hr.out
    exact ⟨True, dv s (vl f n) X, ⟨s, A, n, c, f, _, rfl, hr, ⟨fun _ => hm, fun _ => trivial⟩, fun _ => ⟨X, rfl, rfl⟩⟩, ⟨s, D, n, d, f, _, rfl, hs, ⟨fun _ => hm, fun _ => trivial⟩, fun _ => ⟨X, rfl, rfl⟩⟩⟩
  · exact ⟨False, 0, ⟨s, A, n, c, f, _, rfl, hr, ⟨fun h => h.elim, fun h => hm h⟩, fun h => h.elim⟩, ⟨s, D, n, d, f, _, rfl, hs, ⟨fun h => h.elim, fun h => hm h⟩, fun h => h.elim⟩⟩
theorem ret_bool {fn : Func} {R : Ending → World → Prop} {a : Act} {w : World} {p : Tmp} {v : Value} (h : fn.results = #[.tmp p]) (hp : a.tmps[p]?.getD undef = v) (hd : a.defers = []) (hR : R (.returned v) w) : bodyPost Tryd.prog fn R .ret a w := by
  refine bodyPost_ret (v := v) ?_ hd hR
  rw [results_tmp h]
  simpa using hp

end Go.Proofs.YtnhnddhigbbleaaDoor


namespace Go.Proofs.YtnhnddhigbbleaaDoor
open Go.RowKit

theorem DArg.okay {w : World} {p : Prop} {M : Int} {v : Value} (h : DArg w p M v) (hp : p) : Okay M := by
  obtain ⟨s, A, n, c, f, x, _, hr, hpd, hM⟩ := h
  obtain ⟨X, rfl, rfl⟩ := hM hp
  have m1 := hpd.1 hp
  obtain ⟨X', e1, c1, l1⟩ := may_canon m1 hr.out
  obtain rfl : X = X' := by omega
  exact ⟨s, vl f n, X, c1, vl_pw40 hr m1.1, l1, rfl⟩
theorem DArg.check {w : World} {p : Prop} {M : Int} {v : Value} (h : DArg w p M v) : Calls Tryd.prog 25 #[v] w fun e w' => ∃ er, e = .returned (.int .i64 er) ∧ Hid ((p → er = 0) ∧ (¬ p → er = 8)) ∧ Hid (Below w.heap.size w w') := by
  obtain ⟨s, A, n, c, f, x, rfl, hr, hpd, hM⟩ := h
  refine (dcheck_any hr s x).mono ?_
  rintro e w' ⟨rfl, hb⟩
  exact ⟨_, rfl, ⟨fun hp => if_pos (hpd.1 hp), fun hn => if_neg (fun hm => hn (hpd.2 hm))⟩, hb⟩
theorem half_okay {s : Bool} {V X : Nat} {H : Int} (hc : Canon s V X) (hV : V < pw 40) (hX : X < 1024) (hH : 2 * H = dv s V X) : Okay H := by
  have e := half_scaled (s := s) (V := V) (X := X) (by omega)
  obtain rfl : H = num s (V * tp (4000 - (X + 1))) := by omega
  rcases Nat.eq_zero_or_pos V with h0 | h0
  · subst h0
    rw [Nat.zero_mul, num_zero]
    exact okay_zero
  · by_cases hodd : V % 2 = 1
    · exact ⟨s, V, X + 1, ⟨fun h => by omega, fun _ => hodd⟩, hV, by omega, rfl⟩
    · have hX0 : X = 0 := by
        rcases Nat.eq_zero_or_pos X with h | h
        · exact h
        · exact absurd (hc.2 h) hodd
      subst hX0
      obtain ⟨m, rfl⟩ : ∃ m, V = m * 2 := ⟨V / 2, by omega⟩
      refine ⟨s, m, 0, ⟨fun h => by omega, fun h => absurd h (by omega)⟩, by omega, by omega, ?_⟩
      unfold dv
      rw [Nat.mul_assoc, Nat.mul_comm 2, ← tp_succ]

theorem Derrs.uniq {p q : Prop} {M N a b : Int} (h : Derrs p M a) (k : Derrs q N b) (hpq : p ↔ q) (hMN : M = N) : a = b := by
  subst hMN
  by_cases hp : p
  · exact (h.1 hp).uniq (k.1 (hpq.1 hp))
  · rw [h.2 hp, k.2 (fun hq => hp (hpq.2 hq))]
theorem Derrs.zero {p : Prop} {M : Int} (h : Derrs p M 0) : p ∧ Okay M := by
  by_cases hp : p
  · rcases h.1 hp with ⟨ho, _⟩ | ⟨_, h0⟩
    · exact ⟨hp, ho⟩
    · cases h0
  · have := h.2 hp
    cases this
theorem Derrs.good {p : Prop} {M er : Int} (h : Derrs p M er) (hp : p) (ho : Okay M) : er = 0 := (h.1 hp).uniq (.inl ⟨ho, rfl⟩)

theorem DArg.len {w : World} {p : Prop} {M : Int} {s : Bool} {A : Option Addr} {n c : Nat} {x : Int} (h : DArg w p M (.agg #[.bool s, .slice A n c, .int .i64 x])) : n ≤ c ∧ n ≤ 140737488355328 := by
  obtain ⟨s', A', n', c', f, x', hv, hr, _, _⟩ := h
  injection hv with hv
  simp at hv
  obtain ⟨_, ⟨_, rfl, rfl⟩, _⟩ := hv
  exact ⟨hr.cap, hr.max⟩
theorem Dn.sign {B : Nat} {w : World} {M : Int} {d : Value} (h : Dn B w M d) : ∃ s A n c x, d = .agg #[.bool s, .slice A n c, .int .i64 x] ∧ (M < 0 → s = true ∧ ((n : Int) == 0) = false) ∧ (M = 0 → s = false ∧ n = 0) ∧ (0 < M → s = false ∧ ((n : Int) == 0) = false) := by
  obtain ⟨s, u, X, V, rfl, hn, hc, hX, rfl⟩ := h
  obtain ⟨A, n, c, rfl⟩ := hn.shape
  have hl := hn.val.len0
  refine ⟨s, A, n, c, _, rfl, ?_⟩
  rcases Nat.eq_zero_or_pos V with h0 | h0
  · have hz : dv s V X = 0 := by rw [h0]; unfold dv; rw [Nat.zero_mul, num_zero]
    rw [hz]
    exact ⟨fun h => absurd h (by omega), fun _ => ⟨(hc.1 h0).1, hl.2 h0⟩, fun h => absurd h (by omega)⟩
  · have hpos := Nat.mul_pos h0 (tp_pos (4000 - X))
    have hn0 : ((n : Int) == 0) = false := by
      have : n ≠ 0 := fun e => by have := hl.1 e; omega
      simp [this]
    unfold dv
    generalize V * tp (4000 - X) = a at *
    cases s with
    | false => exact ⟨fun h => absurd h (by simp [num]), fun h => absurd h (by simp [num] <;> omega), fun _ => ⟨rfl, hn0⟩⟩
    | true => exact ⟨fun _ => ⟨rfl, hn0⟩, fun h => absurd h (by simp [num] <;> omega), fun h => absurd h (by simp [num] <;> omega)⟩

end Go.Proofs.YtnhnddhigbbleaaDoor

