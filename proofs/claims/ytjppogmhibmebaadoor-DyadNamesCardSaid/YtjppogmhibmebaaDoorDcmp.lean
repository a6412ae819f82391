/- Package dyad: side, compareSizes, Cmp. -/
import Derived.Test.YtjppogmhibmebaaDoorDsame
import Derived.Test.YtjppogmhibmebaaDoorDbad
import Derived.Test.YtjppogmhibmebaaDoorBitsLaw
namespace Go.Proofs.YtjppogmhibmebaaDoor
open Go.RowKit

/-- How two numbers stand. -/
def cmpI (a b : Int) : Int := if a < b then -1 else if a = b then 0 else 1
theorem cmpI_lt {a b : Int} (h : a < b) : cmpI a b = -1 := if_pos h
theorem cmpI_eq {a b : Int} (h : a = b) : cmpI a b = 0 := by unfold cmpI; rw [if_neg (by omega), if_pos h]
theorem cmpI_gt {a b : Int} (h : b < a) : cmpI a b = 1 := by unfold cmpI; rw [if_neg (by omega), if_neg (by omega)]
theorem cmpI_nat (a b : Nat) : cmpI (a : Int) (b : Int) = cmpN a b := by
  unfold cmpI cmpN
  by_cases h : a < b
  · rw [if_pos h, if_pos (by omega)]
  · by_cases h2 : a = b
    · rw [if_neg h, if_pos h2, if_neg (by omega), if_pos (by omega)]
    · rw [if_neg h, if_neg h2, if_neg (by omega), if_neg (by omega)]

set_option maxHeartbeats 800000 in
theorem nan_any (x : Int) (w : World) : Calls Tryd.prog 70 #[.int .i64 x] w fun e w' => e = .returned (.bool false) ∧ w = w' := by
  go_enter Tryd.func70, Tryd.ntmps70
  go_wp2
  go_ret
  exact ⟨by simp, rfl⟩
set_option maxHeartbeats 1600000 in
theorem compare_int (x y : Int) (w : World) : Calls Tryd.prog 41 #[.int .i64 x, .int .i64 y] w fun e w' => e = .returned (.int .i64 (cmpI x y)) ∧ Hid (Below w.heap.size w w') := by
  have C1 := hid (nan_any x w)
  have C2 := hid (nan_any y w)
  rcases Int.lt_trichotomy x y with h | h | h
  · rw [cmpI_lt h]
    go_enter Tryd.func41, Tryd.ntmps41
    go_wp2_with fail
    refine C1.out.mono ?_
    rintro e w' ⟨rfl, rfl⟩
    go_wp2_with fail
    refine C2.out.mono ?_
    rintro e w' ⟨rfl, rfl⟩
    go_wp2
    go_ret
    exact ⟨rfl, Below.refl _ _⟩
  · subst h
    rw [cmpI_eq rfl]
    go_enter Tryd.func41, Tryd.ntmps41
    go_wp2_with fail
    refine C1.out.mono ?_
    rintro e w' ⟨rfl, rfl⟩
    go_wp2_with fail
    refine C2.out.mono ?_
    rintro e w' ⟨rfl, rfl⟩
    go_wp2
    go_ret
    exact ⟨rfl, Below.refl _ _⟩
  · rw [cmpI_gt h]
    go_enter Tryd.func41, Tryd.ntmps41
    go_wp2_with fail
    refine C1.out.mono ?_
    rintro e w' ⟨rfl, rfl⟩
    go_wp2_with fail
    refine C2.out.mono ?_
    rintro e w' ⟨rfl, rfl⟩
    go_wp2
    go_ret
    exact ⟨rfl, Below.refl _ _⟩

/-- The side of 0 on which a number lies. -/
def sideI (s : Bool) (n : Nat) : Int := if s then -1 else if 0 < n then 1 else 0
set_option maxHeartbeats 800000 in
theorem side_any (s : Bool) (A : Option Addr) (n c : Nat) (x : Int) (w : World) (_hm : n ≤ 140737488355328) : Calls Tryd.prog 40 #[.agg #[.bool s, .slice A n c, .int .i64 x]] w fun e w' => e = .returned (.int .i64 (sideI s n)) ∧ Hid (Below w.heap.size w w') := by
  have B0 := hid ((Below.refl w.heap.size w).alloc (Nat.le_refl _) (.cells #[.bool s, .slice A n c, .int .i64 x] 24))
  cases s with
  | true =>
    go_enter Tryd.func40, Tryd.ntmps40
    go_wp2
    go_ret
    exact ⟨rfl, B0.out⟩
  | false =>
    rcases Nat.eq_zero_or_pos n with h0 | h0
    · subst h0
      go_enter Tryd.func40, Tryd.ntmps40
      go_wp2
      go_ret
      exact ⟨rfl, B0.out⟩
    · rw [show sideI false n = 1 by unfold sideI; simp [h0]]
      have hp : (0 : Int) < (n : Int) := by omega
      go_enter Tryd.func40, Tryd.ntmps40
      go_wp2
      go_ret
      exact ⟨rfl, B0.out⟩

theorem bits_val {V : Nat} {w : World} {v : Value} (h1 : Val w V v) : Calls Tryd.prog 71 #[v] w fun e w' => ∃ s : Nat, e = .returned (.tuple #[.int .i64 (s : Int), .int .i64 0]) ∧ Hid (Size V s) ∧ Hid (Below w.heap.size w w') := by
  obtain ⟨A, n, c, f, rfl, hr, hf, rfl⟩ := h1
  refine (Bits_any hr).mono ?_
  rintro e w' ⟨hb, k, rfl, hgood, _⟩
  rw [chk_fit hf]
  exact ⟨k, rfl, hgood hf, hb⟩

/-- Whose highest digit stands lower is less. -/
theorem size_less {V U x y X Y : Nat} (hx : Size V x) (hy : Size U y) (hX : X ≤ 4000) (hY : Y ≤ 4000) (hU : 0 < U) (h : (x : Int) - (X : Int) < (y : Int) - (Y : Int)) : V * tp (4000 - X) < U * tp (4000 - Y) := by
  have hy0 : 0 < y := by
    rcases Nat.eq_zero_or_pos y with h0 | h0
    · subst h0
      have := hy.1
      omega
    · exact h0
  have a : V * tp (4000 - X) < tp (x + (4000 - X)) := by
    rw [tp_add]
    exact Nat.mul_lt_mul_of_pos_right hx.1 (tp_pos _)
  have b : tp ((y - 1) + (4000 - Y)) ≤ U * tp (4000 - Y) := by
    rw [tp_add]
    exact Nat.mul_le_mul_right _ (hy.2 hy0)
  have c : tp (x + (4000 - X)) ≤ tp ((y - 1) + (4000 - Y)) := Nat.pow_le_pow_right (by omega) (by omega)
  omega
theorem scale_cmp {V U X Y E : Nat} (hX : X ≤ E) (hY : Y ≤ E) (hE : E ≤ 4000) : cmpN (V * tp (E - X)) (U * tp (E - Y)) = cmpN (V * tp (4000 - X)) (U * tp (4000 - Y)) := by
  rw [tp_split hX hE, tp_split hY hE, ← Nat.mul_assoc, ← Nat.mul_assoc]
  have hp := tp_pos (4000 - E)
  generalize V * tp (E - X) = a
  generalize U * tp (E - Y) = b
  rcases Nat.lt_trichotomy a b with h | h | h
  · rw [cmpN_lt h, cmpN_lt (Nat.mul_lt_mul_of_pos_right h hp)]
  · subst h
    rw [cmpN_eq rfl, cmpN_eq rfl]
  · rw [cmpN_gt h, cmpN_gt (Nat.mul_lt_mul_of_pos_right h hp)]
theorem fits_shift {V U x y X Y : Nat} (hx : Size V x) (hy : Size U y) (hU : U < pw 40) (hXY : X ≤ Y) (h : (x : Int) - (X : Int) = (y : Int) - (Y : Int)) : V * tp (Y - X) < pw 40 := by
  have a : V * tp (Y - X) < tp (x + (Y - X)) := by
    rw [tp_add]
    exact Nat.mul_lt_mul_of_pos_right hx.1 (tp_pos _)
  have hy2 : y ≤ 1280 := by
    rcases Nat.lt_or_ge 1280 y with h1 | h1
    · have b := hy.2 (by omega)
      have c := pw40_le (k := y - 1) (by omega)
      omega
    · exact h1
  have c : tp (x + (Y - X)) ≤ pw 40 := le_pw40 (by omega)
  omega

theorem size_le1280 {V x : Nat} (hx : Size V x) (hV : V < pw 40) : x ≤ 1280 := by
  rcases Nat.lt_or_ge 1280 x with h1 | h1
  · have b := hx.2 (by omega)
    have c := pw40_le (k := x - 1) (by omega)
    omega
  · exact h1
theorem size_zero {x : Nat} (hx : Size 0 x) : x = 0 := by
  rcases Nat.eq_zero_or_pos x with h | h
  · exact h
  · have a := hx.2 h
    have b : 0 < 2 ^ (x - 1) := Nat.pow_pos (by omega)
    omega

section
variable {w : World} {V U X Y : Nat} {s t : Bool} {v u : Value}
set_option maxHeartbeats 3200000 in
theorem sizes_any (hv : Val w V v) (hu : Val w U u) (hX : X ≤ 1024) (hY : Y ≤ 1024) (h0 : (V = 0 ∧ U = 0 ∧ X = 0 ∧ Y = 0) ∨ (0 < V ∧ 0 < U)) :
    Calls Tryd.prog 42 #[.agg #[.bool s, v, .int .i64 (X : Int)], .agg #[.bool t, u, .int .i64 (Y : Int)]] w fun e w' => e = .returned (.int .i64 (cmpN (V * tp (4000 - X)) (U * tp (4000 - Y)))) ∧ Hid (Below w.heap.size w w') := by
  obtain ⟨A, n, c, rfl⟩ := hv.shape
  obtain ⟨D, k, d, rfl⟩ := hu.shape
  have B0 := hid (((Below.refl w.heap.size w).alloc (Nat.le_refl _) (.cells #[.bool s, .slice A n c, .int .i64 (X : Int)] 24)).alloc (by simp) (.cells #[.bool t, .slice D k d, .int .i64 (Y : Int)] 24))
  have P1 : Hid (Dbox _ (w.heap.size + 1) t (.slice D k d) (Y : Int)) := heap_alloc2_new w (.cells #[.bool s, .slice A n c, .int .i64 (X : Int)] 24) (.cells #[.bool t, .slice D k d, .int .i64 (Y : Int)] 24)
  have P0 : Hid (Dbox _ w.heap.size s (.slice A n c) (X : Int)) := (Below.heap_alloc _ (.cells #[.bool t, .slice D k d, .int .i64 (Y : Int)] 24) _ (by simp)).trans (heap_alloc_new w (.cells #[.bool s, .slice A n c, .int .i64 (X : Int)] 24))
  have VA := hid hv
  have VB := hid hu
  have H0 := hid h0
  obtain ⟨r, hr⟩ : ∃ r, r = cmpN (V * tp (4000 - X)) (U * tp (4000 - Y)) := ⟨_, rfl⟩
  rw [← hr]
  have Hr := hid hr
  clear hv hu h0 hr
  go_enter Tryd.func42, Tryd.ntmps42
  go_wp2_with fail
  refine (bits_val (VA.out.below B0.out)).mono ?_
  rintro e w1 ⟨x, rfl, Sx, J⟩
  have P0 := hid (P0.out.below J.out P0.out.lt)
  have P1 := hid (P1.out.below J.out P1.out.lt)
  have K := hid (B0.out.trans (J.out.mono B0.out.size))
  clear J B0
  have b1 := P1.out.c1
  go_wp2_with fail
  refine (bits_val (VB.out.below K.out)).mono ?_
  rintro e w2 ⟨y, rfl, Sy, J⟩
  have P0 := hid (P0.out.below J.out P0.out.lt)
  have P1 := hid (P1.out.below J.out P1.out.lt)
  have K := hid (K.out.trans (J.out.mono K.out.size))
  clear J b1
  have hx := size_le1280 Sx.out VA.out.lt
  have hy := size_le1280 Sy.out VB.out.lt
  have a1 := P0.out.c1
  have a2 := P0.out.c2
  have b1 := P1.out.c1
  have b2 := P1.out.c2
  by_cases he : (x : Int) - (X : Int) = (y : Int) - (Y : Int)
  · obtain ⟨E, hE⟩ : ∃ E : Nat, E = max X Y := ⟨_, rfl⟩
    have hmax : max (X : Int) (Y : Int) = (E : Int) := by omega
    have hXE : X ≤ E := by omega
    have hYE : Y ≤ E := by omega
    have hE4 : E ≤ 1024 := by omega
    have hp : V * tp (E - X) < pw 40 ∧ U * tp (E - Y) < pw 40 := by
      rcases Nat.le_total X Y with h | h
      · obtain rfl : E = Y := by omega
        refine ⟨fits_shift Sx.out Sy.out VB.out.lt h he, ?_⟩
        rw [Nat.sub_self, tp_zero, Nat.mul_one]
        exact VB.out.lt
      · obtain rfl : E = X := by omega
        refine ⟨?_, fits_shift Sy.out Sx.out VA.out.lt h he.symm⟩
        rw [Nat.sub_self, tp_zero, Nat.mul_one]
        exact VA.out.lt
    have C1 := left_val (VA.out.below K.out) (E - X) (by omega)
    rw [over_ok hp.1, show ((E - X : Nat) : Int) = (E : Int) - (X : Int) by omega] at C1
    have C1 := hid C1
    have Hp := hid hp
    have Hsc := hid (scale_cmp (V := V) (U := U) hXE hYE (by omega : E ≤ 4000))
    clear hp hE
    go_wp2_with fail
    refine C1.out.mono ?_
    rintro e w3 ⟨v3, er, rfl, ⟨rfl⟩, Hn3, J⟩
    obtain ⟨A3, n3, d3, rfl⟩ := Hn3.out.shape
    have P1 := hid (P1.out.below J.out P1.out.lt)
    have K := hid (K.out.trans (J.out.mono K.out.size))
    have C2 := left_val (VB.out.below K.out) (E - Y) (by omega)
    rw [over_ok Hp.out.2, show ((E - Y : Nat) : Int) = (E : Int) - (Y : Int) by omega] at C2
    have C2 := hid C2
    clear J a1 a2 b1 b2 C1 P0
    have b1 := P1.out.c1
    have b2 := P1.out.c2
    go_wp2_with fail
    refine C2.out.mono ?_
    rintro e w4 ⟨v4, er, rfl, ⟨rfl⟩, Hn4, J⟩
    obtain ⟨A4, n4, d4, rfl⟩ := Hn4.out.shape
    have C3 := dcmp_val (Hn3.out.val.below J.out) Hn4.out.val
    rw [resV_ok rfl, resV_ok rfl, Hsc.out, ← Hr.out] at C3
    have C3 := hid C3
    have K := hid (K.out.trans (J.out.mono K.out.size))
    clear J C2 b1 b2 Hn3 Hn4 P1
    go_wp2_with fail
    refine C3.out.mono ?_
    rintro e w5 ⟨rfl, J⟩
    have K := hid (K.out.trans (J.mono K.out.size))
    clear J C3
    go_wp2
    go_ret
    exact ⟨rfl, K⟩
  · have he2 : (((x : Int) - (X : Int)) == ((y : Int) - (Y : Int))) = false := by simp [he]
    have hr2 : cmpI ((x : Int) - (X : Int)) ((y : Int) - (Y : Int)) = r := by
      rw [Hr.out]
      rcases H0.out with ⟨rfl, rfl, rfl, rfl⟩ | ⟨hV, hU⟩
      · have e1 := size_zero Sx.out
        have e2 := size_zero Sy.out
        subst e1 e2
        exact absurd rfl he
      · rcases Int.lt_trichotomy ((x : Int) - (X : Int)) ((y : Int) - (Y : Int)) with h | h | h
        · rw [cmpI_lt h, cmpN_lt (size_less Sx.out Sy.out (by omega) (by omega) hU h)]
        · exact absurd h he
        · rw [cmpI_gt h, cmpN_gt (size_less Sy.out Sx.out (by omega) (by omega) hV h)]
    have Hr2 := hid hr2
    have He := hid he
    clear he hr2
    go_wp2_with fail
    refine (compare_int _ _ _).mono ?_
    rintro e w3 ⟨rfl, J⟩
    rw [Hr2.out]
    have K := hid (K.out.trans (J.out.mono K.out.size))
    clear J
    go_wp2
    go_ret
    exact ⟨rfl, K⟩
end

/-- The sides tell how two numbers of different sides stand. -/
theorem side_cmp {s t : Bool} {V U X Y n k : Nat} (hn : V = 0 ↔ n = 0) (hk : U = 0 ↔ k = 0) (hs : V = 0 → s = false) (ht : U = 0 → t = false) (hne : sideI s n ≠ sideI t k) : cmpI (sideI s n) (sideI t k) = cmpI (dv s V X) (dv t U Y) := by
  have hp : ∀ W Z : Nat, (W = 0 ∧ W * tp (4000 - Z) = 0) ∨ (0 < W ∧ 0 < W * tp (4000 - Z)) := fun W Z => by
    rcases Nat.eq_zero_or_pos W with h | h
    · exact .inl ⟨h, by rw [h, Nat.zero_mul]⟩
    · exact .inr ⟨h, Nat.mul_pos h (tp_pos _)⟩
  unfold dv
  have h1 := hp V X
  have h2 := hp U Y
  generalize V * tp (4000 - X) = a at *
  generalize U * tp (4000 - Y) = b at *
  have key : (sideI s n < sideI t k ∧ num s a < num t b) ∨ (sideI t k < sideI s n ∧ num t b < num s a) := by
    cases s <;> cases t <;> simp [sideI, num] at hne hs ht ⊢
    · by_cases hn0 : n = 0 <;> by_cases hk0 : k = 0 <;> simp [hn0, hk0] at hne hn hk ⊢ <;> (try rw [if_pos (by omega)]) <;> omega
    · right
      split <;> omega
    · left
      split <;> omega
  rcases key with ⟨h, h2⟩ | ⟨h, h2⟩
  · rw [cmpI_lt h, cmpI_lt h2]
  · rw [cmpI_gt h, cmpI_gt h2]
theorem same_side {s t : Bool} {n k : Nat} (hn : n = 0 → s = false) (hk : k = 0 → t = false) (h : sideI s n = sideI t k) : s = t ∧ (n = 0 ↔ k = 0) := by
  cases s <;> cases t <;> simp [sideI] at h hn hk ⊢
  · by_cases h1 : n = 0 <;> by_cases h2 : k = 0 <;> simp [h1, h2] at h ⊢ <;> (try omega)
    all_goals (first | rw [if_pos (by omega)] at h | skip)
    all_goals (first | cases h | omega)
  · split at h <;> cases h
  · split at h <;> cases h
  · omega
theorem neg_cmp (a b : Nat) : cmpI (-(a : Int)) (-(b : Int)) = cmpN b a := by
  rw [← cmpI_nat]
  unfold cmpI
  by_cases h : b < a
  · rw [if_pos (by omega), if_pos (by omega)]
  · by_cases h2 : a = b
    · rw [if_neg (by omega), if_pos (by omega), if_neg (by omega), if_pos (by omega)]
    · rw [if_neg (by omega), if_neg (by omega), if_neg (by omega), if_neg (by omega)]

end Go.Proofs.YtjppogmhibmebaaDoor
