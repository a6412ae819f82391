/- The statement LimbNames, walked: it returns true. -/
import Derived.Test.YtgjlifjkikojjaaDoorArg
namespace Go.Proofs.YtgjlifjkikojjaaDoor
open Go.RowKit

theorem vl_max : ∀ k, vl (fun _ => 4294967295) k + 1 = pw k
  | 0 => rfl
  | k + 1 => by
    have h := vl_max k
    rw [vl_succ, pw_succ]
    omega

/-- An error is handed back beside no limbs. -/
def Fails (w : World) (er : Int) (e : Ending) (w' : World) : Prop := ∃ v, e = .returned (.tuple #[v, .int .i64 er]) ∧ Below w.heap.size w w'
/-- Limbs and OK are handed back. -/
def Gives (w : World) (V : Nat) (e : Ending) (w' : World) : Prop := ∃ v, e = .returned (.tuple #[v, .int .i64 0]) ∧ Val w' V v ∧ Below w.heap.size w w'

theorem two_lt (k : Nat) (h : k ≤ 1279) : Int.toNat 1 * 2 ^ k < pw 40 := by
  rw [show Int.toNat 1 = 1 from rfl, Nat.one_mul]
  have a : 2 ^ k < 2 ^ (k + 1) := Nat.pow_lt_pow_right (by omega) (by omega)
  have b : 2 ^ (k + 1) ≤ pw 40 := le_pw40 (by omega)
  omega
theorem overErr_ge {V : Nat} (h : pw 40 ≤ V) : overErr V = 10 := if_neg (by omega)
section
variable {V U : Nat} {w : World} {v1 v2 : Value}
theorem add_over (h1 : Val w V v1) (h2 : Val w U v2) (h : pw 40 ≤ V + U) : Calls Tryd.prog 8 #[v1, v2] w (Fails w 10) := by
  refine (add_arg h1.arg h2.arg).mono ?_
  rintro e w' ⟨v, er, rfl, E, _, hb⟩
  rw [E.out.1 ⟨trivial, trivial⟩, overErr_ge h]
  exact ⟨v, rfl, hb.out⟩
theorem mul_over (h1 : Val w V v1) (h2 : Val w U v2) (h : pw 40 ≤ V * U) : Calls Tryd.prog 10 #[v1, v2] w (Fails w 10) := by
  refine (mul_arg h1.arg h2.arg).mono ?_
  rintro e w' ⟨v, er, rfl, E, _, hb⟩
  rw [E.out.1 ⟨trivial, trivial⟩, overErr_ge h]
  exact ⟨v, rfl, hb.out⟩
theorem left_over (h1 : Val w 1 v1) (k : Int) (h0 : 1280 ≤ k) (hk : k ≤ 9223372036854775807) : Calls Tryd.prog 11 #[v1, .int .i64 k] w (Fails w 10) := by
  refine (left_arg h1.arg k hk).mono ?_
  rintro e w' ⟨v, er, rfl, E, _, hb⟩
  rw [E.out.1 trivial (by omega), Nat.one_mul, overErr_ge (pw40_le (by omega))]
  exact ⟨v, rfl, hb.out⟩
theorem left_below (h1 : Val w V v1) (k : Int) (h0 : k < 0) : Calls Tryd.prog 11 #[v1, .int .i64 k] w (Fails w 2) := by
  refine (left_arg h1.arg k (by omega)).mono ?_
  rintro e w' ⟨v, er, rfl, E, _, hb⟩
  rw [E.out.2.1 trivial h0]
  exact ⟨v, rfl, hb.out⟩
theorem left_gives (h1 : Val w V v1) (k : Nat) (hk : k ≤ 9223372036854775807) (h : V * 2 ^ k < pw 40) : Calls Tryd.prog 11 #[v1, .int .i64 (k : Int)] w (Gives w (V * 2 ^ k)) := by
  refine (left_arg h1.arg (k : Int) (by omega)).mono ?_
  rintro e w' ⟨v, er, rfl, E, hv, hb⟩
  have he := E.out.1 trivial (by omega)
  rw [Int.toNat_natCast] at he hv
  rw [show overErr (V * 2 ^ k) = 0 from if_pos h] at he
  subst he
  have hv := hv.out
  rw [resV_ok rfl] at hv
  exact ⟨v, rfl, hv, hb.out⟩
theorem left_zero (h1 : Val w 0 v1) (k : Int) (h0 : 0 ≤ k) (hk : k ≤ 9223372036854775807) : Calls Tryd.prog 11 #[v1, .int .i64 k] w (Gives w 0) := by
  obtain ⟨k, rfl⟩ := Int.eq_ofNat_of_zero_le h0
  refine (left_gives h1 k (by omega) (by rw [Nat.zero_mul]; exact pw_pos 40)).mono ?_
  intro e w' hg
  rwa [Nat.zero_mul] at hg
theorem right_zero (h1 : Val w V v1) (k : Int) (h0 : 1280 ≤ k) (hk : k ≤ 9223372036854775807) : Calls Tryd.prog 12 #[v1, .int .i64 k] w (Gives w 0) := by
  refine (right_arg h1.arg k hk).mono ?_
  rintro e w' ⟨v, er, rfl, E, hv, hb⟩
  have he := E.out.1 trivial (by omega)
  subst he
  have hv := hv.out
  have hlt : V < 2 ^ k.toNat := Nat.lt_of_lt_of_le h1.lt (pw40_le (by omega))
  rw [resV_ok rfl, Nat.div_eq_of_lt hlt] at hv
  exact ⟨v, rfl, hv, hb.out⟩
theorem sub_sign (h1 : Val w V v1) (h2 : Val w U v2) (h : V < U) : Calls Tryd.prog 13 #[v1, v2] w (Fails w 11) := by
  obtain ⟨A, k, c, f, rfl, hr, hf, rfl⟩ := h1
  obtain ⟨D, m, d, g, rfl, hs, hg, rfl⟩ := h2
  refine (sub_any hr hs).mono ?_
  rintro e w' ⟨hb, v, rfl, _, _⟩
  rw [show subErr k f m g = 11 by unfold subErr; rw [if_pos ⟨hf, hg⟩, if_pos h]]
  exact ⟨v, rfl, hb⟩
theorem div_nil (h1 : Val w V v1) : Calls Tryd.prog 14 #[v1, .slice none 0 0] w fun e w' => ∃ a b, e = .returned (.tuple #[a, b, .int .i64 2]) ∧ Below w.heap.size w w' := by
  obtain ⟨A, k, c, f, rfl, hr, hf, rfl⟩ := h1
  refine (div_any hr (Rd.nil w _)).mono ?_
  rintro e w' ⟨hb, a, b, rfl, _, _⟩
  rw [show divErr k f 0 (fun _ => 0) = 2 by unfold divErr; rw [if_pos ⟨hf, ⟨by omega, fun h => absurd h (by omega)⟩⟩, if_pos rfl]]
  exact ⟨a, b, rfl, hb⟩
theorem is_zero {w : World} {v : Value} (h : Val w 0 v) : Calls Tryd.prog 19 #[v, .int .i64 0, .slice none 0 0] w fun e w' => e = .returned (.bool true) ∧ Below w.heap.size w w' := by
  obtain ⟨A, k, c, f, rfl, hr, hf, he⟩ := h
  exact is_true hr (Rd.nil w w.heap.size) hf.2 (fun h => absurd h (by omega)) (by rw [he]; rfl)
end

/-- Limbs 0, and limbs 1, 0, may not be. -/
theorem bad_0 (w : World) : Arg (w.alloc (.cells #[.int .u32 0] 23)) False 0 (.slice (some ⟨w.heap.size, 0, none⟩) 1 1) := by
  have hb := (Blk.one w 23 0).rd (B := w.heap.size + 1) (by omega) (by omega) (fun j => by
    show (if j = 0 then 0 else 0) < _
    split <;> omega) (fun j _ => by show (if j = 0 then 0 else 0) = 0; split <;> rfl)
  exact ⟨_, _, _, _, rfl, hb.mono (by simp), ⟨fun h => h.elim, fun h => absurd (h.2 (by omega)) (by simp)⟩, by simp [vl]⟩
theorem bad_10 (w : World) : Arg (w.alloc (.cells #[.int .u32 1, .int .u32 0] 23)) False 1 (.slice (some ⟨w.heap.size, 0, none⟩) 2 2) := by
  have hb := (Blk.two w 23 1 0).rd (B := w.heap.size + 1) (by omega) (by omega) (fun j => by
    show (if j = 0 then 1 else if j = 1 then 0 else 0) < _
    split
    · omega
    · split <;> omega) (fun j hj => by show (if j = 0 then 1 else if j = 1 then 0 else 0) = 0; rw [if_neg (by omega), if_neg (by omega)])
  exact ⟨_, _, _, _, rfl, hb.mono (by simp), ⟨fun h => h.elim, fun h => absurd (h.2 (by omega)) (by simp)⟩, by simp [vl, pw]⟩
theorem bad_41 (w : World) : Arg (w.alloc (.cells (madeCells #[.int .u32 0] 41) 23)) False 0 (.slice (some ⟨w.heap.size, 0, none⟩) 41 41) := by
  have hb := (Blk.zeros w 23 41).rd (B := w.heap.size + 1) (by omega) (by omega) (fun _ => (by decide : 0 < 4294967296)) (fun _ _ => rfl)
  refine ⟨_, _, _, _, rfl, hb.mono (by simp), ⟨fun h => h.elim, fun h => absurd h.1 (by omega)⟩, ?_⟩
  rw [vl_above (k := 0) (Nat.zero_le _) (fun _ _ _ => rfl)]
  rfl

theorem cmp_bad {w : World} {v : Value} {V : Nat} (h : Arg w False V v) : Calls Tryd.prog 15 #[v, .slice none 0 0] w fun e w' => e = .returned (.tuple #[.int .i64 0, .int .i64 8]) ∧ Below w.heap.size w w' := by
  obtain ⟨A, k, c, f, rfl, hr, hf, he⟩ := h
  refine (cmp_any hr (Rd.nil w _)).mono ?_
  rintro e w' ⟨rfl, hb⟩
  rw [show cmpRes k f 0 (fun _ => 0) = 0 from if_neg (fun h => hf.2 h.1), show cmpErr k f 0 (fun _ => 0) = 8 from if_neg (fun h => hf.2 h.1)]
  exact ⟨rfl, hb⟩

/-- Limbs of 2^1279: 40 of them, and the last one is 2^31. -/
theorem top_bit {w : World} {v : Value} {p : Nat} (hp : p = 1279) (h : Val w (Int.toNat 1 * 2 ^ p) v) : ∃ A c b off, v = .slice A 40 c ∧ 40 ≤ c ∧ c ≤ 140737488355328 ∧ A = some ⟨b, off, none⟩ ∧ w.cell? ⟨b, off + 39, none⟩ = some (.int .u32 2147483648) := by
  rw [show Int.toNat 1 = 1 from rfl, Nat.one_mul] at h
  obtain ⟨A, k, c, f, rfl, hr, hf, he⟩ := h
  have e1 : vl (fun j => if j = 39 then 2147483648 else (fun _ => 0) j) 40 = 2 ^ p := by
    rw [vl_put (fun _ => 0) 39 2147483648, vl_above (k := 0) (Nat.zero_le _) (fun _ _ _ => rfl), pow_split (k := p) (q := 39) (p := 31) (by omega)]
    simp [vl]
  have hs := same_of_vl (f := f) (g := fun j => if j = 39 then 2147483648 else (fun _ => 0) j) (n := k) (m := 40) hr.lt (fun j => by
    show (if j = 39 then 2147483648 else 0) < _
    split <;> omega) hr.out (fun j hj => if_neg (by omega)) hf.2 (fun _ => by simp) (by rw [he, e1])
  obtain ⟨rfl, hj⟩ := hs
  obtain ⟨b, off, rfl, _, hc⟩ := hr.at_ (by omega)
  have h39 := hc 39 (by omega)
  rw [show f 39 = 2147483648 by rw [hj 39]; rfl] at h39
  exact ⟨_, c, b, off, rfl, hr.cap, hr.max, rfl, h39⟩

set_option maxHeartbeats 12800000 in
set_option maxRecDepth 1000000 in
theorem names_walk {w : World} (hT : Tab w) : Calls Tryd.prog 3 #[] w (Alive w) := by
  have HT := hid hT
  have hmk : ∀ w, (Instr.makeSlice 22 (.int .i64 40) (.int .i64 40)).run Tryd.prog w = .ok (.slice (some ⟨w.heap.size, 0, none⟩) 40 40) (w.alloc (.cells (madeCells #[.int .u32 0] 40) 23)) := fun w => make_u32 40 (by omega) w
  clear hT
  go_enter Tryd.func3, Tryd.ntmps3
  go_wp2_with fail
  clear hmk
  go_loopw [2] (fun i wr => ∃ k : Nat, k ≤ 40 ∧ i = .int .i64 k ∧ Blk wr 23 w.heap.size 40 (fun j => if j < k then 4294967295 else 0) ∧ Below w.heap.size w wr) (fun i _ => 40 - (intOf i).toNat)
  case atStart => exact ⟨0, by omega, rfl, (Blk.zeros w 23 40).congr (fun j _ => (if_neg (by omega)).symm), (Below.refl _ _).alloc (Nat.le_refl _) _⟩
  case round =>
    obtain ⟨k, hk, rfl, hblk, hbel⟩ := hrel
    by_cases hk40 : k < 40
    · have xb := hblk.cell hk40
      have xg := hblk.frozen k
      have Hblk := hid hblk
      have Hbel := hid hbel
      clear hblk hbel
      generalize (if k < k then 4294967295 else 0) = zc at *
      go_wp2_with fail
      go_roundw
      case rel => exact ⟨k + 1, by omega, by go_num, (Hblk.out.set k 4294967295).congr (fun j hj => by
        show (if j = k then 4294967295 else if j < k then 4294967295 else 0) = if j < k + 1 then 4294967295 else 0
        by_cases h1 : j = k
        · rw [if_pos h1, if_pos (by omega)]
        · rw [if_neg h1]
          by_cases h2 : j < k
          · rw [if_pos h2, if_pos (by omega)]
          · rw [if_neg h2, if_neg (by omega)]), Hbel.out.setCell (p := ⟨w.heap.size, k, none⟩) (Nat.le_refl _) _⟩
      case measure => simp [intOf]; omega
    · obtain rfl : k = 40 := by omega
      have hz : ∀ j, (fun j => if j < 40 then 4294967295 else 0) j < 4294967296 := fun j => by
        show (if j < 40 then 4294967295 else 0) < _
        split <;> omega
      have hrd := hblk.rd (B := wr.heap.size) hblk.lt (by omega) hz (fun j hj => if_neg (by omega))
      have hv := hrd.val (Nat.le_refl _) ⟨by omega, fun _ => by simp⟩
      have hvv : vl (fun j => if j < 40 then 4294967295 else 0) 40 + 1 = pw 40 := by
        rw [vl_congr (g := fun _ => 4294967295) (fun j hj => if_pos hj)]
        exact vl_max 40
      generalize vl (fun j => if j < 40 then 4294967295 else 0) 40 = M at *
      have Vt := hid hv
      have HM := hid hvv
      have B0 := hid hbel
      clear hblk hbel hz hrd hv hvv
      go_wp2_with fail
      refine (of_int 1 (by omega) (by omega) _).mono ?_
      rintro e w1 ⟨v1, rfl, hn1, hb1⟩
      have Vt := hid (Vt.out.below hb1)
      have B1 := hid (B0.out.trans (hb1.mono B0.out.size))
      have N1 := hid hn1.val
      clear hb1 B0
      go_wp2_with fail
      refine (add_over Vt.out N1.out (by have := HM.out; have e : (Int.toNat 1) = 1 := rfl; omega)).mono ?_
      rintro e w2 ⟨x1, rfl, hb2⟩
      have Vt := hid (Vt.out.below hb2)
      have B2 := hid (B1.out.trans (hb2.mono B1.out.size))
      clear hb2 B1 N1
      go_wp2_with fail
      refine (of_int 2 (by omega) (by omega) _).mono ?_
      rintro e w3 ⟨v2, rfl, hn2, hb3⟩
      have Vt := hid (Vt.out.below hb3)
      have B3 := hid (B2.out.trans (hb3.mono B2.out.size))
      have N2 := hid hn2.val
      clear hb3 B2
      go_wp2_with fail
      refine (mul_over Vt.out N2.out (by have := HM.out; have e : (Int.toNat 2) = 2 := rfl; have p := pw_mono (show 1 ≤ 40 by omega); have q : pw 1 = 4294967296 := rfl; rw [e]; omega)).mono ?_
      rintro e w4 ⟨x2, rfl, hb4⟩
      have Vt := hid (Vt.out.below hb4)
      have B4 := hid (B3.out.trans (hb4.mono B3.out.size))
      clear hb4 B3 N2
      go_wp2_with fail
      refine (of_int 1 (by omega) (by omega) _).mono ?_
      rintro e w5 ⟨v3, rfl, hn3, hb5⟩
      have Vt := hid (Vt.out.below hb5)
      have B5 := hid (B4.out.trans (hb5.mono B4.out.size))
      have N3 := hid hn3.val
      clear hb5 B4
      go_wp2_with fail
      refine (left_over N3.out _ (by omega) (by omega)).mono ?_
      rintro e w6 ⟨x3, rfl, hb6⟩
      have Vt := hid (Vt.out.below hb6)
      have B6 := hid (B5.out.trans (hb6.mono B5.out.size))
      clear hb6 B5 N3
      go_wp2_with fail
      refine (of_int 1 (by omega) (by omega) _).mono ?_
      rintro e w7 ⟨v4, rfl, hn4, hb7⟩
      have Vt := hid (Vt.out.below hb7)
      have B7 := hid (B6.out.trans (hb7.mono B6.out.size))
      have N4 := hid hn4.val
      clear hb7 B6
      go_wp2_with fail
      refine (left_gives N4.out 1279 (by omega) (two_lt 1279 (by omega))).mono ?_
      rintro e w8 ⟨x4, rfl, hx4, hb8⟩
      have Vt := hid (Vt.out.below hb8)
      have B8 := hid (B7.out.trans (hb8.mono B7.out.size))
      have Va := hid hx4
      clear hb8 B7 N4
      go_wp2_with fail
      refine (of_int 1 (by omega) (by omega) _).mono ?_
      rintro e w9 ⟨v5, rfl, hn5, hb9⟩
      have Vt := hid (Vt.out.below hb9)
      have Va := hid (Va.out.below hb9)
      have B9 := hid (B8.out.trans (hb9.mono B8.out.size))
      have N5 := hid hn5.val
      clear hb9 B8
      go_wp2_with fail
      refine (left_below N5.out _ (by omega)).mono ?_
      rintro e w10 ⟨x5, rfl, hb10⟩
      have Vt := hid (Vt.out.below hb10)
      have Va := hid (Va.out.below hb10)
      have B10 := hid (B9.out.trans (hb10.mono B9.out.size))
      clear hb10 B9 N5
      go_wp2_with fail
      refine (left_zero (Val.nil _) _ (by omega) (by omega)).mono ?_
      rintro e w11 ⟨x6, rfl, hx6, hb11⟩
      have Vt := hid (Vt.out.below hb11)
      have Va := hid (Va.out.below hb11)
      have B11 := hid (B10.out.trans (hb11.mono B10.out.size))
      have Vb := hid hx6
      clear hb11 B10
      go_wp2_with fail
      refine (right_zero Vt.out _ (by omega) (by omega)).mono ?_
      rintro e w12 ⟨x7, rfl, hx7, hb12⟩
      have Vt := hid (Vt.out.below hb12)
      have Va := hid (Va.out.below hb12)
      have Vb := hid (Vb.out.below hb12)
      have B12 := hid (B11.out.trans (hb12.mono B11.out.size))
      have Vc := hid hx7
      clear hb12 B11
      go_wp2_with fail
      refine (of_int 1 (by omega) (by omega) _).mono ?_
      rintro e w13 ⟨v6, rfl, hn6, hb13⟩
      have Vt := hid (Vt.out.below hb13)
      have Va := hid (Va.out.below hb13)
      have Vb := hid (Vb.out.below hb13)
      have Vc := hid (Vc.out.below hb13)
      have B13 := hid (B12.out.trans (hb13.mono B12.out.size))
      have N6 := hid hn6.val
      clear hb13 B12
      go_wp2_with fail
      refine (of_int 2 (by omega) (by omega) _).mono ?_
      rintro e w14 ⟨v7, rfl, hn7, hb14⟩
      have Vt := hid (Vt.out.below hb14)
      have Va := hid (Va.out.below hb14)
      have Vb := hid (Vb.out.below hb14)
      have Vc := hid (Vc.out.below hb14)
      have N6 := hid (N6.out.below hb14)
      have B14 := hid (B13.out.trans (hb14.mono B13.out.size))
      have N7 := hid hn7.val
      clear hb14 B13
      go_wp2_with fail
      refine (sub_sign N6.out N7.out (by decide)).mono ?_
      rintro e w15 ⟨x8, rfl, hb15⟩
      have Vt := hid (Vt.out.below hb15)
      have Va := hid (Va.out.below hb15)
      have Vb := hid (Vb.out.below hb15)
      have Vc := hid (Vc.out.below hb15)
      have B15 := hid (B14.out.trans (hb15.mono B14.out.size))
      clear hb15 B14 N6 N7
      go_wp2_with fail
      refine (div_nil Vt.out).mono ?_
      rintro e w16 ⟨x9, x10, rfl, hb16⟩
      have Va := hid (Va.out.below hb16)
      have Vb := hid (Vb.out.below hb16)
      have Vc := hid (Vc.out.below hb16)
      have B16 := hid (B15.out.trans (hb16.mono B15.out.size))
      clear hb16 B15 Vt
      go_wp2_with fail
      have bel := Below.refl w16.heap.size w16
      have bel2 := bel.alloc (Nat.le_refl _) (.cells #[.int .u32 0] 23)
      refine (cmp_bad (bad_0 w16)).mono ?_
      rintro e w17 ⟨rfl, hb0⟩
      have hb17 := bel2.trans (hb0.mono (by simp))
      have Va := hid (Va.out.below hb17)
      have Vb := hid (Vb.out.below hb17)
      have Vc := hid (Vc.out.below hb17)
      have B17 := hid (B16.out.trans (hb17.mono B16.out.size))
      clear hb17 hb0 bel bel2 B16
      have hmk : ∀ w, (Instr.makeSlice 22 (.int .i64 41) (.int .i64 41)).run Tryd.prog w = .ok (.slice (some ⟨w.heap.size, 0, none⟩) 41 41) (w.alloc (.cells (madeCells #[.int .u32 0] 41) 23)) := fun w => make_u32 41 (by omega) w
      go_wp2_with fail
      clear hmk
      have bel := Below.refl w17.heap.size w17
      have bel2 := bel.alloc (Nat.le_refl _) (.cells (madeCells #[.int .u32 0] 41) 23)
      refine (bits_arg (bad_41 w17)).mono ?_
      rintro e w18 ⟨s, es, rfl, Es, hb0⟩
      obtain ⟨rfl, rfl⟩ := Es.out.2 (fun h => h)
      have hb18 := bel2.trans (hb0.out.mono (by simp))
      have Va := hid (Va.out.below hb18)
      have Vb := hid (Vb.out.below hb18)
      have Vc := hid (Vc.out.below hb18)
      have B18 := hid (B17.out.trans (hb18.mono B17.out.size))
      clear hb18 hb0 bel bel2 Es B17
      go_wp2_with fail
      refine (low_num (Val.nil _) (HT.out.below B18.out HT.out.lt)).mono ?_
      rintro e w19 ⟨kl, rfl, hkl, hb19⟩
      have Va := hid (Va.out.below hb19)
      have Vb := hid (Vb.out.below hb19)
      have Vc := hid (Vc.out.below hb19)
      have B19 := hid (B18.out.trans (hb19.mono B18.out.size))
      have Hkl := hid (show kl = 0 by rcases hkl with ⟨_, h⟩ | ⟨m, h⟩; exact h; exact absurd h (by have := Nat.pow_pos (n := kl) (show 0 < 2 by omega); exact fun h => absurd (Nat.mul_eq_zero.1 h.symm) (by omega)))
      clear hb19 B18
      have hkl0 := Hkl.out
      subst hkl0
      go_wp2_with fail
      refine (alive_any (HT.out.below B19.out HT.out.lt)).mono ?_
      rintro e w20 ⟨rfl, hb20⟩
      have Va := hid (Va.out.below hb20)
      have Vb := hid (Vb.out.below hb20)
      have Vc := hid (Vc.out.below hb20)
      have B20 := hid (B19.out.trans (hb20.mono B19.out.size))
      clear hb20 B19
      obtain ⟨Aa, ca, ba, offa, rfl, hca, hcm, rfl, xa⟩ := top_bit rfl Va.out
      clear Va
      go_wp2_with fail
      clear xa
      refine (is_zero Vb.out).mono ?_
      rintro e w21 ⟨rfl, hb21⟩
      have Vc := hid (Vc.out.below hb21)
      have B21 := hid (B20.out.trans (hb21.mono B20.out.size))
      clear hb21 B20 Vb
      go_wp2_with fail
      refine (is_zero Vc.out).mono ?_
      rintro e w22 ⟨rfl, hb22⟩
      have B22 := hid (B21.out.trans (hb22.mono B21.out.size))
      clear hb22 B21 Vc
      go_wp2_with fail
      have bel := Below.refl w22.heap.size w22
      have bel2 := bel.alloc (Nat.le_refl _) (.cells #[.int .u32 1, .int .u32 0] 23)
      refine (check_arg (bad_10 w22)).mono ?_
      rintro e w' ⟨er, rfl, Er, rfl⟩
      have he := Er.out.2 (fun h => h)
      subst he
      have BZ := hid (B22.out.trans (bel2.mono B22.out.size))
      clear bel bel2 Er
      go_wp2_with fail
      refine (check_arg (Val.nil _).arg).mono ?_
      rintro e w' ⟨er, rfl, Er, rfl⟩
      have he := Er.out.1 trivial
      subst he
      clear Er
      go_wp2
      go_ret
      exact ⟨rfl, BZ.out⟩

end Go.Proofs.YtgjlifjkikojjaaDoor
