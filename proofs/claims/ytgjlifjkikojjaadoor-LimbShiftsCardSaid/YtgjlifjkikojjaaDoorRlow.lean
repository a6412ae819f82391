/- The reference's Right, Bits, Low. -/
import Derived.Test.YtgjlifjkikojjaaDoorRleft
import Derived.Test.YtgjlifjkikojjaaDoorRight
import Derived.Test.YtgjlifjkikojjaaDoorLow
namespace Go.Proofs.YtgjlifjkikojjaaDoor
open Go.RowKit

theorem lm_val {w : World} {V : Nat} {v : Value} (h : Lm w w.heap.size V v) (hV : V < pw 40) : Val w V v := by
  obtain ⟨A, n, c, f, rfl, hr, hl, hv⟩ := h
  exact ⟨A, n, c, f, rfl, hr, ⟨(lm_40 hr.lt hl hv).2 hV, hl⟩, hv⟩
theorem Val.lm {w : World} {V : Nat} {v : Value} (h : Val w V v) : Lm w w.heap.size V v := by
  obtain ⟨A, n, c, f, rfl, hr, hf, hv⟩ := h
  exact ⟨A, n, c, f, rfl, hr, hf.2, hv⟩

set_option maxHeartbeats 1600000 in
theorem rRight_any {A : Option Addr} {n c : Nat} {f : Nat → Nat} {w : World} (ha : Rd w w.heap.size A n c f) (h42 : n ≤ 42) (k : Int) (hk : k ≤ 9223372036854775807) :
    Calls Tryd.prog 23 #[.slice A n c, .int .i64 k] w (Back w (· = rightErr n f k) (vl f n / 2 ^ k.toNat)) := by
  have Cm := hid (May_any ha)
  by_cases hf : Fit n f
  · rw [show decide (Fit n f) = true from decide_eq_true hf] at Cm
    by_cases hk0 : k < 0
    · have hE : rightErr n f k = 2 := by unfold rightErr; rw [if_pos hf, if_pos hk0]
      have HE := hid hE
      clear ha hf hE hk
      go_enter Tryd.func23, Tryd.ntmps23
      go_wp2_with fail
      refine Cm.out.mono ?_
      rintro e w' ⟨rfl, rfl⟩
      go_wp2
      go_ret2
      exact ⟨_, 2, rfl, hid HE.out.symm, by rw [resV_bad (by decide)]; exact Val.nil _, Below.refl _ _⟩
    · have hE : rightErr n f k = 0 := by unfold rightErr; rw [if_pos hf, if_neg hk0]
      have hk1 : 0 ≤ k := by omega
      show Calls _ _ _ _ (Back w _ (vl f n / tw k.toNat))
      have Cd := hid (Digits_any ha h42)
      have HE := hid hE
      have HV := hid (vl_pw40 ha hf)
      clear hE ha
      go_enter Tryd.func23, Tryd.ntmps23
      go_wp2_with fail
      refine Cm.out.mono ?_
      rintro e w' ⟨rfl, rfl⟩
      go_wp2_with fail
      refine Cd.out.mono ?_
      rintro e w1 ⟨v1, rfl, hbel1, hb1⟩
      have Ct := hid (Over2_any hb1 HV.out k hk1 hk)
      have Hbel1 := hid hbel1
      clear hbel1 hb1 Cd Cm
      go_wp2_with fail
      refine Ct.out.mono ?_
      rintro e w2 ⟨v2, rfl, hbel2, hb2⟩
      have HV2 := hid (Nat.lt_of_le_of_lt (Nat.div_le_self (vl f n) (tw k.toNat)) HV.out)
      have Co := hid (Limbs_any hb2 (Nat.le_refl _) (by
        refine Nat.lt_of_lt_of_le HV2.out ?_
        rw [tw_pw]
        exact tw_mono (by omega)))
      have Hbel2 := hid (Hbel1.out.trans (hbel2.mono Hbel1.out.size))
      clear hbel2 hb2 Ct
      go_wp2_with fail
      refine Co.out.mono ?_
      rintro e w3 ⟨v3, rfl, hbel3, hl3⟩
      have Hbel3 := hid hbel3
      have Hl3 := hid hl3
      clear Co hbel3 hl3
      go_wp2
      go_ret2
      exact ⟨v3, 0, rfl, hid HE.out.symm, hid (by rw [resV_ok rfl]; exact lm_val Hl3.out HV2.out), hid (Hbel2.out.trans (Hbel3.out.mono Hbel2.out.size))⟩
  · rw [show decide (Fit n f) = false from decide_eq_false hf] at Cm
    have hE : rightErr n f k = 8 := by unfold rightErr; rw [if_neg hf]
    have HE := hid hE
    clear ha hf hE
    go_enter Tryd.func23, Tryd.ntmps23
    go_wp2_with fail
    refine Cm.out.mono ?_
    rintro e w' ⟨rfl, rfl⟩
    go_wp2
    go_ret2
    exact ⟨_, 8, rfl, hid HE.out.symm, by rw [resV_bad (by decide)]; exact Val.nil _, Below.refl _ _⟩

set_option maxHeartbeats 1600000 in
theorem rBits_any {A : Option Addr} {n c : Nat} {f : Nat → Nat} {w : World} (ha : Rd w w.heap.size A n c f) (h42 : n ≤ 42) :
    Calls Tryd.prog 24 #[.slice A n c] w (BitsPost w n f) := by
  have Cm := hid (May_any ha)
  by_cases hf : Fit n f
  · rw [show decide (Fit n f) = true from decide_eq_true hf] at Cm
    have Cd := hid (Digits_any ha h42)
    have Hf := hid hf
    clear ha hf
    go_enter Tryd.func24, Tryd.ntmps24
    go_wp2_with fail
    refine Cm.out.mono ?_
    rintro e w' ⟨rfl, rfl⟩
    go_wp2_with fail
    refine Cd.out.mono ?_
    rintro e w1 ⟨v1, rfl, hbel1, A1, s, c1, rfl, hx, hl⟩
    have Hbel1 := hid hbel1
    have Hs := hid (show Size (vl f n) s from ⟨hx.lt, hl⟩)
    clear hbel1 hx hl Cd Cm
    go_wp2
    go_ret2
    exact ⟨Hbel1.out, s, by rw [chk_fit Hf.out]; rfl, fun _ => Hs.out, fun h => absurd Hf.out h⟩
  · rw [show decide (Fit n f) = false from decide_eq_false hf] at Cm
    have Hf := hid hf
    clear ha hf
    go_enter Tryd.func24, Tryd.ntmps24
    go_wp2_with fail
    refine Cm.out.mono ?_
    rintro e w' ⟨rfl, rfl⟩
    go_wp2
    go_ret2
    exact ⟨Below.refl _ _, 0, by rw [chk_bad Hf.out]; rfl, fun h => absurd h Hf.out, fun _ => rfl⟩

theorem mod_bits {V : Nat} : ∀ {i : Nat}, (∀ j, j < i → bt V j = 0) → V % tw i = 0
  | 0, _ => by rw [tw_zero, Nat.mod_one]
  | i + 1, h => by
    have h1 := mod_bits (i := i) (fun j hj => h j (by omega))
    have h2 := h i (by omega)
    unfold bt at h2
    rw [tw_succ, Nat.mod_mul, h1, h2, Nat.mul_zero]
theorem low_bits {V i : Nat} (h : ∀ j, j < i → bt V j = 0) (h1 : bt V i ≠ 0) : LowOf V i := by
  have hm := mod_bits h
  have hd := Nat.div_add_mod V (tw i)
  rw [hm, Nat.add_zero] at hd
  unfold bt at h1
  generalize V / tw i = q at *
  refine .inr ⟨q / 2, ?_⟩
  rw [← hd]
  show tw i * q = tw i * (2 * (q / 2) + 1)
  congr 1
  omega
theorem none_bits {V n : Nat} (hV : V < tw n) (h : ∀ j, j < n → bt V j = 0) : V = 0 := by
  have := mod_bits h
  rwa [Nat.mod_eq_of_lt hV] at this

theorem LowOf.uniq {V k j : Nat} (h : LowOf V k) (h2 : LowOf V j) : k = j := by
  have aux : ∀ {a b m l : Nat}, 2 ^ a * (2 * m + 1) = 2 ^ b * (2 * l + 1) → ¬ a < b := by
    intro a b m l he hlt
    obtain ⟨d, rfl⟩ : ∃ d, b = a + (1 + d) := ⟨b - a - 1, by omega⟩
    rw [Nat.pow_add, Nat.pow_add, Nat.mul_assoc] at he
    have he2 := Nat.eq_of_mul_eq_mul_left (Nat.pow_pos (by omega)) he
    rw [Nat.pow_one, Nat.mul_assoc] at he2
    generalize 2 ^ d * (2 * l + 1) = x at he2
    omega
  have pos : ∀ {a m : Nat}, 0 < 2 ^ a * (2 * m + 1) := Nat.mul_pos (Nat.pow_pos (by omega)) (by omega)
  rcases h with ⟨h0, rfl⟩ | ⟨m, hm⟩
  · rcases h2 with ⟨_, rfl⟩ | ⟨l, hl⟩
    · rfl
    · have := pos (a := j) (m := l)
      omega
  · rcases h2 with ⟨h0, rfl⟩ | ⟨l, hl⟩
    · have := pos (a := k) (m := m)
      omega
    · have a := aux (hm.symm.trans hl)
      have b := aux (hl.symm.trans hm)
      omega

set_option maxHeartbeats 1600000 in
theorem rLow_any {A : Option Addr} {n c : Nat} {f : Nat → Nat} {w : World} (ha : Rd w w.heap.size A n c f) (h42 : n ≤ 42) :
    Calls Tryd.prog 25 #[.slice A n c] w (LowPost w n f) := by
  have Cm := hid (May_any ha)
  by_cases hf : Fit n f
  · rw [show decide (Fit n f) = true from decide_eq_true hf] at Cm
    have Cd := hid (Digits_any ha h42)
    have Hf := hid hf
    clear ha hf
    go_enter Tryd.func25, Tryd.ntmps25
    go_wp2_with fail
    refine Cm.out.mono ?_
    rintro e w' ⟨rfl, rfl⟩
    go_wp2_with fail
    refine Cd.out.mono ?_
    rintro e w1 ⟨v1, rfl, hbel1, A1, s, c1, rfl, hx, hl⟩
    have Hbel1 := hid hbel1
    have Hx := hid hx
    have hxc := hx.cap
    have hxm := hx.max
    clear hbel1 hx hl Cd Cm
    go_wp2
    go_loop [5] (fun i => ∃ k : Nat, k ≤ s ∧ i = .int .i64 k ∧ Hid (∀ j, j < k → bt (vl f n) j = 0)) (fun i => s - (intOf i).toNat)
    case atStart => exact ⟨0, Nat.zero_le _, rfl, hid (fun j h => absurd h (by omega))⟩
    case round =>
      obtain ⟨k, hk, rfl, Hz⟩ := hrel
      by_cases hks : k < s
      · obtain ⟨b, off, rfl, hbB, hc⟩ := Hx.out.at_ (by omega)
        have xa := hc k hks
        have hb1 := bt_le (vl f n) k
        clear hc
        by_cases hb0 : bt (vl f n) k = 0
        · rw [hb0] at xa
          have Hb := hid hb0
          clear hb0 hb1
          go_wp2
          go_round
          case rel => exact ⟨k + 1, by omega, by go_num, hid (fun j hj => by
            rcases Nat.lt_or_ge j k with h | h
            · exact Hz.out j h
            · obtain rfl : j = k := by omega
              exact Hb.out)⟩
          case measure => simp [intOf]; omega
        · have hb2 : bt (vl f n) k = 1 := by omega
          rw [hb2] at xa
          have Hb := hid hb0
          clear hb0 hb1 hb2
          go_wp2
          go_ret2
          exact ⟨Hbel1.out, k, by rw [chk_fit Hf.out]; rfl, fun _ => low_bits Hz.out Hb.out, fun h => absurd Hf.out h⟩
      · obtain rfl : k = s := by omega
        go_wp2
        go_ret2
        exact ⟨Hbel1.out, 0, by rw [chk_fit Hf.out]; rfl, fun _ => .inl ⟨none_bits Hx.out.lt Hz.out, rfl⟩, fun h => absurd Hf.out h⟩
  · rw [show decide (Fit n f) = false from decide_eq_false hf] at Cm
    have Hf := hid hf
    clear ha hf
    go_enter Tryd.func25, Tryd.ntmps25
    go_wp2_with fail
    refine Cm.out.mono ?_
    rintro e w' ⟨rfl, rfl⟩
    go_wp2
    go_ret2
    exact ⟨Below.refl _ _, 0, by rw [chk_bad Hf.out]; rfl, fun h => absurd h Hf.out, fun _ => rfl⟩

/-- A call that answers limbs and an error, of the program's own. -/
theorem Ans.got {t : TypeId} {w w' : World} {er : Int} {V : Nat} {e : Ending} (h : Ans t w er V e w') : Below w.heap.size w w' ∧ ∃ v, e = .returned (.tuple #[v, .int .i64 er]) ∧ Got t w.heap.size w' er V v := by
  obtain ⟨hb, v, he, hg, hn⟩ := h
  exact ⟨hb, v, he, hg, hn⟩
theorem Got.val {t : TypeId} {B V : Nat} {w : World} {er : Int} {v : Value} (h : Got t B w er V v) : Val w (resV er V) v := by
  by_cases he : er = 0
  · rw [resV_ok he]; exact (h.1 he).val
  · rw [resV_bad he, h.2 he]; exact Val.nil w
theorem rsame_val {V : Nat} {v1 v2 : Value} {w : World} (h1 : Val w V v1) (h2 : Val w V v2) :
    Calls Tryd.prog 26 #[v1, v2] w fun e w' => e = .returned (.bool true) ∧ ∃ q, w.drewN q = w' := rsame_lm h1.lm h2.lm
theorem Size.same {V : Nat} {p : Prop} {s t : Nat} (h1 : p → Size V s) (h2 : ¬ p → s = 0) (k1 : p → Size V t) (k2 : ¬ p → t = 0) : s = t := by
  by_cases hp : p
  · exact (h1 hp).uniq (k1 hp)
  · rw [h2 hp, k2 hp]
theorem LowOf.same {V : Nat} {p : Prop} {s t : Nat} (h1 : p → LowOf V s) (h2 : ¬ p → s = 0) (k1 : p → LowOf V t) (k2 : ¬ p → t = 0) : s = t := by
  by_cases hp : p
  · exact (h1 hp).uniq (k1 hp)
  · rw [h2 hp, k2 hp]

end Go.Proofs.YtgjlifjkikojjaaDoor
