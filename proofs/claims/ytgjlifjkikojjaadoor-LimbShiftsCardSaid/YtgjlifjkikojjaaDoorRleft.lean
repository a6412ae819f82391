/- The reference's Over2, told, Left, Right, Bits, Low. -/
import Derived.Test.YtgjlifjkikojjaaDoorRshift
import Derived.Test.YtgjlifjkikojjaaDoorLeft
namespace Go.Proofs.YtgjlifjkikojjaaDoor
open Go.RowKit

set_option maxHeartbeats 800000 in
theorem over2_out (A : Option Addr) (n c : Nat) (k : Int) (w : World) (hk : (n : Int) ≤ k) (_hk2 : k ≤ 9223372036854775807) :
    Calls Tryd.prog 45 #[.slice A n c, .int .i64 k] w fun e w' => e = .returned (.slice none 0 0) ∧ w = w' := by
  go_enter Tryd.func45, Tryd.ntmps45
  go_wp2
  go_ret
  exact ⟨rfl, rfl⟩

set_option maxHeartbeats 800000 in
theorem over2_in {w : World} {V n c k : Nat} {A : Option Addr} (hx : Bits w w.heap.size A n c V) (hl : 0 < n → tw (n - 1) ≤ V) (hn : n ≤ 4000) (hk : k < n) :
    Calls Tryd.prog 45 #[.slice A n c, .int .i64 (k : Int)] w fun e w' => ∃ v, e = .returned v ∧ Below w.heap.size w w' ∧ Bt w' w'.heap.size (V / tw k) v := by
  obtain ⟨b, off, rfl, hbB, hc⟩ := hx.at_ (by omega)
  have hcells := cells_of_bits (k := k) (n := n) (B := 0) (c := 0) (by omega) hc rfl rfl
  have hms := div_size hx.lt hk (hl (by omega))
  have Hcells := hid hcells
  have Hms := hid hms
  have hxc := hx.cap
  clear hx hl hcells hms hc
  go_enter Tryd.func45, Tryd.ntmps45
  go_wp2_with (at_builtin; refine wpList_append_copy rfl (.tmp 9) (.tmp 12) 62 rfl 5 (.int .u8 0) 1 Tryd.underlying62 info_u8 rfl (by decide) rfl rfl (by simp [dq]) (fun h => by cases h) Hcells.out (dq_one _ _ _) (by omega) ?_; intro v' w' hown' hbel')
  go_ret
  have h := hown'.out
  rw [← dg_div] at h
  obtain ⟨A1, c1, rfl, hb⟩ := Row.shape h Hms.out.1 (by omega)
  exact ⟨_, rfl, hbel'.out, _, _, _, rfl, hb, fun _ => Hms.out.2⟩

theorem Bt.len {w : World} {B V n c m : Nat} {A : Option Addr} (hl : 0 < n → tw (n - 1) ≤ V) (hV : V < tw m) (_h : Bits w B A n c V) : n ≤ m := by
  rcases Nat.lt_or_ge m n with h1 | h1
  · have a := hl (by omega)
    have b : tw m ≤ tw (n - 1) := tw_mono (by omega)
    omega
  · exact h1

theorem Over2_any {w : World} {V : Nat} {v0 : Value} (hb : Bt w w.heap.size V v0) (hV : V < pw 40) (k : Int) (h0 : 0 ≤ k) (hk : k ≤ 9223372036854775807) :
    Calls Tryd.prog 45 #[v0, .int .i64 k] w fun e w' => ∃ v, e = .returned v ∧ Below w.heap.size w w' ∧ Bt w' w'.heap.size (V / tw k.toNat) v := by
  obtain ⟨k, rfl⟩ := Int.eq_ofNat_of_zero_le h0
  rw [Int.toNat_natCast]
  obtain ⟨A, n, c, rfl, hx, hl⟩ := hb
  rw [tw_pw, show 32 * 40 = 1280 from rfl] at hV
  have hn : n ≤ 1280 := Bt.len hl hV hx
  rcases Nat.lt_or_ge k n with h1 | h1
  · exact over2_in hx hl (by omega) h1
  · refine (over2_out A n c k w (by omega) hk).mono ?_
    rintro e w' ⟨rfl, rfl⟩
    rw [Nat.div_eq_of_lt (Nat.lt_of_lt_of_le hx.lt (tw_mono h1))]
    exact ⟨_, rfl, Below.refl _ _, bt_nil _ _⟩

theorem lm_40 {n V : Nat} {h : Nat → Nat} (hlt : ∀ j, h j < 4294967296) (h1 : 0 < n → h (n - 1) ≠ 0) (hV : vl h n = V) : n ≤ 40 ↔ V < pw 40 := by
  subst hV
  constructor
  · intro hn
    exact Nat.lt_of_lt_of_le (vl_lt fun j _ => hlt j) (pw_mono hn)
  · intro hV
    rcases Nat.lt_or_ge 40 n with h2 | h2
    · have a := vl_ge (f := h) (k := n) (by omega) (h1 (by omega))
      have b : pw 40 ≤ pw (n - 1) := pw_mono (by omega)
      omega
    · exact h2

set_option maxHeartbeats 800000 in
theorem told_any {w : World} {B V : Nat} {v0 : Value} (hb : Bt w B V v0) (hB : B ≤ w.heap.size) (hV : V < tw 4000) :
    Calls Tryd.prog 41 #[v0] w (Back w (· = overErr V) V) := by
  have Cl := hid (Limbs_any hb hB hV)
  clear hb hB hV
  go_enter Tryd.func41, Tryd.ntmps41
  go_wp2_with fail
  refine Cl.out.mono ?_
  rintro e w' ⟨v, rfl, hbel, A, n, c, h, rfl, hr, hl, hv⟩
  have h40 := lm_40 hr.lt hl hv
  have Hr := hid hr
  have Hl := hid hl
  have Hv := hid hv
  have Hbel := hid hbel
  have hm := hr.max
  clear hr hl hv hbel Cl
  by_cases hn : n ≤ 40
  · have Hn := hid (h40.1 hn)
    clear h40
    go_wp2
    go_ret2
    refine ⟨_, 0, rfl, hid (if_pos Hn.out).symm, ?_, Hbel⟩
    rw [resV_ok rfl]
    exact ⟨_, _, _, _, rfl, Hr.out, ⟨hn, Hl.out⟩, Hv.out⟩
  · have Hn := hid (fun hh => hn (h40.2 hh))
    clear h40
    go_wp2
    go_ret2
    refine ⟨_, 10, rfl, hid (if_neg Hn.out).symm, ?_, Hbel⟩
    rw [resV_bad (by decide)]
    exact Val.nil _

theorem tw_40 : pw 40 = tw 1280 := tw_pw 40

set_option maxHeartbeats 1600000 in
theorem rLeft_any {A : Option Addr} {n c : Nat} {f : Nat → Nat} {w : World} (ha : Rd w w.heap.size A n c f) (h42 : n ≤ 42) (k : Int) (hk : k ≤ 9223372036854775807) :
    Calls Tryd.prog 22 #[.slice A n c, .int .i64 k] w (Back w (· = leftErr n f k) (vl f n * 2 ^ k.toNat)) := by
  have Cm := hid (May_any ha)
  by_cases hf : Fit n f
  · rw [show decide (Fit n f) = true from decide_eq_true hf] at Cm
    by_cases hk0 : k < 0
    · have hE : leftErr n f k = 2 := by unfold leftErr; rw [if_pos hf, if_pos hk0]
      have HE := hid hE
      clear ha hf hE hk
      go_enter Tryd.func22, Tryd.ntmps22
      go_wp2_with fail
      refine Cm.out.mono ?_
      rintro e w' ⟨rfl, rfl⟩
      go_wp2
      go_ret2
      exact ⟨_, 2, rfl, hid HE.out.symm, by rw [resV_bad (by decide)]; exact Val.nil _, Below.refl _ _⟩
    · obtain ⟨k, rfl⟩ := Int.eq_ofNat_of_zero_le (show 0 ≤ k by omega)
      rw [Int.toNat_natCast]
      have hE : leftErr n f k = overErr (vl f n * tw k) := by unfold leftErr; rw [if_pos hf, if_neg hk0, Int.toNat_natCast]; rfl
      show Calls _ _ _ _ (Back w _ (vl f n * tw k))
      have hV := vl_pw40 ha hf
      rcases Nat.eq_zero_or_pos n with h0 | h0
      · subst h0
        have hE0 : leftErr 0 f k = 0 := by
          rw [hE]
          unfold overErr
          rw [show vl f 0 = 0 from rfl, Nat.zero_mul, if_pos (pw_pos 40)]
        have HE := hid hE0
        clear ha hf hE hE0 hV
        go_enter Tryd.func22, Tryd.ntmps22
        go_wp2_with fail
        refine Cm.out.mono ?_
        rintro e w' ⟨rfl, rfl⟩
        go_wp2
        go_ret2
        exact ⟨_, 0, rfl, hid HE.out.symm, by rw [resV_ok rfl, show vl f 0 = 0 from rfl, Nat.zero_mul]; exact Val.nil _, Below.refl _ _⟩
      · have hne : ((n : Int) == 0) = false := by simp; omega
        by_cases hk2 : k ≤ 1280
        · have Cd := hid (Digits_any ha h42)
          have HE := hid hE
          have HV := hid hV
          clear hE hV ha
          go_enter Tryd.func22, Tryd.ntmps22
          go_wp2_with fail
          refine Cm.out.mono ?_
          rintro e w' ⟨rfl, rfl⟩
          go_wp2_with fail
          refine Cd.out.mono ?_
          rintro e w1 ⟨v1, rfl, hbel1, hb1⟩
          have Ct := hid (Times2_any hb1 HV.out k hk2)
          have Hbel1 := hid hbel1
          clear hbel1 hb1 Cd Cm
          go_wp2_with fail
          refine Ct.out.mono ?_
          rintro e w2 ⟨v2, rfl, hbel2, hb2⟩
          have hV4 : vl f n * tw k < tw 4000 := by
            refine Nat.lt_of_lt_of_le (Nat.mul_lt_mul_of_pos_right HV.out (tw_pos k)) ?_
            rw [tw_pw, ← tw_add, show 32 * 40 = 1280 from rfl]
            exact tw_mono (by omega)
          have Co := hid (told_any hb2 (Nat.le_refl _) hV4)
          have Hbel2 := hid (Hbel1.out.trans (hbel2.mono Hbel1.out.size))
          clear hbel2 hb2 Ct hV4
          go_wp2_with fail
          refine Co.out.mono ?_
          rintro e w3 ⟨v3, er, rfl, HE3, HV3, Hbel3⟩
          clear Co
          go_wp2
          go_ret2
          exact ⟨v3, er, rfl, hid (HE3.out.trans HE.out.symm), HV3, hid (Hbel2.out.trans (Hbel3.out.mono Hbel2.out.size))⟩
        · have hE2 : leftErr n f k = 10 := by
            rw [hE]
            unfold overErr
            refine if_neg ?_
            have h1 := vl_ge (f := f) (k := n) h0 (hf.2 h0)
            have h2 := pw_pos (n - 1)
            have h3 : tw 1280 ≤ tw k := tw_mono (by omega)
            have h4 : 1 * tw k ≤ vl f n * tw k := Nat.mul_le_mul_right _ (by omega)
            rw [tw_40]
            omega
          have HE := hid hE2
          clear ha hf hE hE2 hV
          go_enter Tryd.func22, Tryd.ntmps22
          go_wp2_with fail
          refine Cm.out.mono ?_
          rintro e w' ⟨rfl, rfl⟩
          go_wp2
          go_ret2
          exact ⟨_, 10, rfl, hid HE.out.symm, by rw [resV_bad (by decide)]; exact Val.nil _, Below.refl _ _⟩
  · rw [show decide (Fit n f) = false from decide_eq_false hf] at Cm
    have hE : leftErr n f k = 8 := by unfold leftErr; rw [if_neg hf]
    have HE := hid hE
    clear ha hf hE
    go_enter Tryd.func22, Tryd.ntmps22
    go_wp2_with fail
    refine Cm.out.mono ?_
    rintro e w' ⟨rfl, rfl⟩
    go_wp2
    go_ret2
    exact ⟨_, 8, rfl, hid HE.out.symm, by rw [resV_bad (by decide)]; exact Val.nil _, Below.refl _ _⟩

end Go.Proofs.YtgjlifjkikojjaaDoor
