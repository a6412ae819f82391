/- The reference's Limbs: the limbs of bits. -/
import Derived.Test.YtnhnddhigbbleaaDoorRdig
namespace Go.Proofs.YtnhnddhigbbleaaDoor
open Go.RowKit

/-- A number's limbs. -/
def lb (V j : Nat) : Nat := V / pw j % 4294967296
theorem lb_lt (V j : Nat) : lb V j < 4294967296 := by unfold lb; omega
theorem lb_out {V q j : Nat} (h : V < pw q) (hj : q ≤ j) : lb V j = 0 := by
  unfold lb
  rw [Nat.div_eq_of_lt (Nat.lt_of_lt_of_le h (pw_mono hj))]
theorem vl_lb (V : Nat) : ∀ q, vl (lb V) q = V % pw q
  | 0 => by simp [vl, pw, Nat.mod_one]
  | q + 1 => by rw [vl_succ, vl_lb V q, pw_succ, Nat.mod_mul, Nat.mul_comm (pw q)]; rfl
theorem vl_lb_all {V q : Nat} (h : V < pw q) : vl (lb V) q = V := by rw [vl_lb, Nat.mod_eq_of_lt h]

theorem limb_step {V q t : Nat} (h2 : t < 32 * q + 32) : V % tw (32 * q + 32) / tw t = 2 * (V % tw (32 * q + 32) / tw (t + 1)) + bt V t := by
  obtain ⟨d, hd⟩ : ∃ d, 32 * q + 32 = t + (1 + d) := ⟨32 * q + 31 - t, by omega⟩
  rw [tw_half, hd, tw_add, Nat.mod_mul_right_div_self, tw_add, show tw 1 = 2 from rfl]
  unfold bt
  have h := Nat.mod_mul_right_mod (V / tw t) 2 (tw d)
  generalize V / tw t % (2 * tw d) = a at *
  omega
theorem limb_end (V q : Nat) : V % tw (32 * q + 32) / tw (32 * q) = lb V q := by
  rw [tw_add, Nat.mod_mul_right_div_self, ← tw_pw]
  rfl
theorem limb_lt {V q t : Nat} (h : 32 * q ≤ t) : V % tw (32 * q + 32) / tw t < 4294967296 := by
  have h1 := lb_lt V q
  rw [← limb_end] at h1
  exact Nat.lt_of_le_of_lt (Nat.div_le_div_left (tw_mono h) (tw_pos _)) h1
theorem limb_start {V n q t : Nat} (hV : V < tw n) (h : t = n ∨ t = 32 * q + 32) : V % tw (32 * q + 32) / tw t = 0 := by
  apply Nat.div_eq_of_lt
  rcases h with rfl | rfl
  · exact Nat.lt_of_le_of_lt (Nat.mod_le _ _) hV
  · exact Nat.mod_lt _ (tw_pos _)

/-- The first n limbs of V, as cells. -/
def lg (V n : Nat) : List Value := (List.range n).map fun j => Value.int .u32 (lb V j : Int)
theorem lg_succ (V n : Nat) : lg V (n + 1) = lg V n ++ [Value.int .u32 (lb V n : Int)] := by simp [lg, List.range_succ]
theorem lg_at {V n j : Nat} (h : j < n) : (lg V n)[j]? = some (.int .u32 (lb V j : Int)) := by
  simp [lg, h]

/-- What is gathered of V's limbs, in a row of the call's own. -/
def Lrow (w : World) (B V n : Nat) (v : Value) : Prop := w.ownsRow B 63 1 v n (lg V n)
theorem Lrow.nil (w : World) (B V : Nat) : Lrow w B V 0 (.slice none 0 0) := ⟨rfl, .inl ⟨rfl, rfl⟩⟩
theorem Lrow.shape {w : World} {B V n : Nat} {v : Value} (h : Lrow w B V n v) (hV : V < pw n) (hmax : n ≤ 140737488355328) : ∃ A c, v = .slice A n c ∧ Rd w w.heap.size A n c (lb V) := by
  obtain ⟨_, hor⟩ := h
  rcases hor with ⟨rfl, rfl⟩ | ⟨g, cap, cur, rfl, hg, hh, hn, hc, hs, ht⟩
  · exact ⟨none, 0, rfl, ⟨Nat.le_refl _, hmax, lb_lt V, fun j hj => lb_out hV hj, fun h => absurd h (by omega)⟩⟩
  · refine ⟨some ⟨g, 0, none⟩, cap, rfl, ⟨hn, hmax, lb_lt V, fun j hj => lb_out hV hj, fun _ => ⟨g, 0, rfl, lt_of_heap hh, fun j hj => ?_⟩⟩⟩
    rw [Nat.zero_add, cell_of_row w g j cur 63 (0, 0) hh, ← Array.getElem?_toList]
    have e := lg_at (V := V) hj
    rw [← ht, List.getElem?_take, Nat.mul_one, if_pos hj] at e
    exact e


/-- A number's limbs, however many, none that is 0 at the end. -/
def Lm (w : World) (B V : Nat) (v : Value) : Prop := ∃ A k c h, v = .slice A k c ∧ Rd w B A k c h ∧ (0 < k → h (k - 1) ≠ 0) ∧ vl h k = V

theorem Lm.below {w w' : World} {B V : Nat} {v : Value} (h : Lm w B V v) (hb : Below B w w') : Lm w' B V v := by
  obtain ⟨A, k, c, f, hv, hr, hl⟩ := h
  exact ⟨A, k, c, f, hv, hr.below hb, hl⟩
theorem Lm.mono {w : World} {B B' V : Nat} {v : Value} (h : Lm w B V v) (hb : B ≤ B') : Lm w B' V v := by
  obtain ⟨A, k, c, f, hv, hr, hl⟩ := h
  exact ⟨A, k, c, f, hv, hr.mono hb, hl⟩

theorem limbs_end {V n q : Nat} (hV : V < tw n) (hl : 0 < n → tw (n - 1) ≤ V) (h1 : n ≤ 32 * q) (h2 : 32 * q ≤ n + 31) : V < pw q ∧ (0 < q → lb V (q - 1) ≠ 0) := by
  have a : V < pw q := by
    rw [tw_pw]
    exact Nat.lt_of_lt_of_le hV (tw_mono h1)
  refine ⟨a, fun hq => ?_⟩
  obtain ⟨p, rfl⟩ : ∃ p, q = p + 1 := ⟨q - 1, by omega⟩
  have b : pw p ≤ V := by
    rw [tw_pw]
    exact Nat.le_trans (tw_mono (by omega)) (hl (by omega))
  rw [Nat.add_sub_cancel]
  unfold lb
  rw [pw_succ] at a
  have c := Nat.div_pos b (pw_pos p)
  have d : V / pw p < 4294967296 := (Nat.div_lt_iff_lt_mul (pw_pos p)).2 (by rw [Nat.mul_comm]; exact a)
  generalize V / pw p = x at *
  omega

set_option maxHeartbeats 2000000 in
theorem Limbs_bits {w : World} {B V n0 c0 : Nat} {A0 : Option Addr} (hb0 : Bits w B A0 n0 c0 V) (hB : B ≤ w.heap.size) (hV0 : V < tw 4000) :
    Calls Tryd.prog 31 #[.slice A0 n0 c0] w fun e w' => ∃ v, e = .returned v ∧ Below w.heap.size w w' ∧ Lm w' w'.heap.size V v := by
  have Cc := hid (rcut_any hb0)
  have HV0 := hid hV0
  have HB := hid hB
  clear hb0 hV0
  go_enter Tryd.func31, Tryd.ntmps31
  go_wp2_with fail
  refine Cc.out.mono ?_
  rintro e w' ⟨v1, rfl, rfl, A, n, c, rfl, hx, hl⟩
  have Hx := hid hx
  have Hl := hid hl
  have hn : n ≤ 4000 := by
    rcases Nat.eq_zero_or_pos n with h0 | h0
    · omega
    · rcases Nat.lt_or_ge 4000 n with h1 | h1
      · have a := hl h0
        have b : tw 4000 ≤ tw (n - 1) := tw_mono (by omega)
        have c := HV0.out
        omega
      · exact h1
  have hxc := hx.cap
  clear hx hl HV0 Cc
  go_wp2_with fail
  go_loopw [3, 4] (fun v i wr => ∃ q p : Nat, p ≤ n + 31 ∧ i = .int .i64 (p : Int) ∧ Hid (p = 32 * q) ∧ Hid (Lrow wr w.heap.size V q v) ∧ Hid (Below w.heap.size w wr)) (fun _ i _ => n + 32 - (intOf i).toNat)
  case atStart => exact ⟨0, 0, by omega, rfl, rfl, Lrow.nil _ _ _, Below.refl _ _⟩
  case round =>
    obtain ⟨q, p, hp, rfl, Hp, hrow, hbel⟩ := hrel
    by_cases hpn : p < n
    · obtain ⟨b, off, rfl, hbB, hc⟩ := Hx.out.at_ (by omega)
      have Hc := hid hc
      clear hc
      have hcase : ∃ T : Nat, ((n ≤ p + 32 ∧ T = n) ∨ (p + 32 < n ∧ T = p + 32)) ∧ (T = n ∨ T = 32 * q + 32) := by
        have := Hp.out
        rcases Nat.lt_or_ge (p + 32) n with h | h
        · exact ⟨p + 32, .inr ⟨h, rfl⟩, .inr (by omega)⟩
        · exact ⟨n, .inl ⟨h, rfl⟩, .inl rfl⟩
      obtain ⟨T, hT, hT2⟩ := hcase
      have HT2 := hid hT2
      have hTp : p ≤ T := by omega
      have hTn : T ≤ n := by omega
      have hTm : T ≤ p + 32 := by omega
      clear hT2
      rcases hT with ⟨hmin, HT⟩ | ⟨hmin, HT⟩
      all_goals
        have HT := hid HT
        go_wp2_with fail
        go_loopw [5, 6] (fun y t wx => ∃ t' y' : Nat, p ≤ t' ∧ t' ≤ T ∧ t = .int .i64 ((t' : Int) - 1) ∧ y = .int .u32 (y' : Int) ∧ y' < 4294967296 ∧ Hid (y' = V % tw (32 * q + 32) / tw t') ∧ wx = wr) (fun _ t _ => (intOf t + 1).toNat)
        case atStart =>
          refine ⟨T, 0, hTp, Nat.le_refl _, congrArg (Value.int IntKind.i64) (by have := HT.out; omega), rfl, by omega, hid (limb_start Hx.out.lt HT2.out).symm, rfl⟩
        case round =>
          obtain ⟨t, y, ht1, ht2, rfl, rfl, hy, Hy, rfl⟩ := hrel
          rcases Nat.eq_or_lt_of_le ht1 with h0 | h0
          · subst h0
            have hyl : y = lb V q := by
              rw [Hy.out, Hp.out, limb_end]
            subst hyl
            go_wp2_with (at_builtin; refine wpList_append_one rfl (.tmp 34) (.tmp 36) 22 rfl 63 (.int .u32 0) 4 Tryd.underlying22 info_u32 rfl (by decide) rfl rfl hrow.out hbel.out rfl (by have := Hp.out; omega) ?_; intro v' w' hown' hbel')
            go_roundw
            case rel =>
              refine ⟨q + 1, p + 32, by omega, by go_num, hid (by have := Hp.out; omega), hid ?_, hbel'⟩
              have h := hown'.out
              unfold Lrow
              rw [lg_succ]
              exact h
            case measure => simp [intOf]; omega
          · obtain ⟨s, rfl⟩ : ∃ s, t = s + 1 := ⟨t - 1, by omega⟩
            have cs := (hbel.out.cell (p := ⟨b, off + s, none⟩) (Nat.lt_of_lt_of_le hbB HB.out)).trans (Hc.out s (by omega))
            have hs := limb_step (V := V) (q := q) (t := s) (by have := Hp.out; omega)
            have hlt := limb_lt (V := V) (q := q) (t := s) (by have := Hp.out; omega)
            rw [← Hy.out] at hs
            rw [hs] at hlt
            have hb1 := bt_le V s
            generalize bt V s = d at *
            have Hs := hid hs
            clear hs
            rw [show (((s + 1 : Nat) : Int) - 1) = (s : Int) by omega]
            go_wp2
            go_roundw
            case rel => exact ⟨s, 2 * y + d, by omega, by omega, by go_num, by go_num, by omega, hid Hs.out.symm, by first | rfl | trivial⟩
            case measure => simp [intOf]
    · have hq : V < pw q ∧ (0 < q → lb V (q - 1) ≠ 0) := limbs_end Hx.out.lt Hl.out (by have := Hp.out; omega) (by have := Hp.out; omega)
      obtain ⟨A1, c1, rfl, hr⟩ := Lrow.shape hrow.out hq.1 (by have := Hp.out; omega)
      have Hq := hid hq
      have Hr := hid hr
      clear hq hr
      go_wp2
      go_ret
      exact ⟨_, rfl, hbel.out, _, _, _, _, rfl, Hr.out, Hq.out.2, vl_lb_all Hq.out.1⟩

theorem Limbs_any {w : World} {B V : Nat} {v0 : Value} (hb : Bt w B V v0) (hB : B ≤ w.heap.size) (hV0 : V < tw 4000) :
    Calls Tryd.prog 31 #[v0] w fun e w' => ∃ v, e = .returned v ∧ Below w.heap.size w w' ∧ Lm w' w'.heap.size V v := by
  obtain ⟨A0, n0, c0, rfl, hb0, _⟩ := hb
  exact Limbs_bits hb0 hB hV0
end Go.Proofs.YtnhnddhigbbleaaDoor
