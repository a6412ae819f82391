/- The reference's Plus, Minus. -/
import Derived.Test.YtnhnddhigbbleaaDoorRsum
namespace Go.Proofs.YtnhnddhigbbleaaDoor
open Go.RowKit

/-- The carry into place i. -/
def cy (U V i : Nat) : Nat := (U % tw i + V % tw i) / tw i
theorem cy_zero (U V : Nat) : cy U V 0 = 0 := by simp [cy, tw_zero, Nat.mod_one]
theorem cy_step (U V i : Nat) : bt (U + V) i = (bt U i + bt V i + cy U V i) % 2 ∧ cy U V (i + 1) = (bt U i + bt V i + cy U V i) / 2 := by
  unfold cy bt
  have hp := tw_pos i
  have hU := Nat.div_add_mod U (tw i)
  have hV := Nat.div_add_mod V (tw i)
  have e1 : U % tw (i + 1) = U % tw i + tw i * (U / tw i % 2) := by rw [tw_succ, Nat.mod_mul]
  have e2 : V % tw (i + 1) = V % tw i + tw i * (V / tw i % 2) := by rw [tw_succ, Nat.mod_mul]
  rw [e1, e2, tw_succ, ← Nat.div_div_eq_div_mul]
  have d1 : (U + V) / tw i = U / tw i + V / tw i + (U % tw i + V % tw i) / tw i := by
    have : U + V = (U % tw i + V % tw i) + tw i * (U / tw i + V / tw i) := by rw [Nat.mul_add]; omega
    rw [this, Nat.add_mul_div_left _ _ hp]
    have h1 : (U % tw i + V % tw i + tw i * (U / tw i + V / tw i)) = U + V := this.symm
    omega
  have d2 : (U % tw i + tw i * (U / tw i % 2) + (V % tw i + tw i * (V / tw i % 2))) / tw i = (U % tw i + V % tw i) / tw i + (U / tw i % 2 + V / tw i % 2) := by
    rw [show U % tw i + tw i * (U / tw i % 2) + (V % tw i + tw i * (V / tw i % 2)) = (U % tw i + V % tw i) + tw i * (U / tw i % 2 + V / tw i % 2) by rw [Nat.mul_add]; omega, Nat.add_mul_div_left _ _ hp]
  rw [d1, d2]
  generalize U / tw i = u
  generalize V / tw i = v
  generalize (U % tw i + V % tw i) / tw i = c
  omega

/-- The borrow out of place i. -/
def bw (U V i : Nat) : Nat := if U % tw i < V % tw i then 1 else 0
theorem bw_zero (U V : Nat) : bw U V 0 = 0 := by simp [bw, tw_zero, Nat.mod_one]
theorem bw_step {U V : Nat} (i : Nat) (h : V ≤ U) : bt (U - V) i = (bt U i + 2 - bt V i - bw U V i) % 2 ∧ bw U V (i + 1) = 1 - (bt U i + 2 - bt V i - bw U V i) / 2 := by
  have hp := tw_pos i
  have hU := Nat.div_add_mod U (tw i)
  have hV := Nat.div_add_mod V (tw i)
  have e1 : U % tw (i + 1) = U % tw i + tw i * (U / tw i % 2) := by rw [tw_succ, Nat.mod_mul]
  have e2 : V % tw (i + 1) = V % tw i + tw i * (V / tw i % 2) := by rw [tw_succ, Nat.mod_mul]
  have a1 := Nat.mod_lt U hp
  have a2 := Nat.mod_lt V hp
  have d1 : (U - V) / tw i = U / tw i - V / tw i - bw U V i ∧ V / tw i + bw U V i ≤ U / tw i := by
    unfold bw
    by_cases hlt : U % tw i < V % tw i
    · rw [if_pos hlt]
      have hq : V / tw i + 1 ≤ U / tw i := by
        rcases Nat.lt_or_ge (V / tw i) (U / tw i) with h2 | h2
        · exact h2
        · exfalso
          have := Nat.mul_le_mul_left (tw i) h2
          omega
      refine ⟨?_, hq⟩
      have : U - V = (tw i + U % tw i - V % tw i) + tw i * (U / tw i - V / tw i - 1) := by
        obtain ⟨d, hd⟩ : ∃ d, U / tw i = V / tw i + 1 + d := ⟨U / tw i - V / tw i - 1, by omega⟩
        rw [hd] at hU ⊢
        rw [Nat.mul_add, Nat.mul_add, Nat.mul_one] at hU
        rw [show V / tw i + 1 + d - V / tw i - 1 = d by omega]
        omega
      rw [this, Nat.add_mul_div_left _ _ hp, Nat.div_eq_of_lt (by omega), Nat.zero_add]
    · rw [if_neg hlt]
      have hq : V / tw i ≤ U / tw i := Nat.div_le_div_right h
      refine ⟨?_, hq⟩
      have : U - V = (U % tw i - V % tw i) + tw i * (U / tw i - V / tw i) := by
        obtain ⟨d, hd⟩ : ∃ d, U / tw i = V / tw i + d := ⟨U / tw i - V / tw i, by omega⟩
        rw [hd] at hU ⊢
        rw [Nat.mul_add] at hU
        rw [show V / tw i + d - V / tw i = d by omega]
        omega
      rw [this, Nat.add_mul_div_left _ _ hp, Nat.div_eq_of_lt (by omega), Nat.zero_add, Nat.sub_zero]
  have b1 : bw U V i ≤ 1 := by unfold bw; split <;> omega
  have s1 : bt (U - V) i = (bt U i + 2 - bt V i - bw U V i) % 2 := by
    unfold bt
    rw [d1.1]
    have := d1.2
    generalize U / tw i = u at *
    generalize V / tw i = v at *
    generalize bw U V i = c at *
    omega
  refine ⟨s1, ?_⟩
  have s2 : bw U V (i + 1) = if bt U i < bt V i + bw U V i then 1 else 0 := by
    show (if U % tw (i + 1) < V % tw (i + 1) then 1 else 0) = _
    rw [e1, e2]
    unfold bt
    have m1 : U / tw i % 2 = 0 ∨ U / tw i % 2 = 1 := by omega
    have m2 : V / tw i % 2 = 0 ∨ V / tw i % 2 = 1 := by omega
    unfold bw
    rcases m1 with m1 | m1 <;> rcases m2 with m2 | m2 <;> rw [m1, m2] <;> by_cases hlt : U % tw i < V % tw i <;> simp [hlt] <;> omega
  rw [s2]
  have u1 := bt_le U i
  have v1 := bt_le V i
  generalize bt U i = u at *
  generalize bt V i = v at *
  generalize bw U V i = c at *
  split <;> omega

theorem add_lt {U V n m : Nat} (hU : U < tw n) (hV : V < tw m) (hnm : n ≤ m) : U + V < tw (m + 1) := by
  have := tw_mono hnm
  rw [tw_succ]
  omega

set_option maxHeartbeats 1600000 in
theorem Plus_bits {w : World} {B C n c m d U V : Nat} {A D : Option Addr} (ha : Bits w B A n c U) (hb : Bits w C D m d V) (hB : B ≤ w.heap.size) (hC : C ≤ w.heap.size) (hn4 : n ≤ 4000) (hm4 : m ≤ 4000) :
    Calls Tryd.prog 23 #[.slice A n c, .slice D m d] w fun e w' => ∃ v, e = .returned v ∧ Below w.heap.size w w' ∧ Bt w' w'.heap.size (U + V) v := by
  have hcase : ∃ T : Nat, ((n < m ∧ T = m) ∨ (m ≤ n ∧ T = n)) ∧ U + V < tw (T + 1) := by
    rcases Nat.lt_or_ge n m with h | h
    · exact ⟨m, .inl ⟨h, rfl⟩, add_lt ha.lt hb.lt (by omega)⟩
    · exact ⟨n, .inr ⟨h, rfl⟩, by rw [Nat.add_comm]; exact add_lt hb.lt ha.lt h⟩
  obtain ⟨T, hT, hS⟩ := hcase
  have HS := hid hS
  have Ha := hid (ha.mono hB)
  have Hb := hid (hb.mono hC)
  have hT2 : T ≤ 4000 := by omega
  clear ha hb hS
  rcases hT with ⟨hmin, HT⟩ | ⟨hmin, HT⟩
  all_goals
    subst HT
    go_enter Tryd.func23, Tryd.ntmps23
    go_wp2_with fail
    go_loopw [5, 6, 7] (fun v cc i wr => ∃ t y : Nat, t ≤ T + 1 ∧ i = .int .i64 (t : Int) ∧ cc = .int .u8 (y : Int) ∧ y ≤ 1 ∧ Hid (y = cy U V t) ∧ Hid (Row wr w.heap.size (U + V) t v) ∧ Hid (Below w.heap.size w wr)) (fun _ _ i _ => T + 1 - (intOf i).toNat)
    case atStart => exact ⟨0, 0, by omega, rfl, rfl, by omega, hid (cy_zero U V).symm, Row.nil _ _ _, Below.refl _ _⟩
    case round =>
      obtain ⟨t, y, ht, rfl, rfl, hy, Hy, hrow, hbel⟩ := hrel
      by_cases htT : t < T + 1
      · have c1 := hid (rbit_any (Ha.out.below hbel.out) t)
        have c2 := hid (rbit_any (Hb.out.below hbel.out) t)
        have b1 := bt_le U t
        have b2 := bt_le V t
        have hs := cy_step U V t
        rw [← Hy.out] at hs
        have Hs := hid hs
        clear hs
        generalize bt U t = x at *
        generalize bt V t = z at *
        have h3 : (t : Int) ≤ (T : Int) := by omega
        go_wp2_with fail
        refine c1.out.mono ?_
        rintro e w' ⟨rfl, rfl⟩
        go_wp2_with fail
        refine c2.out.mono ?_
        rintro e w' ⟨rfl, rfl⟩
        go_wp2_with (at_builtin; refine wpList_append_one rfl (.tmp 27) (.tmp 30) 43 rfl 5 (.int .u8 0) 1 Tryd.underlying43 info_u8 rfl (by decide) rfl rfl hrow.out hbel.out rfl (by omega) ?_; intro v' w' hown' hbel')
        go_roundw
        case rel =>
          refine ⟨t + 1, (x + z + y) / 2, by omega, by go_num, by go_num, by omega, hid Hs.out.2.symm, hid ?_, hbel'⟩
          have h := hown'.out
          unfold Row
          rw [dg_succ, Hs.out.1]
          exact h
        case measure => simp [intOf]; omega
      · obtain rfl : t = T + 1 := by omega
        obtain ⟨A1, c1, rfl, hb1⟩ := Row.shape hrow.out HS.out (by omega)
        have Cc := hid (rcut_any hb1)
        have h3 : ¬ (((T + 1 : Nat) : Int) ≤ (T : Int)) := by omega
        clear hb1
        go_wp2_with fail
        refine Cc.out.mono ?_
        rintro e w' ⟨v, rfl, rfl, hbt⟩
        have Hbt := hid hbt
        clear hbt
        go_wp2
        go_ret
        exact ⟨_, rfl, hbel.out, Hbt.out⟩

/-- The slice v lies in a block from L on, or nowhere. -/
def Fresh (L : Nat) (v : Value) : Prop := ∀ b off n c, v = .slice (some ⟨b, off, none⟩) n c → L ≤ b
theorem Row.fresh {w : World} {B V n : Nat} {v : Value} (h : Row w B V n v) : Fresh B v := by
  intro b off n' c hv
  obtain ⟨_, hor⟩ := h
  rcases hor with ⟨rfl, rfl⟩ | ⟨g, cap, cur, rfl, hg, _⟩
  · cases hv
  · injection hv with h1
    injection h1 with h1
    injection h1 with h1
    omega
theorem Fresh.cut {L n m c : Nat} {A : Option Addr} (h : Fresh L (.slice A n c)) : Fresh L (.slice A m c) := by
  intro b off n' c' hv
  injection hv with h1 h2 h3
  subst h1
  exact h b off n c rfl

set_option maxHeartbeats 1600000 in
theorem Minus_own {w : World} {B C n c m d U V : Nat} {A D : Option Addr} (ha : Bits w B A n c U) (hb : Bits w C D m d V) (hB : B ≤ w.heap.size) (hC : C ≤ w.heap.size) (hn4 : n ≤ 4000) (hVU : V ≤ U) :
    Calls Tryd.prog 36 #[.slice A n c, .slice D m d] w fun e w' => ∃ v, e = .returned v ∧ Below w.heap.size w w' ∧ Bt w' w'.heap.size (U - V) v ∧ Fresh w.heap.size v := by
  have HS := hid (show U - V < tw n by have := ha.lt; omega)
  have Ha := hid (ha.mono hB)
  have Hb := hid (hb.mono hC)
  have HVU := hid hVU
  clear ha hb hVU
  go_enter Tryd.func36, Tryd.ntmps36
  go_wp2_with fail
  go_loopw [5, 6, 7] (fun v cc i wr => ∃ t y : Nat, t ≤ n ∧ i = .int .i64 (t : Int) ∧ cc = .int .u8 (y : Int) ∧ y ≤ 1 ∧ Hid (y = bw U V t) ∧ Hid (Row wr w.heap.size (U - V) t v) ∧ Hid (Below w.heap.size w wr)) (fun _ _ i _ => n - (intOf i).toNat)
  case atStart => exact ⟨0, 0, by omega, rfl, rfl, by omega, hid (bw_zero U V).symm, Row.nil _ _ _, Below.refl _ _⟩
  case round =>
    obtain ⟨t, y, ht, rfl, rfl, hy, Hy, hrow, hbel⟩ := hrel
    by_cases htT : t < n
    · have c1 := hid (rbit_any (Ha.out.below hbel.out) t)
      have c2 := hid (rbit_any (Hb.out.below hbel.out) t)
      have b1 := bt_le U t
      have b2 := bt_le V t
      have hs := bw_step t HVU.out
      rw [← Hy.out] at hs
      have Hs := hid hs
      clear hs
      generalize bt U t = x at *
      generalize bt V t = z at *
      obtain ⟨g, hg⟩ : ∃ g, g = x + 2 - z - y := ⟨_, rfl⟩
      have hg2 : (g : Int) = (x : Int) + 2 - (z : Int) - (y : Int) := by omega
      rw [← hg] at Hs
      have Hg2 := hid hg2
      clear hg hg2
      go_wp2_with fail
      refine c1.out.mono ?_
      rintro e w' ⟨rfl, rfl⟩
      go_wp2_with fail
      refine c2.out.mono ?_
      rintro e w' ⟨rfl, rfl⟩
      go_wp2_with (at_builtin; refine wpList_append_one rfl (.tmp 25) (.tmp 28) 43 rfl 5 (.int .u8 0) 1 Tryd.underlying43 info_u8 rfl (by decide) rfl rfl hrow.out hbel.out rfl (by omega) ?_; intro v' w' hown' hbel')
      go_roundw
      case rel =>
        refine ⟨t + 1, 1 - g / 2, by omega, by go_num, ?_, by omega, hid Hs.out.2.symm, hid ?_, hbel'⟩
        · have := Hg2.out
          refine congrArg (Value.int IntKind.u8) ?_
          omega
        · have h := hown'.out
          have h2 := Hg2.out
          unfold Row
          rw [dg_succ, Hs.out.1, show ((g % 2 : Nat) : Int) = ((x : Int) + 2 - (z : Int) - (y : Int)) % 2 by omega]
          exact h
      case measure => simp [intOf]; omega
    · obtain rfl : t = n := by omega
      obtain ⟨A1, c1, rfl, hb1⟩ := Row.shape hrow.out HS.out (by omega)
      have Hfr := hid (Row.fresh hrow.out)
      have Cc := hid (rcut_at hb1)
      clear hb1
      go_wp2_with fail
      refine Cc.out.mono ?_
      rintro e w' ⟨m1, rfl, rfl, hbt⟩
      have Hbt := hid hbt
      clear hbt
      go_wp2
      go_ret
      exact ⟨_, rfl, hbel.out, Hbt.out, Hfr.out.cut⟩

theorem Minus_bits {w : World} {B C n c m d U V : Nat} {A D : Option Addr} (ha : Bits w B A n c U) (hb : Bits w C D m d V) (hB : B ≤ w.heap.size) (hC : C ≤ w.heap.size) (hn4 : n ≤ 4000) (hVU : V ≤ U) :
    Calls Tryd.prog 36 #[.slice A n c, .slice D m d] w fun e w' => ∃ v, e = .returned v ∧ Below w.heap.size w w' ∧ Bt w' w'.heap.size (U - V) v := by
  refine (Minus_own ha hb hB hC hn4 hVU).mono ?_
  rintro e w' ⟨v, rfl, hb, hbt, _⟩
  exact ⟨v, rfl, hb, hbt⟩

theorem Bt.le4000 {w : World} {B V : Nat} {A : Option Addr} {n c : Nat} (_h : Bits w B A n c V) (hl : 0 < n → tw (n - 1) ≤ V) (hV : V < pw 40) : n ≤ 1280 := by
  rw [tw_pw, show 32 * 40 = 1280 from rfl] at hV
  rcases Nat.lt_or_ge 1280 n with h1 | h1
  · have a := hl (by omega)
    have b : tw 1280 ≤ tw (n - 1) := tw_mono (by omega)
    omega
  · exact h1

end Go.Proofs.YtnhnddhigbbleaaDoor
