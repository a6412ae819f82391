/- The reference's Digits: the bits of limbs. -/
import Derived.Test.YtnhnddhigbbleaaDoorRbits
namespace Go.Proofs.YtnhnddhigbbleaaDoor
open Go.RowKit

theorem bt_vl {f : Nat → Nat} {i n t : Nat} (hf : ∀ j, f j < 4294967296) (hi : i < n) (ht : t < 32) : bt (vl f n) (32 * i + t) = bt (f i) t := by
  obtain ⟨L, rfl⟩ : ∃ L, n = i + (1 + L) := ⟨n - i - 1, by omega⟩
  have ha := vl_lt (f := f) (k := i) (fun j _ => hf j)
  rw [vl_shift, vl_shift, show vl (fun j => f (i + j)) 1 = f i by simp [vl, pw]]
  generalize vl (fun j => f (i + (1 + j))) L = r
  generalize f i = x
  generalize vl f i = a at *
  unfold bt
  obtain ⟨d, hd⟩ : ∃ d, 32 = t + (1 + d) := ⟨31 - t, by omega⟩
  have e1 : pw 1 = tw t * (2 * tw d) := by
    rw [tw_pw, show 32 * 1 = t + (1 + d) by omega, tw_add, tw_add]
    rfl
  rw [tw_add, ← tw_pw, ← Nat.div_div_eq_div_mul, Nat.add_mul_div_left _ _ (pw_pos i), Nat.div_eq_of_lt ha, Nat.zero_add, e1, Nat.mul_assoc, Nat.add_mul_div_left _ _ (tw_pos t), Nat.mul_assoc, Nat.add_mul_mod_self_left]

/-- The first n digits of V, as cells. -/
def dg (V n : Nat) : List Value := (List.range n).map fun j => Value.int .u8 (bt V j : Int)
theorem dg_len (V n : Nat) : (dg V n).length = n := by simp [dg]
theorem dg_succ (V n : Nat) : dg V (n + 1) = dg V n ++ [Value.int .u8 (bt V n : Int)] := by simp [dg, List.range_succ]
theorem dg_at {V n j : Nat} (h : j < n) : (dg V n)[j]? = some (.int .u8 (bt V j : Int)) := by
  simp [dg, h]

/-- What is gathered of V's digits, in a row of the call's own. -/
def Row (w : World) (B V n : Nat) (v : Value) : Prop := w.ownsRow B 5 1 v n (dg V n)

theorem Row.nil (w : World) (B V : Nat) : Row w B V 0 (.slice none 0 0) := ⟨rfl, .inl ⟨rfl, rfl⟩⟩
theorem Row.shape {w : World} {B V n : Nat} {v : Value} (h : Row w B V n v) (hV : V < tw n) (hmax : n ≤ 140737488355328) : ∃ A c, v = .slice A n c ∧ Bits w w.heap.size A n c V := by
  obtain ⟨_, hor⟩ := h
  rcases hor with ⟨rfl, rfl⟩ | ⟨g, cap, cur, rfl, hg, hh, hn, hc, hs, ht⟩
  · exact ⟨none, 0, rfl, ⟨Nat.le_refl _, hmax, fun _ => rfl, hV, fun h => absurd h (by omega)⟩⟩
  · refine ⟨some ⟨g, 0, none⟩, cap, rfl, ⟨hn, hmax, fun h => (by cases h), hV, fun _ => ⟨g, 0, rfl, lt_of_heap hh, fun j hj => ?_⟩⟩⟩
    rw [Nat.zero_add, cell_of_row w g j cur 5 (0, 0) hh, ← Array.getElem?_toList]
    have e := dg_at (V := V) hj
    rw [← ht, List.getElem?_take, Nat.mul_one, if_pos hj] at e
    exact e

theorem info_u8 : (Tryd.prog.info? 5).map (fun i => (i.zero, i.size, i.bytes)) = some (some (.int .u8 0), 1, 1) := by kernel_rfl

/-- 'x = append(x, u)', x a row of the call's own, u one cell. -/
theorem wpList_append_one {P : Program} {ops : Array Oper} {rest : List Oper} {o : Oper} {a : Act} {Q : Exit → Act → World → Prop} (hgd : o.guard = none) (s x : Operand) (t : TypeId)
    (ho : o.op = .call { callee := .builtin .append, args := #[s, x], argTypes := #[t, t] }) (e : TypeId) (z : Value) (bytes : Nat) (ht : P.underlying t = some (.slice e))
    (hi : (P.info? e).map (fun i => (i.zero, i.size, i.bytes)) = some (some z, 1, bytes)) (hz : z.cells.size = 1) (hby : bytes ≤ 8)
    {w0 wr : World} {n : Nat} {v u : Value} {xs : List Value} (hs : a.eval s = v) (hx : a.eval x = .slice (some ⟨wr.heap.size, 0, none⟩) 1 1) (hown : wr.ownsRow w0.heap.size e 1 v n xs) (hbel : Below w0.heap.size w0 wr)
    (hu : u.oneCell' = true) (hn : n + 1 ≤ 17592186044416)
    (h : ∀ v' w', Hid (w'.ownsRow w0.heap.size e 1 v' (n + 1) (xs ++ [u])) → Hid (Below w0.heap.size w0 w') → wpList P ops Q rest (a.put o.dst v') w') : wpList P ops Q (o :: rest) a (wr.alloc (.cells #[u] e)) := by
  obtain ⟨i0, hi, hz0, hz1, hz2⟩ := info_one hi
  have hsz := hbel.size
  refine wpList_append_own _ hgd s x t ho w0.heap.size e i0 z 1 bytes ht hi hz0 hz1 hz2 hz (by decide) v n xs hs (hown.alloc _) ⟨wr.heap.size, 0, none⟩ 1 1 [u] hx rfl ?_ ?_ ?_ ?_ ?_ ?_
  · intro j y hj
    match j, hj with
    | 0, hj =>
      simp at hj
      subst hj
      exact Box.cell (Box.new wr e u)
  · intro y hy
    simp at hy
    subst hy
    exact hu
  · unfold maxLen
    omega
  · have : (n + 1) * bytes ≤ (n + 1) * 8 := Nat.mul_le_mul_left _ hby
    omega
  · simp
    omega
  · intro v' w' hown' hgr _
    refine h v' w' hown' ((hbel.alloc hsz _).grown hgr (by simp; omega) ?_)
    intro k hk
    rcases hown with ⟨_, ⟨rfl, _⟩ | ⟨g, cap, cur, rfl, hg, _⟩⟩
    · cases hk
    · injection hk with hk
      subst hk
      exact hg

theorem tw_half (x t : Nat) : x / tw (t + 1) = x / tw t / 2 := by rw [tw_succ, Nat.div_div_eq_div_mul]

set_option maxHeartbeats 2000000 in
theorem Digits_any {w : World} {A : Option Addr} {n c : Nat} {f : Nat → Nat} (ha : Rd w w.heap.size A n c f) (h42 : n ≤ 42) :
    Calls Tryd.prog 33 #[.slice A n c] w fun e w' => ∃ v, e = .returned v ∧ Below w.heap.size w w' ∧ Bt w' w'.heap.size (vl f n) v := by
  have Ha := hid ha
  have hac := ha.cap
  have ham := ha.max
  clear ha
  go_enter Tryd.func33, Tryd.ntmps33
  go_wp2
  go_loopw [3, 4] (fun v i wr => ∃ k : Nat, k ≤ n ∧ i = .int .i64 k ∧ Hid (Row wr w.heap.size (vl f n) (32 * k) v) ∧ Hid (Below w.heap.size w wr)) (fun _ i _ => n - (intOf i).toNat)
  case atStart => exact ⟨0, Nat.zero_le _, rfl, Row.nil _ _ _, Below.refl _ _⟩
  case round =>
    obtain ⟨k, hk, rfl, hrow, hbel⟩ := hrel
    by_cases hkn : k < n
    · obtain ⟨b, off, rfl, hbB, hc⟩ := Ha.out.at_ (by omega)
      have xa := (hbel.out.cell (p := ⟨b, off + k, none⟩) hbB).trans (hc k hkn)
      have fk := Ha.out.lt k
      have Hf := hid (fun t (ht : t < 32) => bt_vl Ha.out.lt hkn ht)
      clear hc
      generalize hx : f k = x at *
      clear hx
      go_wp2_with fail
      go_loopw [3, 5, 6] (fun v y t wr => ∃ t' y' : Nat, t' ≤ 32 ∧ t = .int .i64 t' ∧ y = .int .u32 (y' : Int) ∧ y' < 4294967296 ∧ Hid (y' = x / tw t') ∧ Hid (Row wr w.heap.size (vl f n) (32 * k + t') v) ∧ Hid (Below w.heap.size w wr)) (fun _ _ t _ => 32 - (intOf t).toNat)
      case atStart => exact ⟨0, x, by omega, rfl, rfl, fk, hid (by rw [tw_zero, Nat.div_one]), hrow, hbel⟩
      case round =>
        obtain ⟨t, y, ht, rfl, rfl, hy, Hy, hrow, hbel⟩ := hrel
        by_cases ht2 : t < 32
        · have Hb := hid (show ((y : Int) % 2) = (bt (vl f n) (32 * k + t) : Int) by
            rw [Hf.out t ht2, Hy.out]
            unfold bt
            omega)
          go_wp2_with (at_builtin; refine wpList_append_one rfl (.tmp 21) (.tmp 25) 43 rfl 5 (.int .u8 0) 1 Tryd.underlying43 info_u8 rfl (by decide) rfl rfl hrow.out hbel.out rfl (by omega) ?_; intro v' w' hown' hbel')
          go_roundw
          case rel =>
            refine ⟨t + 1, y / 2, by omega, by go_num, by go_num, by omega, hid (by rw [tw_half, ← Hy.out]), hid ?_, hbel'⟩
            have h := hown'.out
            rw [Hb.out] at h
            rw [← Nat.add_assoc]
            unfold Row
            rw [dg_succ]
            exact h
          case measure => simp [intOf]; omega
        · obtain rfl : t = 32 := by omega
          go_wp2
          go_roundw
          case rel => exact ⟨k + 1, by omega, by go_num, hid (by rw [Nat.mul_add, Nat.mul_one]; exact hrow.out), hbel⟩
          case measure => simp [intOf]; omega
    · obtain rfl : k = n := by omega
      have hV : vl f k < tw (32 * k) := by
        rw [← tw_pw]
        exact vl_lt fun j _ => Ha.out.lt j
      obtain ⟨A1, c1, rfl, hb⟩ := Row.shape hrow.out hV (by omega)
      have Cc := hid (rcut_any hb)
      clear hV hb
      go_wp2_with fail
      refine Cc.out.mono ?_
      rintro e w' ⟨v, rfl, rfl, hbt⟩
      have Hbt := hid hbt
      clear hbt
      go_wp2
      go_ret
      exact ⟨_, rfl, hbel.out, Hbt.out⟩
end Go.Proofs.YtnhnddhigbbleaaDoor
