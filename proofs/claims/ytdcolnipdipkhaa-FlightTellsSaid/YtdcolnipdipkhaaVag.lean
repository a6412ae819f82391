/- Bits, the lowest first, as slices of uint8: what is read; the reference's Cut. -/
/- The reference's Digits: the bits of limbs. -/
/- The reference's Limbs: the limbs of bits. -/
/- The reference's Same, May, told; the law's spoil and own copies. -/
/- Limbs of one number, however many: what they are when they may be. -/
import Derived.Test.YtdcolnipdipkhaaVab

namespace Go.Proofs.Ytdcolnipdipkhaa
open Go.RowKit

/-- Powers of two, kept shut. -/
def tw (k : Nat) : Nat := 2 ^ k
theorem tw_zero : tw 0 = 1 := rfl
theorem tw_succ (k : Nat) : tw (k + 1) = tw k * 2 := by unfold tw; rw [Nat.pow_succ]
theorem tw_pos (k : Nat) : 0 < tw k := by unfold tw; exact Nat.pow_pos (by omega)
theorem tw_add (j k : Nat) : tw (j + k) = tw j * tw k := by unfold tw; rw [Nat.pow_add]
theorem tw_mono {j k : Nat} (h : j ≤ k) : tw j ≤ tw k := by unfold tw; exact Nat.pow_le_pow_right (by omega) h
theorem tw_pw (k : Nat) : pw k = tw (32 * k) := by
  unfold tw pw
  rw [Nat.pow_mul]

/-- A number's digits. -/
def bt (V j : Nat) : Nat := V / tw j % 2
theorem bt_le (V j : Nat) : bt V j ≤ 1 := by unfold bt; omega
theorem bt_low {V k : Nat} (h : V < tw (k + 1)) (hz : bt V k = 0) : V < tw k := by
  unfold bt at hz
  rw [tw_succ] at h
  have hp := tw_pos k
  have h2 : V / tw k < 2 := (Nat.div_lt_iff_lt_mul hp).2 (by rw [Nat.mul_comm]; exact h)
  have h0 : V / tw k = 0 := by
    generalize V / tw k = q at *
    omega
  rcases Nat.lt_or_ge V (tw k) with hlt | hge
  · exact hlt
  · have := Nat.div_pos hge hp
    omega
theorem bt_high {V k : Nat} (hz : bt V k ≠ 0) : tw k ≤ V := by
  rcases Nat.lt_or_ge V (tw k) with hlt | hge
  · unfold bt at hz
    rw [Nat.div_eq_of_lt hlt] at hz
    exact absurd rfl hz
  · exact hge
theorem bt_out {V k : Nat} (h : V < tw k) : bt V k = 0 := by
  unfold bt
  rw [Nat.div_eq_of_lt h]

/-- The slice '.slice A n c' reads, in the world w, as the n lowest digits of V, which has no more. -/
structure Bits (w : World) (B : Nat) (A : Option Addr) (n c V : Nat) : Prop where
  cap : n ≤ c
  max : n ≤ 140737488355328
  nil : A = none → c = 0
  lt : V < tw n
  at_ : 0 < n → ∃ b off, A = some ⟨b, off, none⟩ ∧ b < B ∧ ∀ j, j < n → w.cell? ⟨b, off + j, none⟩ = some (.int .u8 (bt V j : Int))

theorem Bits.below {w w' : World} {B n c V : Nat} {A : Option Addr} (h : Bits w B A n c V) (hb : Below B w w') : Bits w' B A n c V :=
  ⟨h.cap, h.max, h.nil, h.lt, fun hn => by
    obtain ⟨b, off, rfl, hB, hc⟩ := h.at_ hn
    exact ⟨b, off, rfl, hB, fun j hj => (hb.cell (p := ⟨b, off + j, none⟩) hB).trans (hc j hj)⟩⟩
theorem Bits.mono {w : World} {B B' n c V : Nat} {A : Option Addr} (h : Bits w B A n c V) (hb : B ≤ B') : Bits w B' A n c V :=
  ⟨h.cap, h.max, h.nil, h.lt, fun hn => by
    obtain ⟨b, off, rfl, hB, hc⟩ := h.at_ hn
    exact ⟨b, off, rfl, by omega, hc⟩⟩
theorem Bits.cut {w : World} {B n m c V : Nat} {A : Option Addr} (h : Bits w B A n c V) (hm : m ≤ n) (hV : V < tw m) : Bits w B A m c V :=
  ⟨Nat.le_trans hm h.cap, Nat.le_trans hm h.max, h.nil, hV, fun hn => by
    obtain ⟨b, off, rfl, hB, hc⟩ := h.at_ (by omega)
    exact ⟨b, off, rfl, hB, fun j hj => hc j (by omega)⟩⟩

/-- The digits of V, none that is 0 at the end. -/
def Bt (w : World) (B V : Nat) (v : Value) : Prop := ∃ A n c, v = .slice A n c ∧ Bits w B A n c V ∧ (0 < n → tw (n - 1) ≤ V)

theorem Bt.below {w w' : World} {B V : Nat} {v : Value} (h : Bt w B V v) (hb : Below B w w') : Bt w' B V v := by
  obtain ⟨A, n, c, hv, hr, hl⟩ := h
  exact ⟨A, n, c, hv, hr.below hb, hl⟩
theorem Bt.mono {w : World} {B B' V : Nat} {v : Value} (h : Bt w B V v) (hb : B ≤ B') : Bt w B' V v := by
  obtain ⟨A, n, c, hv, hr, hl⟩ := h
  exact ⟨A, n, c, hv, hr.mono hb, hl⟩

end Go.Proofs.Ytdcolnipdipkhaa


namespace Go.Proofs.Ytdcolnipdipkhaa
open Go.RowKit

theorem bt_vl {f : Nat → Nat} {i n t : Nat} (hf : ∀ j, f j < 4294967296) (hi : i < n) (ht : t < 32) : bt (vl f n) (32 * i + t) = bt (f i) t := by
  obtain ⟨L, rfl⟩ : ∃ L, n = i + (1 + L) := ⟨n - i - 1, by omega⟩
  have ha := vl_lt (f := f) (k := i) (fun j _ => hf j)
  rw [vl_shift, vl_shift, show vl (fun j => f (i + j)) 1 = f i by simp [vl, pw]]
  generalize vl (fun j => f (i + (1 + j))) L = r
  generalize f i = x
  generalize vl f i = a at *
  unfold bt
  obtain ⟨d, hd⟩ : ∃ d, 32 = t + (1 + d) := ⟨31 - t, by omega⟩
  have e1 : pw 1 = tw t * (2 * tw d) := by
    rw [tw_pw, show 32 * 1 = t + (1 + d) by omega, tw_add, tw_add]
    rfl
  rw [tw_add, ← tw_pw, ← Nat.div_div_eq_div_mul, Nat.add_mul_div_left _ _ (pw_pos i), Nat.div_eq_of_lt ha, Nat.zero_add, e1, Nat.mul_assoc, Nat.add_mul_div_left _ _ (tw_pos t), Nat.mul_assoc, Nat.add_mul_mod_self_left]

/-- The first n digits of V, as cells. -/
def dg (V n : Nat) : List Value := (List.range n).map fun j => Value.int .u8 (bt V j : Int)
theorem dg_len (V n : Nat) : (dg V n).length = n := by simp [dg]
theorem dg_succ (V n : Nat) : dg V (n + 1) = dg V n ++ [Value.int .u8 (bt V n : Int)] := by simp [dg, List.range_succ]
theorem dg_at {V n j : Nat} (h : j < n) : (dg V n)[j]? = some (.int .u8 (bt V j : Int)) := by
  simp [dg, h]

/-- What is gathered of V's digits, in a row of the call's own. -/
def Row (w : World) (B V n : Nat) (v : Value) : Prop := w.ownsRow B 5 1 v n (dg V n)

theorem Row.nil (w : World) (B V : Nat) : Row w B V 0 (.slice none 0 0) := ⟨rfl, .inl ⟨rfl, rfl⟩⟩
theorem Row.shape {w : World} {B V n : Nat} {v : Value} (h : Row w B V n v) (hV : V < tw n) (hmax : n ≤ 140737488355328) : ∃ A c, v = .slice A n c ∧ Bits w w.heap.size A n c V := by
  obtain ⟨_, hor⟩ := h
  rcases hor with ⟨rfl, rfl⟩ | ⟨g, cap, cur, rfl, hg, hh, hn, hc, hs, ht⟩
  · exact ⟨none, 0, rfl, ⟨Nat.le_refl _, hmax, fun _ => rfl, hV, fun h => absurd h (by omega)⟩⟩
  · refine ⟨some ⟨g, 0, none⟩, cap, rfl, ⟨hn, hmax, fun h => (by cases h), hV, fun _ => ⟨g, 0, rfl, lt_of_heap hh, fun j hj => ?_⟩⟩⟩
    rw [Nat.zero_add, cell_of_row w g j cur 5 (0, 0) hh, ← Array.getElem?_toList]
    have e := dg_at (V := V) hj
    rw [← ht, List.getElem?_take, Nat.mul_one, if_pos hj] at e
    exact e

theorem info_u8 : (Try.prog.info? 5).map (fun i => (i.zero, i.size, i.bytes)) = some (some (.int .u8 0), 1, 1) := by kernel_rfl

/-- 'x = append(x, u)', x a row of the call's own, u one cell. -/
theorem wpList_append_one {P : Program} {ops : Array Oper} {rest : List Oper} {o : Oper} {a : Act} {Q : Exit → Act → World → Prop} (hgd : o.guard = none) (s x : Operand) (t : TypeId)
    (ho : o.op = .call { callee := .builtin .append, args := #[s, x], argTypes := #[t, t] }) (e : TypeId) (z : Value) (bytes : Nat) (ht : P.underlying t = some (.slice e))
    (hi : (P.info? e).map (fun i => (i.zero, i.size, i.bytes)) = some (some z, 1, bytes)) (hz : z.cells.size = 1) (hby : bytes ≤ 8)
    {w0 wr : World} {n : Nat} {v u : Value} {xs : List Value} (hs : a.eval s = v) (hx : a.eval x = .slice (some ⟨wr.heap.size, 0, none⟩) 1 1) (hown : wr.ownsRow w0.heap.size e 1 v n xs) (hbel : Below w0.heap.size w0 wr)
    (hu : u.oneCell' = true) (hn : n + 1 ≤ 17592186044416)
    (h : ∀ v' w', Hid (w'.ownsRow w0.heap.size e 1 v' (n + 1) (xs ++ [u])) → Hid (Below w0.heap.size w0 w') → wpList P ops Q rest (a.put o.dst v') w') : wpList P ops Q (o :: rest) a (wr.alloc (.cells #[u] e)) := by
  obtain ⟨i0, hi, hz0, hz1, hz2⟩ := info_one hi
  have hsz := hbel.size
  refine wpList_append_own _ hgd s x t ho w0.heap.size e i0 z 1 bytes ht hi hz0 hz1 hz2 hz (by decide) v n xs hs (hown.alloc _) ⟨wr.heap.size, 0, none⟩ 1 1 [u] hx rfl ?_ ?_ ?_ ?_ ?_ ?_
  · intro j y hj
    match j, hj with
    | 0, hj =>
      simp at hj
      subst hj
      exact Box.cell (Box.new wr e u)
  · intro y hy
    simp at hy
    subst hy
    exact hu
  · unfold maxLen
    omega
  · have : (n + 1) * bytes ≤ (n + 1) * 8 := Nat.mul_le_mul_left _ hby
    omega
  · simp
    omega
  · intro v' w' hown' hgr _
    refine h v' w' hown' ((hbel.alloc hsz _).grown hgr (by simp; omega) ?_)
    intro k hk
    rcases hown with ⟨_, ⟨rfl, _⟩ | ⟨g, cap, cur, rfl, hg, _⟩⟩
    · cases hk
    · injection hk with hk
      subst hk
      exact hg

theorem tw_half (x t : Nat) : x / tw (t + 1) = x / tw t / 2 := by rw [tw_succ, Nat.div_div_eq_div_mul]

end Go.Proofs.Ytdcolnipdipkhaa


namespace Go.Proofs.Ytdcolnipdipkhaa
open Go.RowKit

/-- A number's limbs. -/
def lb (V j : Nat) : Nat := V / pw j % 4294967296
theorem lb_lt (V j : Nat) : lb V j < 4294967296 := by unfold lb; omega
theorem lb_out {V q j : Nat} (h : V < pw q) (hj : q ≤ j) : lb V j = 0 := by
  unfold lb
  rw [Nat.div_eq_of_lt (Nat.lt_of_lt_of_le h (pw_mono hj))]
theorem vl_lb (V : Nat) : ∀ q, vl (lb V) q = V % pw q
  | 0 => by simp [vl, pw, Nat.mod_one]
  | q + 1 => by rw [vl_succ, vl_lb V q, pw_succ, Nat.mod_mul, Nat.mul_comm (pw q)]; rfl
theorem vl_lb_all {V q : Nat} (h : V < pw q) : vl (lb V) q = V := by rw [vl_lb, Nat.mod_eq_of_lt h]

theorem limb_step {V q t : Nat} (h2 : t < 32 * q + 32) : V % tw (32 * q + 32) / tw t = 2 * (V % tw (32 * q + 32) / tw (t + 1)) + bt V t := by
  obtain ⟨d, hd⟩ : ∃ d, 32 * q + 32 = t + (1 + d) := ⟨32 * q + 31 - t, by omega⟩
  rw [tw_half, hd, tw_add, Nat.mod_mul_right_div_self, tw_add, show tw 1 = 2 from rfl]
  unfold bt
  have h := Nat.mod_mul_right_mod (V / tw t) 2 (tw d)
  generalize V / tw t % (2 * tw d) = a at *
  omega
theorem limb_end (V q : Nat) : V % tw (32 * q + 32) / tw (32 * q) = lb V q := by
  rw [tw_add, Nat.mod_mul_right_div_self, ← tw_pw]
  rfl
theorem limb_lt {V q t : Nat} (h : 32 * q ≤ t) : V % tw (32 * q + 32) / tw t < 4294967296 := by
  have h1 := lb_lt V q
  rw [← limb_end] at h1
  exact Nat.lt_of_le_of_lt (Nat.div_le_div_left (tw_mono h) (tw_pos _)) h1
theorem limb_start {V n q t : Nat} (hV : V < tw n) (h : t = n ∨ t = 32 * q + 32) : V % tw (32 * q + 32) / tw t = 0 := by
  apply Nat.div_eq_of_lt
  rcases h with rfl | rfl
  · exact Nat.lt_of_le_of_lt (Nat.mod_le _ _) hV
  · exact Nat.mod_lt _ (tw_pos _)

/-- The first n limbs of V, as cells. -/
def lg (V n : Nat) : List Value := (List.range n).map fun j => Value.int .u32 (lb V j : Int)
theorem lg_succ (V n : Nat) : lg V (n + 1) = lg V n ++ [Value.int .u32 (lb V n : Int)] := by simp [lg, List.range_succ]
theorem lg_at {V n j : Nat} (h : j < n) : (lg V n)[j]? = some (.int .u32 (lb V j : Int)) := by
  simp [lg, h]

/-- What is gathered of V's limbs, in a row of the call's own. -/
def Lrow (w : World) (B V n : Nat) (v : Value) : Prop := w.ownsRow B 70 1 v n (lg V n)
theorem Lrow.nil (w : World) (B V : Nat) : Lrow w B V 0 (.slice none 0 0) := ⟨rfl, .inl ⟨rfl, rfl⟩⟩
theorem Lrow.shape {w : World} {B V n : Nat} {v : Value} (h : Lrow w B V n v) (hV : V < pw n) (hmax : n ≤ 140737488355328) : ∃ A c, v = .slice A n c ∧ Rd w w.heap.size A n c (lb V) := by
  obtain ⟨_, hor⟩ := h
  rcases hor with ⟨rfl, rfl⟩ | ⟨g, cap, cur, rfl, hg, hh, hn, hc, hs, ht⟩
  · exact ⟨none, 0, rfl, ⟨Nat.le_refl _, hmax, lb_lt V, fun j hj => lb_out hV hj, fun h => absurd h (by omega)⟩⟩
  · refine ⟨some ⟨g, 0, none⟩, cap, rfl, ⟨hn, hmax, lb_lt V, fun j hj => lb_out hV hj, fun _ => ⟨g, 0, rfl, lt_of_heap hh, fun j hj => ?_⟩⟩⟩
    rw [Nat.zero_add, cell_of_row w g j cur 70 (0, 0) hh, ← Array.getElem?_toList]
    have e := lg_at (V := V) hj
    rw [← ht, List.getElem?_take, Nat.mul_one, if_pos hj] at e
    exact e


/-- A number's limbs, however many, none that is 0 at the end. -/
def Lm (w : World) (B V : Nat) (v : Value) : Prop := ∃ A k c h, v = .slice A k c ∧ Rd w B A k c h ∧ (0 < k → h (k - 1) ≠ 0) ∧ vl h k = V

theorem Lm.below {w w' : World} {B V : Nat} {v : Value} (h : Lm w B V v) (hb : Below B w w') : Lm w' B V v := by
  obtain ⟨A, k, c, f, hv, hr, hl⟩ := h
  exact ⟨A, k, c, f, hv, hr.below hb, hl⟩
theorem Lm.mono {w : World} {B B' V : Nat} {v : Value} (h : Lm w B V v) (hb : B ≤ B') : Lm w B' V v := by
  obtain ⟨A, k, c, f, hv, hr, hl⟩ := h
  exact ⟨A, k, c, f, hv, hr.mono hb, hl⟩

theorem limbs_end {V n q : Nat} (hV : V < tw n) (hl : 0 < n → tw (n - 1) ≤ V) (h1 : n ≤ 32 * q) (h2 : 32 * q ≤ n + 31) : V < pw q ∧ (0 < q → lb V (q - 1) ≠ 0) := by
  have a : V < pw q := by
    rw [tw_pw]
    exact Nat.lt_of_lt_of_le hV (tw_mono h1)
  refine ⟨a, fun hq => ?_⟩
  obtain ⟨p, rfl⟩ : ∃ p, q = p + 1 := ⟨q - 1, by omega⟩
  have b : pw p ≤ V := by
    rw [tw_pw]
    exact Nat.le_trans (tw_mono (by omega)) (hl (by omega))
  rw [Nat.add_sub_cancel]
  unfold lb
  rw [pw_succ] at a
  have c := Nat.div_pos b (pw_pos p)
  have d : V / pw p < 4294967296 := (Nat.div_lt_iff_lt_mul (pw_pos p)).2 (by rw [Nat.mul_comm]; exact a)
  generalize V / pw p = x at *
  omega

end Go.Proofs.Ytdcolnipdipkhaa


namespace Go.Proofs.Ytdcolnipdipkhaa
set_option maxRecDepth 100000
open Go.RowKit

set_option maxHeartbeats 800000 in
theorem rsame_len (A D : Option Addr) (n c m d : Nat) (w : World) (hnm : ((n : Int) != (m : Int)) = true) (_h1 : n ≤ 140737488355328) (_h2 : m ≤ 140737488355328) :
    Calls Try.prog 51 #[.slice A n c, .slice D m d] w fun e w' => e = .returned (.bool false) ∧ w = w' := by
  go_enter Try.func51, Try.ntmps51
  go_wp2
  go_ret
  exact ⟨rfl, rfl⟩

set_option maxHeartbeats 800000 in
theorem rsame_nil (A D : Option Addr) (c d : Nat) (w : World) :
    Calls Try.prog 51 #[.slice A 0 c, .slice D 0 d] w fun e w' => e = .returned (.bool true) ∧ w = w' := by
  go_enter Try.func51, Try.ntmps51
  go_wp2
  refine wp_loop_rounds 1 ?_
  rw [rounds_succ]
  go_wp2
  go_ret
  exact ⟨rfl, rfl⟩

set_option maxHeartbeats 800000 in
theorem rsame_cells (b o b2 o2 n c d : Nat) (f g : Nat → Nat) (w : World) (_hc : n ≤ c) (_hm : n ≤ 140737488355328) (_hd : n ≤ d)
    (h1 : ∀ j, j < n → w.cell? ⟨b, o + j, none⟩ = some (.int .u32 (f j : Int))) (h2 : ∀ j, j < n → w.cell? ⟨b2, o2 + j, none⟩ = some (.int .u32 (g j : Int))) :
    Calls Try.prog 51 #[.slice (some ⟨b, o, none⟩) n c, .slice (some ⟨b2, o2, none⟩) n d] w (Tells w (∀ j, j < n → f j = g j)) := by
  go_enter Try.func51, Try.ntmps51
  go_wp2
  go_loopw [5] (fun i wr => ∃ k : Nat, k ≤ n ∧ i = .int .i64 k ∧ (∀ j, j < k → f j = g j) ∧ ∃ q, w.drewN q = wr) (fun i _ => n - (intOf i).toNat)
  case atStart => exact ⟨0, Nat.zero_le _, rfl, fun j h => by omega, 0, rfl⟩
  case round =>
    obtain ⟨k, hk, rfl, heq, q, rfl⟩ := hrel
    by_cases hkn : k < n
    · have c1 := h1 k hkn
      have c2 := h2 k hkn
      have i1 : (k : Int) < (n : Int) := by omega
      have Heq := hid heq
      clear heq h1 h2
      by_cases hfg : f k = g k
      · have hb : (((f k : Nat) : Int) != ((g k : Nat) : Int)) = false := by simp; omega
        have Hfg := hid hfg
        clear hfg
        go_wp2
        go_quiet (fail)
        go_wp2
        go_roundw
        case rel => exact ⟨k + 1, by omega, by go_num, fun j hj => by
          rcases Nat.lt_or_ge j k with h | h
          · exact Heq.out j h
          · obtain rfl : j = k := by omega
            exact Hfg.out, _, rfl⟩
        case measure => simp [intOf]; omega
      · have hb : (((f k : Nat) : Int) != ((g k : Nat) : Int)) = true := by simp; omega
        have Hfg := hid hfg
        clear hfg
        go_wp2
        go_quiet (fail)
        go_wp2
        go_ret
        exact ⟨_, rfl, ⟨(fun h => by cases h), (fun h => absurd (h k hkn) Hfg.out)⟩, _, drewN2 _ _ _⟩
    · obtain rfl : k = n := by omega
      have Heq := hid heq
      clear heq h1 h2
      go_wp2
      go_ret
      exact ⟨_, rfl, ⟨fun _ => Heq.out, fun _ => rfl⟩, _, rfl⟩

theorem rsame_any {B C : Nat} {A D : Option Addr} {n c m d : Nat} {f h : Nat → Nat} {w : World} (ha : Rd w B A n c f) (hb : Rd w C D m d h) :
    Calls Try.prog 51 #[.slice A n c, .slice D m d] w (Tells w (n = m ∧ ∀ j, f j = h j)) := by
  by_cases hnm : n = m
  · subst hnm
    rcases Nat.eq_zero_or_pos n with h0 | h0
    · subst h0
      refine (rsame_nil A D c d w).mono ?_
      rintro e w' ⟨rfl, rfl⟩
      exact ⟨true, rfl, ⟨fun _ => ⟨rfl, fun j => by rw [ha.out j (by omega), hb.out j (by omega)]⟩, fun _ => rfl⟩, 0, rfl⟩
    · obtain ⟨b, o, rfl, _, h1⟩ := ha.at_ h0
      obtain ⟨b2, o2, rfl, _, h2⟩ := hb.at_ h0
      refine (rsame_cells b o b2 o2 n c d f h w ha.cap ha.max hb.cap h1 h2).mono ?_
      intro e w' ht
      refine ht.of ⟨fun hh => ⟨rfl, fun j => ?_⟩, fun hh j _ => hh.2 j⟩
      rcases Nat.lt_or_ge j n with hlt | hge
      · exact hh j hlt
      · rw [ha.out j hge, hb.out j hge]
  · refine (rsame_len A D n c m d w (by simp; omega) ha.max hb.max).mono ?_
    rintro e w' ⟨rfl, rfl⟩
    exact ⟨false, rfl, ⟨(fun h => by cases h), (fun h => absurd h.1 hnm)⟩, 0, rfl⟩

/-- Limbs of one number are the same. -/
theorem rsame_lm {B C V : Nat} {v1 v2 : Value} {w : World} (h1 : Lm w B V v1) (h2 : Lm w C V v2) :
    Calls Try.prog 51 #[v1, v2] w fun e w' => e = .returned (.bool true) ∧ ∃ q, w.drewN q = w' := by
  obtain ⟨A, n, c, f, rfl, ha, hf, hV⟩ := h1
  obtain ⟨D, m, d, h, rfl, hb, hh, hU⟩ := h2
  refine (rsame_any ha hb).mono ?_
  rintro e w' ⟨r, rfl, hr, q, rfl⟩
  obtain rfl : r = true := hr.2 (ha.same hb hf hh (hV.trans hU.symm))
  exact ⟨rfl, q, rfl⟩

set_option maxHeartbeats 400000 in
theorem may_long (A : Option Addr) (n c : Nat) (w : World) (hn : 40 < n) (_hc : n ≤ c) (_hm : n ≤ 140737488355328) :
    Calls Try.prog 56 #[.slice A n c] w fun e w' => e = .returned (.bool false) ∧ w = w' := by
  go_enter Try.func56, Try.ntmps56
  go_wp2
  go_ret
  exact ⟨rfl, rfl⟩

set_option maxHeartbeats 400000 in
theorem may_nil (A : Option Addr) (c : Nat) (w : World) :
    Calls Try.prog 56 #[.slice A 0 c] w fun e w' => e = .returned (.bool true) ∧ w = w' := by
  go_enter Try.func56, Try.ntmps56
  go_wp2
  go_ret
  exact ⟨rfl, rfl⟩

set_option maxHeartbeats 400000 in
theorem may_last (b off n c x : Nat) (r : Bool) (w : World) (h0 : 0 < n) (hn : n ≤ 40) (_hc : n ≤ c) (hx : w.cell? ⟨b, off + (n - 1), none⟩ = some (.int .u32 (x : Int))) (h1 : (((x : Nat) : Int) != 0) = r) :
    Calls Try.prog 56 #[.slice (some ⟨b, off, none⟩) n c] w fun e w' => e = .returned (.bool r) ∧ w = w' := by
  have hne : ((n : Int) == 0) = false := by simp; omega
  cases r
  · go_enter Try.func56, Try.ntmps56
    go_wp2
    go_ret
    exact ⟨rfl, rfl⟩
  · go_enter Try.func56, Try.ntmps56
    go_wp2
    go_ret
    exact ⟨rfl, rfl⟩

theorem May_any {B : Nat} {A : Option Addr} {n c : Nat} {f : Nat → Nat} {w : World} (h : Rd w B A n c f) :
    Calls Try.prog 56 #[.slice A n c] w fun e w' => e = .returned (.bool (decide (Fit n f))) ∧ w = w' := by
  by_cases h1 : n ≤ 40
  · rcases Nat.eq_zero_or_pos n with h0 | h0
    · subst h0
      rw [show decide (Fit 0 f) = true by simp [Fit]]
      exact may_nil A c w
    · obtain ⟨b, off, rfl, _, hc⟩ := h.at_ h0
      refine may_last b off n c _ _ w h0 h1 h.cap (hc (n - 1) (by omega)) ?_
      by_cases hz : f (n - 1) = 0
      · rw [show decide (Fit n f) = false from decide_eq_false (fun h => h.2 h0 hz)]
        simp [hz]
      · rw [show decide (Fit n f) = true by simp [Fit, hz, h1]]
        simp; omega
  · rw [show decide (Fit n f) = false from decide_eq_false (fun h => h1 h.1)]
    exact may_long A n c w (by omega) h.cap h.max


end Go.Proofs.Ytdcolnipdipkhaa


namespace Go.Proofs.Ytdcolnipdipkhaa
open Go.RowKit

theorem lm_40 {n V : Nat} {h : Nat → Nat} (hlt : ∀ j, h j < 4294967296) (h1 : 0 < n → h (n - 1) ≠ 0) (hV : vl h n = V) : n ≤ 40 ↔ V < pw 40 := by
  subst hV
  constructor
  · intro hn
    exact Nat.lt_of_lt_of_le (vl_lt fun j _ => hlt j) (pw_mono hn)
  · intro hV
    rcases Nat.lt_or_ge 40 n with h2 | h2
    · have a := vl_ge (f := h) (k := n) (by omega) (h1 (by omega))
      have b : pw 40 ≤ pw (n - 1) := pw_mono (by omega)
      omega
    · exact h2

theorem lm_val {w : World} {V : Nat} {v : Value} (h : Lm w w.heap.size V v) (hV : V < pw 40) : Val w V v := by
  obtain ⟨A, n, c, f, rfl, hr, hl, hv⟩ := h
  exact ⟨A, n, c, f, rfl, hr, ⟨(lm_40 hr.lt hl hv).2 hV, hl⟩, hv⟩
theorem Val.lm {w : World} {V : Nat} {v : Value} (h : Val w V v) : Lm w w.heap.size V v := by
  obtain ⟨A, n, c, f, rfl, hr, hf, hv⟩ := h
  exact ⟨A, n, c, f, rfl, hr, hf.2, hv⟩

theorem rsame_val {V : Nat} {v1 v2 : Value} {w : World} (h1 : Val w V v1) (h2 : Val w V v2) :
    Calls Try.prog 51 #[v1, v2] w fun e w' => e = .returned (.bool true) ∧ ∃ q, w.drewN q = w' := rsame_lm h1.lm h2.lm

end Go.Proofs.Ytdcolnipdipkhaa

