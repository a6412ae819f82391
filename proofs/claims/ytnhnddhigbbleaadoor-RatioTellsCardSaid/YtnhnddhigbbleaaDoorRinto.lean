/- The reference's Into, Div. -/
import Derived.Test.YtnhnddhigbbleaaDoorRplus
import Derived.Test.YtnhnddhigbbleaaDoorRshift
namespace Go.Proofs.YtnhnddhigbbleaaDoor
open Go.RowKit

/-- Block g is a row of n cells of uint8, the numbers z 0 .. z (n - 1). -/
def Qb (w : World) (g n : Nat) (z : Nat → Nat) : Prop :=
  ∃ cs : Array Value, w.heap[g]? = some (.cells cs 5 (0, 0)) ∧ cs.size = n ∧ ∀ j, j < n → cs[j]? = some (.int .u8 (z j : Int))

section
variable {w w' : World} {g n : Nat} {z : Nat → Nat}
theorem Qb.cell (h : Qb w g n z) {j : Nat} (hj : j < n) : w.cell? ⟨g, j, none⟩ = some (.int .u8 (z j : Int)) := by
  obtain ⟨cs, h, _, hc⟩ := h
  rw [cell_of_row w g j cs 5 (0, 0) h]
  exact hc j hj
theorem Qb.lt (h : Qb w g n z) : g < w.heap.size := by
  obtain ⟨cs, h, _⟩ := h
  exact lt_of_heap h
theorem Qb.frozen (h : Qb w g n z) (j : Nat) : w.frozen? ⟨g, j, none⟩ = false := by
  obtain ⟨cs, h, _⟩ := h
  exact frozen_of_row w g j cs _ h
theorem Qb.below {B : Nat} (h : Qb w g n z) (hb : Below B w w') (hg : g < B) : Qb w' g n z := by
  obtain ⟨cs, h, h2⟩ := h
  exact ⟨cs, (hb.block g hg).trans h, h2⟩
theorem Qb.set (h : Qb w g n z) (i : Nat) : Qb (w.setCell ⟨g, i, none⟩ (.int .u8 1)) g n (fun j => if j = i then 1 else z j) := by
  obtain ⟨cs, h, hs, hc⟩ := h
  refine ⟨cs.setIfInBounds i (.int .u8 1), heap_setCell_same w g i cs _ _ h, by simpa using hs, fun j hj => ?_⟩
  rw [Array.getElem?_setIfInBounds]
  by_cases hji : i = j
  · subst hji
    simp [hs, hj]
  · rw [if_neg hji]
    have hji2 : ¬ j = i := by omega
    simp only [if_neg hji2]
    exact hc j hj
theorem Qb.congr {z' : Nat → Nat} (h : Qb w g n z) (hf : ∀ j, j < n → z j = z' j) : Qb w g n z' := by
  obtain ⟨cs, h, hs, hc⟩ := h
  exact ⟨cs, h, hs, fun j hj => by rw [← hf j hj]; exact hc j hj⟩
theorem Qb.zeros (w : World) (n : Nat) : Qb (w.alloc (.cells (madeCells (Value.int .u8 0).cells n) 5)) w.heap.size n (fun _ => 0) := by
  refine ⟨_, heap_alloc_new w _, by simp [madeCells, Value.cells], fun j hj => ?_⟩
  have h := toList_madeCells_one (.int .u8 0) n
  rw [← Array.getElem?_toList]
  erw [h]
  simp [hj]
end

theorem cells_of_bits_any {w : World} {B n c V : Nat} {A : Option Addr} (h : Bits w B A n c V) : ∀ p, A = some p → ∀ (j : Nat) (u : Value), (dg V n)[j]? = some u → w.cell? (p.add j) = some u := by
  intro p hp j u hj
  have hjn : j < n := by
    rcases Nat.lt_or_ge j n with h | h
    · exact h
    · rw [List.getElem?_eq_none (by simpa [dg] using h)] at hj; cases hj
  obtain ⟨b, off, rfl, _, hc⟩ := h.at_ (by omega)
  injection hp with hp
  subst hp
  rw [dg_at hjn] at hj
  injection hj with hj
  subst hj
  have : (⟨b, off, none⟩ : Addr).add j = ⟨b, off + j, none⟩ := by unfold Addr.add; simp
  rw [this]
  exact hc j hjn
theorem dg_one (V n : Nat) : ∀ u ∈ dg V n, u.oneCell' = true := by
  intro u hu
  simp [dg] at hu
  obtain ⟨j, _, rfl⟩ := hu
  rfl

theorem bt_double_zero {R b : Nat} (hb : b ≤ 1) : bt (2 * R + b) 0 = b := by
  unfold bt
  rw [tw_zero, Nat.div_one]
  omega
theorem bt_double_succ {R b : Nat} (hb : b ≤ 1) (j : Nat) : bt (2 * R + b) (1 + j) = bt R j := by
  unfold bt
  rw [tw_add, show tw 1 = 2 from rfl, ← Nat.div_div_eq_div_mul, show (2 * R + b) / 2 = R by omega]
theorem dg_double {R b : Nat} (hb : b ≤ 1) (n : Nat) : dg (2 * R + b) (1 + n) = [Value.int .u8 (b : Int)] ++ dg R n := by
  unfold dg
  rw [List.range_add, List.map_append, List.map_map]
  congr 1
  · simp [bt_double_zero hb]
  · apply List.map_congr_left
    intro j _
    show Value.int .u8 (bt (2 * R + b) (1 + j) : Int) = _
    rw [bt_double_succ hb]

theorem bt_quot (U V j : Nat) : bt (U / V) j = U / tw j / V % 2 := by
  unfold bt
  rw [Nat.div_div_eq_div_mul, Nat.div_div_eq_div_mul, Nat.mul_comm]

theorem div_down {U V s : Nat} (hV : 0 < V) : let R := U / tw (s + 1) % V
    (V ≤ 2 * R + bt U s → U / tw s % V = 2 * R + bt U s - V ∧ bt (U / V) s = 1) ∧ (2 * R + bt U s < V → U / tw s % V = 2 * R + bt U s ∧ bt (U / V) s = 0) := by
  intro R
  have hd := Nat.div_add_mod (U / tw (s + 1)) V
  have hu := up_bit U s
  have hb := bt_le U s
  have hr := Nat.mod_lt (U / tw (s + 1)) hV
  rw [bt_quot]
  show (V ≤ 2 * (U / tw (s + 1) % V) + bt U s → _) ∧ (2 * (U / tw (s + 1) % V) + bt U s < V → _)
  show (_ → _ = 2 * (U / tw (s + 1) % V) + bt U s - V ∧ _) ∧ (_ → _ = 2 * (U / tw (s + 1) % V) + bt U s ∧ _)
  generalize U / tw (s + 1) % V = r at *
  generalize U / tw (s + 1) / V = q at *
  generalize bt U s = b at *
  have e : U / tw s = (2 * r + b) + V * (2 * q) := by
    rw [hu, ← hd, Nat.mul_add, Nat.mul_left_comm]
    omega
  rw [e]
  refine ⟨fun h => ?_, fun h => ?_⟩
  · have e2 : (2 * r + b) + V * (2 * q) = (2 * r + b - V) + V * (2 * q + 1) := by
      rw [Nat.mul_add, Nat.mul_one]
      omega
    rw [e2, Nat.add_mul_mod_self_left, Nat.add_mul_div_left _ _ hV, Nat.mod_eq_of_lt (by omega), Nat.div_eq_of_lt (by omega)]
    exact ⟨rfl, by omega⟩
  · rw [Nat.add_mul_mod_self_left, Nat.add_mul_div_left _ _ hV, Nat.mod_eq_of_lt h, Nat.div_eq_of_lt h]
    exact ⟨rfl, by omega⟩

theorem Bt.set {w : World} {B V : Nat} {v : Value} (h : Bt w B V v) (g k : Nat) (x : Value) (hf : Fresh (g + 1) v) : Bt (w.setCell ⟨g, k, none⟩ x) B V v := by
  obtain ⟨A, n, c, rfl, hr, hl⟩ := h
  refine ⟨A, n, c, rfl, ⟨hr.cap, hr.max, hr.nil, hr.lt, fun hn => ?_⟩, hl⟩
  obtain ⟨b, off, rfl, hB, hc⟩ := hr.at_ hn
  have hb := hf b off n c rfl
  have hblk := Below.heap_setCell w ⟨g, k, none⟩ x b (by show b ≠ g; omega)
  refine ⟨b, off, rfl, hB, fun j hj => ?_⟩
  rw [← hc j hj]
  exact World.cell?_of_block hblk

set_option maxHeartbeats 3200000 in
theorem Into_any {w : World} {U V : Nat} {v1 v2 : Value} (h1 : Bt w w.heap.size U v1) (h2 : Bt w w.heap.size V v2) (hU : U < tw 3000) (hV : V < tw 3000) (hV0 : 0 < V) :
    Calls Tryd.prog 34 #[v1, v2] w fun e w' => ∃ q r, e = .returned (.tuple #[q, r]) ∧ Hid (Below w.heap.size w w') ∧ Hid (Bt w' w'.heap.size (U / V) q) ∧ Hid (Bt w' w'.heap.size (U % V) r) := by
  obtain ⟨A, n, c, rfl, hx, hl⟩ := h1
  obtain ⟨D, m, d, rfl, hy, hl2⟩ := h2
  have hn := Bt.len hl hU hx
  have hm := Bt.len hl2 hV hy
  obtain ⟨i0, hi, hz0, hz1, hz2⟩ := info_one info_u8
  have hmk := run_make_row1 (P := Tryd.prog) 43 5 i0 _ Tryd.underlying43 hi hz0 hz1 .i64 .i64 n (by rw [hz2]; omega) (by omega) w
  have bel0 : Below w.heap.size w (w.alloc (.cells (madeCells (Value.int .u8 0).cells n) 5)) := (Below.refl _ w).alloc (Nat.le_refl _) _
  have Hq0 := hid (Qb.zeros w n)
  have Hx := hid hx
  have Hy := hid hy
  have HV := hid hV
  have HV0 := hid hV0
  have Hbel0 := hid bel0
  have hxc := hx.cap
  have hg0 : w.heap.size < (w.alloc (.cells (madeCells (Value.int .u8 0).cells n) 5)).heap.size := by simp
  have Hg0 := hid hg0
  clear hx hy hl hl2 hU hV hV0 bel0 hi hz0 hz1 hz2 hg0
  go_enter Tryd.func34, Tryd.ntmps34
  go_wp2_with fail
  go_loopw [7, 8] (fun v i wr => ∃ t : Nat, t ≤ n ∧ i = .int .i64 ((t : Int) - 1) ∧ Hid (Bt wr wr.heap.size (U / tw t % V) v) ∧ Hid (Below w.heap.size w wr) ∧ Hid (w.heap.size < wr.heap.size) ∧
    Hid (∃ z, Qb wr w.heap.size n z ∧ ∀ j, j < n → z j = if j < t then 0 else bt (U / V) j)) (fun _ i _ => (intOf i + 1).toNat)
  case atStart => exact ⟨n, Nat.le_refl _, rfl, hid (by rw [Nat.div_eq_of_lt Hx.out.lt, Nat.zero_mod]; exact bt_nil _ _), Hbel0, Hg0, hid ⟨_, Hq0.out, fun j hj => (if_pos hj).symm⟩⟩
  case round =>
    obtain ⟨t, ht, rfl, Hr, hbel, hsz, Hq⟩ := hrel
    cases t with
    | zero =>
      have hb : Bits wr wr.heap.size (some ⟨w.heap.size, 0, none⟩) n n (U / V) := by
        obtain ⟨z, hz, hzj⟩ := Hq.out
        refine ⟨Nat.le_refl _, by omega, fun h => (by cases h), Nat.lt_of_le_of_lt (Nat.div_le_self _ _) Hx.out.lt, fun _ => ⟨w.heap.size, 0, rfl, hsz.out, fun j hj => ?_⟩⟩
        rw [Nat.zero_add, hz.cell hj, hzj j hj, if_neg (by omega)]
      have C1 := hid (rcut_any hb)
      clear hb
      go_wp2_with fail
      refine C1.out.mono ?_
      rintro e w' ⟨q, rfl, rfl, hbt⟩
      have Hbt := hid hbt
      clear hbt C1
      go_wp2
      go_ret2
      refine ⟨_, _, rfl, hbel, Hbt, ?_⟩
      have h := Hr.out
      rw [tw_zero, Nat.div_one] at h
      exact h
    | succ s =>
      obtain ⟨b0, off, rfl, hbB, hc⟩ := Hx.out.at_ (by omega)
      have xa := (hbel.out.cell (p := ⟨b0, off + s, none⟩) hbB).trans (hc s (by omega))
      have hb1 := bt_le U s
      have hdd : (V ≤ 2 * (U / tw (s + 1) % V) + bt U s → U / tw s % V = 2 * (U / tw (s + 1) % V) + bt U s - V ∧ bt (U / V) s = 1) ∧ (2 * (U / tw (s + 1) % V) + bt U s < V → U / tw s % V = 2 * (U / tw (s + 1) % V) + bt U s ∧ bt (U / V) s = 0) := div_down HV0.out
      have hRV := Nat.mod_lt (U / tw (s + 1)) HV0.out
      have Hdd := hid hdd
      clear hc hdd
      obtain ⟨y, hy⟩ : ∃ y, y = bt U s := ⟨_, rfl⟩
      obtain ⟨R, hR⟩ : ∃ R, R = U / tw (s + 1) % V := ⟨_, rfl⟩
      rw [← hy, ← hR] at Hdd
      rw [← hy] at xa hb1
      rw [← hR] at Hr hRV
      obtain ⟨Ar, nr, cr, rfl, hxr, hlr⟩ := Hr.out
      have hnr := Bt.len hlr (Nat.lt_trans hRV HV.out) hxr
      have hown : (wr.alloc (.cells #[.int .u8 (y : Int)] 5)).ownsRow wr.heap.size 5 1 (.slice (some ⟨wr.heap.size, 0, none⟩) 1 1) 1 [.int .u8 (y : Int)] := ⟨rfl, .inr ⟨wr.heap.size, 1, #[.int .u8 (y : Int)], rfl, Nat.le_refl _, heap_alloc_new wr _, Nat.le_refl _, by unfold maxLen; omega, rfl, rfl⟩⟩
      have hba : Below wr.heap.size wr (wr.alloc (.cells #[.int .u8 (y : Int)] 5)) := (Below.refl _ wr).alloc (Nat.le_refl _) _
      have hcells := cells_of_bits_any (hxr.below hba)
      have hrc := hxr.cap
      have Hxr := hid hxr
      have Hown := hid hown
      have Hba := hid hba
      have Hcells := hid hcells
      have Hlt := hid (show 2 * R + y < tw (1 + nr) by
        have := hxr.lt
        rw [tw_add, show tw 1 = 2 from rfl]
        omega)
      have hnil := hxr.nil
      have Hnil := hid (fun h : Ar = none => (show nr = 0 ∧ cr = 0 by have := hnil h; omega))
      clear hxr hlr hown hba hcells hnil hy hR hRV
      go_wp2_with (at_builtin; refine wpList_append_src rfl (.tmp 23) (.tmp 24) 43 rfl 5 (.int .u8 0) 1 Tryd.underlying43 info_u8 rfl (by decide) rfl rfl Hown.out (by simp) (by simp [dg]) Hnil.out Hcells.out (dg_one _ _) (by omega) ?_; intro v' w' hown' hbel')
      have hrow : Row w' wr.heap.size (2 * R + y) (1 + nr) v' := by
        have h := hown'.out
        rw [← dg_double hb1] at h
        exact h
      have Hfr := hid hrow.fresh
      obtain ⟨A1, c1, rfl, hbits⟩ := Row.shape hrow Hlt.out (by omega)
      have C1 := hid (rcut_at hbits)
      have B1 := hid (Hba.out.trans hbel'.out)
      clear hrow hown' hbel' hbits Hown Hcells Hba
      refine C1.out.mono ?_
      rintro e wa ⟨m1, rfl, rfl, hbt⟩
      obtain ⟨_, _, _, he, hbits, hl1⟩ := id hbt
      injection he with e1 e2 e3
      subst e1 e2 e3
      have C2 := hid (Order_any hbits ((Hy.out.below hbel.out).below (B1.out.mono hbel.out.size)))
      have Hbits := hid hbits
      have Hbt := hid hbt
      have hm4 : m1 ≤ 4000 := Nat.le_trans (Bt.len hl1 Hlt.out hbits) (by omega)
      clear C1 hbits hbt hl1
      rcases Nat.lt_or_ge (2 * R + y) V with hlt | hge
      · rw [cmpN_lt hlt] at C2
        have Hd := hid (Hdd.out.2 hlt)
        clear hlt Hdd
        go_wp2_with fail
        refine C2.out.mono ?_
        rintro e wb ⟨rfl, rfl⟩
        go_wp2_with fail
        go_roundw
        case rel =>
          refine ⟨s, by omega, by go_num, ?_, hid (hbel.out.trans (B1.out.mono hbel.out.size)), hid (Nat.lt_of_lt_of_le hsz.out B1.out.size), ?_⟩
          · rw [Hd.out.1]
            exact Hbt
          · obtain ⟨z, hz, hzj⟩ := Hq.out
            refine ⟨z, hz.below B1.out hsz.out, fun j hj => ?_⟩
            rw [hzj j hj]
            by_cases h1 : j < s
            · rw [if_pos (by omega), if_pos h1]
            · rw [if_neg h1]
              by_cases h2 : j = s
              · subst h2
                rw [if_pos (by omega), Hd.out.2]
              · rw [if_neg (by omega)]
        case measure => simp [intOf]
      · obtain ⟨k, hk, hk0⟩ : ∃ k : Int, cmpN (2 * R + y) V = k ∧ 0 ≤ k := by
          rcases Nat.lt_or_ge V (2 * R + y) with h | h
          · exact ⟨1, cmpN_gt h, by omega⟩
          · exact ⟨0, cmpN_eq (by omega), by omega⟩
        rw [hk] at C2
        have Hd := hid (Hdd.out.1 hge)
        have C3 := hid (Minus_own Hbits.out ((Hy.out.below hbel.out).below (B1.out.mono hbel.out.size)) (Nat.le_refl _) (Nat.le_trans hbel.out.size B1.out.size) hm4 hge)
        clear hge Hdd hk
        go_wp2_with fail
        refine C2.out.mono ?_
        rintro e wb ⟨rfl, rfl⟩
        go_wp2_with fail
        refine C3.out.mono ?_
        rintro e wb ⟨v3, rfl, hb3, hbt3, hfr3⟩
        have B3 := hid (B1.out.trans (hb3.mono B1.out.size))
        have Hq3 : Hid (∃ z, Qb wb w.heap.size n z ∧ ∀ j, j < n → z j = if j < s + 1 then 0 else bt (U / V) j) := by
          obtain ⟨z, hz, hzj⟩ := Hq.out
          exact ⟨z, hz.below B3.out hsz.out, hzj⟩
        obtain ⟨z, hz, hzj⟩ := Hq3.out
        have q1 := hz.cell (show s < n by omega)
        have q2 := hz.frozen s
        have Hbt3 := hid (hbt3.set w.heap.size s (.int .u8 1) (fun b off n' c' hv => Nat.lt_of_lt_of_le hsz.out (Nat.le_trans B1.out.size (hfr3 b off n' c' hv))))
        have Hz := hid hz
        have Hzj := hid hzj
        clear hz hzj hb3 hbt3 hfr3 C2 C3
        generalize z s = zs at q1
        go_wp2_with fail
        go_roundw
        case rel =>
          refine ⟨s, by omega, by go_num, ?_, hid ((hbel.out.trans (B3.out.mono hbel.out.size)).setCell (p := ⟨w.heap.size, s, none⟩) (Nat.le_refl _) _), hid ?_, ?_⟩
          · rw [Hd.out.1]
            exact Hbt3.out.mono (by simp)
          · have := Nat.lt_of_lt_of_le hsz.out B3.out.size
            simpa using this
          · refine ⟨_, Hz.out.set s, fun j hj => ?_⟩
            by_cases h2 : j = s
            · rw [if_pos h2, h2, if_neg (by omega), Hd.out.2]
            · rw [if_neg h2, Hzj.out j hj]
              by_cases h1 : j < s
              · rw [if_pos (by omega), if_pos h1]
              · rw [if_neg h1, if_neg (by omega)]
        case measure => simp [intOf]

end Go.Proofs.YtnhnddhigbbleaaDoor
