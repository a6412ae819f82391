/- Contracts: putTwice, divide, Div. -/
import Derived.Test.YtflegkefgbifcaaLess
import Derived.Test.YtflegkefgbifcaaRight
import Derived.Test.YtflegkefgbifcaaVal
namespace Go.Proofs.Ytflegkefgbifcaa
open Go.RowKit

/-- What putTwice leaves in the row. -/
def Twice (w : World) (g n : Nat) (z : Nat → Nat) (bit : Nat) (e : Ending) (w' : World) : Prop :=
  e = .returned (.tuple #[]) ∧ w.grownBy w' (some g) ∧ ∃ y c, Blk w' 50 g n y ∧ (∀ j, j < n → y j < 4294967296) ∧ c ≤ 1 ∧ vl y n + c * pw n = 2 * vl z n + bit

set_option maxHeartbeats 1600000 in
theorem putTwice_any {w : World} {g n : Nat} {z : Nat → Nat} (hz : Blk w 50 g n z) (hzl : ∀ j, j < n → z j < 4294967296) (hn : n ≤ 64) (bit : Nat) (hb : bit ≤ 1) :
    Calls Try.prog 55 #[.slice (some ⟨g, 0, none⟩) n n, .int .u32 (bit : Int)] w (Twice w g n z bit) := by
  have hgl := hz.lt
  have Hz := hid hz
  have Hzl := hid hzl
  clear hz hzl
  go_enter Try.func55, Try.ntmps55
  go_wp2_with fail
  refine (places_any _ _).mono ?_
  rintro e w' ⟨rfl, rfl⟩
  go_wp2_with fail
  go_loopw [12] (fun i wr => ∃ k : Nat, k ≤ n ∧ i = .int .i64 k ∧ ∃ (y : Nat → Nat) (c : Nat), Blk wr 50 g n y ∧ Box wr w.heap.size 53 (.int .u64 (c : Int)) ∧ w.grownBy wr (some g) ∧
      (∀ j, k ≤ j → y j = z j) ∧ (∀ j, j < k → y j < 4294967296) ∧ c ≤ 1 ∧ vl y k + c * pw k = 2 * vl z k + bit) (fun i _ => n - (intOf i).toNat)
  case atStart =>
    exact ⟨0, by omega, rfl, z, bit, Hz.out.alloc _, Box.new' rfl, World.grownBy_alloc _ _ _, fun _ _ => rfl, fun j hj => by omega, hb, by simp [vl, pw]⟩
  case round =>
    obtain ⟨k, hk, rfl, y, c, hblk, hbox, hgr, hyz, hy, hc, hsum⟩ := hrel
    have xc := hbox.cell
    have xf := hbox.frozen
    have Hblk := hid hblk
    have Hbox := hid hbox
    have Hgr := hid hgr
    have Hyz := hid hyz
    have Hy := hid hy
    have Hsum := hid hsum
    clear hblk hbox hgr hyz hy hsum
    by_cases hkn : k < n
    · have xb := Hblk.out.cell hkn
      have xg := Hblk.out.frozen k
      have zk := Hzl.out k hkn
      have hyk := Hyz.out k (Nat.le_refl _)
      rw [hyk] at xb
      clear hyk
      generalize hx : z k = x at *
      have Hx := hid hx
      clear hx
      go_wp2_with fail
      refine (place_any _ c _ _ (by omega) (by omega) xc xf).mono ?_
      rintro e w' ⟨rfl, rfl⟩
      rw [show ((x : Int) * 2).toNat = x * 2 by omega]
      generalize hq : (x * 2 + c) / 4294967296 = q
      generalize hm : (x * 2 + c) % 4294967296 = l
      have Hq := hid hq
      have Hl := hid hm
      clear hq hm
      go_wp2
      go_roundw
      case rel =>
        have hq := Hq.out
        have hl := Hl.out
        refine ⟨k + 1, by omega, by go_num, fun j => if j = k then l else y j, q, (Hblk.out.far (p := ⟨w.heap.size, 0, none⟩) (by show g ≠ w.heap.size; omega) _).set k l, (Hbox.out.set _).far (p := ⟨g, k, none⟩) (by show w.heap.size ≠ g; omega) _, put_grown Hgr.out (Nat.le_refl _) _ k _, ?_, ?_, by omega, ?_⟩
        · intro j hj
          show (if j = k then l else y j) = z j
          rw [if_neg (by omega)]
          exact Hyz.out j (by omega)
        · intro j hj
          show (if j = k then l else y j) < _
          split
          · omega
          · exact Hy.out j (by omega)
        · have st := twice_step Hsum.out
          rw [Hx.out, hq, hl] at st
          rw [vl_put]
          exact st
      case measure => simp [intOf]; omega
    · obtain rfl : k = n := by omega
      go_wp2
      go_end0
      exact ⟨rfl, Hgr.out, y, c, Hblk.out, Hy.out, hc, Hsum.out⟩

theorem size_1280 {V s : Nat} (h : Size V s) (hV : V < pw 40) : s ≤ 1280 := by
  rcases Nat.lt_or_ge 1280 s with h1 | h1
  · have a := h.2 (by omega)
    have b : pw 40 ≤ 2 ^ (s - 1) := pw40_le (by omega)
    omega
  · exact h1
theorem div_start {V W s t k : Nat} (hs : Size V s) (ht : Size W t) (hk : k = s + 1 - t) (hW : 0 < W) : V / 2 ^ k < W := by
  have t0 : 0 < t := by
    rcases Nat.eq_zero_or_pos t with h | h
    · subst h
      have := ht.1
      simp at this
      omega
    · exact h
  refine Nat.div_lt_of_lt_mul ?_
  have a := ht.2 t0
  have b : 2 ^ k * 2 ^ (t - 1) ≤ 2 ^ k * W := Nat.mul_le_mul_left _ a
  rw [← Nat.pow_add] at b
  have c : 2 ^ s ≤ 2 ^ (k + (t - 1)) := Nat.pow_le_pow_right (by omega) (by omega)
  have d := hs.1
  omega

theorem size_le {V s n : Nat} (h : Size V s) (hV : V < pw n) : s ≤ 32 * n := by
  rcases Nat.lt_or_ge (32 * n) s with h1 | h1
  · have a := h.2 (by omega)
    have b : pw n ≤ 2 ^ (s - 1) := pw_le_two (by omega)
    omega
  · exact h1
theorem size_pos' {V s : Nat} (h : Size V s) (hV : 0 < V) : 0 < s := by
  rcases Nat.eq_zero_or_pos s with h1 | h1
  · subst h1
    have := h.1
    simp at this
    omega
  · exact h1

theorem mod_u32 (x : Nat) (h : x < 4294967296) : (x : Int) % 4294967296 = (x : Int) := by omega
theorem half_up (V t : Nat) : V / 2 ^ t = 2 * (V / 2 ^ (t + 1)) + V / 2 ^ t % 2 := by
  rw [Nat.pow_succ, ← Nat.div_div_eq_div_mul]
  omega
theorem quiet_add {P : Program} {f : FuncId} {args : Array Value} {w : World} {a n : Nat} {v : Value}
    (h : Calls P f args (w.drewN (a + n)) fun e w' => e = .returned v ∧ w' = w.drewN (a + n)) : Calls P f args (w.drewN (a + n)) fun e w'' => e = .returned v ∧ ∃ m, w'' = w.drewN (a + m) :=
  h.mono fun _ _ ⟨he, hm⟩ => ⟨he, n, hm⟩

set_option maxHeartbeats 3200000 in
theorem divide_any {A D : Option Addr} {n c m d : Nat} {f h : Nat → Nat} {w : World} (ha : Rd w w.heap.size A n c f) (hb : Rd w w.heap.size D m d h) (hf : Fit n f) (hh : Fit m h) (hm0 : 0 < m) :
    Calls Try.prog 31 #[.slice A n c, .slice D m d] w fun e w' => ∃ v1 v2, e = .returned (.tuple #[v1, v2]) ∧ Below w.heap.size w w' ∧ Num 50 w.heap.size w' (vl f n / vl h m) v1 ∧ Num 50 w.heap.size w' (vl f n % vl h m) v2 := by
  have Ca := hid (size_any ha hf)
  have Cb := hid (size_any hb hh)
  have Ha := hid ha
  have Hb := hid hb
  have Hf := hid hf
  have Hh := hid hh
  have n40 := hf.1
  have m40 := hh.1
  clear ha hb hf hh
  go_enter Try.func31, Try.ntmps31
  go_wp2_with fail
  go_step3
  go_upto_region 1 with fail
  go_cut [6] from 9 to 15 (fun s6 wx => ∃ n0 s1 s2 : Nat, s6 = .int .i64 (n0 : Int) ∧ w = wx ∧ Hid (Size (vl f n) s1) ∧ Hid (Size (vl h m) s2) ∧ Hid (n0 = s1 + 1 - s2))
  case first =>
    go_wp2_with fail
    refine Ca.out.mono ?_
    rintro e w' ⟨s1, rfl, rfl, hs1⟩
    have Hs1 := hid hs1
    have b1 : s1 ≤ 1280 := size_1280 hs1 (vl_pw40 Ha.out Hf.out)
    clear hs1
    go_wp2_with fail
    refine Cb.out.mono ?_
    rintro e w' ⟨s2, rfl, rfl, hs2⟩
    have Hs2 := hid hs2
    have b2 : s2 ≤ 1280 := size_1280 hs2 (vl_pw40 Hb.out Hh.out)
    clear hs2
    go_wp2_with fail
    go_meet
    exact ⟨s1 + 1 - s2, s1, s2, congrArg (Value.int IntKind.i64) (by omega), rfl, Hs1, Hs2, rfl⟩
  case rest =>
    obtain ⟨n0, s1, s2, rfl, rfl, Hs1, Hs2, Hn0⟩ := hcut
    clear Ca Cb
    have hW0 : 0 < vl h m := by
      have a := vl_ge hm0 (Hh.out.2 hm0)
      have b := pw_pos (m - 1)
      omega
    have b1 : s1 ≤ 1280 := size_1280 Hs1.out (vl_pw40 Ha.out Hf.out)
    have hn0 : n0 ≤ 1281 := by have := Hn0.out; omega
    have hstart : vl f n / 2 ^ n0 < vl h m := div_start Hs1.out Hs2.out Hn0.out hW0
    obtain ⟨Nq, hNq⟩ : ∃ Nq, Nq = (n0 + 31) / 32 := ⟨_, rfl⟩
    have hmq : ∀ w, (Instr.makeSlice 22 (.int .i64 (((n0 : Int) + 32 - 1) / 32)) (.int .i64 (((n0 : Int) + 32 - 1) / 32))).run Try.prog w = .ok (.slice (some ⟨w.heap.size, 0, none⟩) Nq Nq) (w.alloc (.cells (madeCells #[.int .u32 0] Nq) 50)) := by
      intro w
      have h := make_u32 Nq (by omega) w
      rw [show ((Nq : Nat) : Int) = ((n0 : Int) + 32 - 1) / 32 by omega] at h
      exact h
    have hmr : ∀ w, (Instr.makeSlice 22 (.int .i64 ((m : Int) + 1)) (.int .i64 ((m : Int) + 1))).run Try.prog w = .ok (.slice (some ⟨w.heap.size, 0, none⟩) (m + 1) (m + 1)) (w.alloc (.cells (madeCells #[.int .u32 0] (m + 1)) 50)) := by
      intro w
      have h := make_u32 (m + 1) (by omega) w
      rw [show ((m + 1 : Nat) : Int) = (m : Int) + 1 by omega] at h
      exact h
    have Hstart := hid hstart
    have hNq1 : n0 ≤ 32 * Nq := by omega
    have hNq2 : Nq ≤ 42 := by omega
    clear hstart hNq
    have bel0 : Below w.heap.size w ((w.alloc (.cells (madeCells #[.int .u32 0] Nq) 50)).alloc (.cells (madeCells #[.int .u32 0] (m + 1)) 50)) := ((Below.refl _ w).alloc (Nat.le_refl _) _).alloc (by simp) _
    have Cr := hid (right_any (w := (w.alloc (.cells (madeCells #[.int .u32 0] Nq) 50)).alloc (.cells (madeCells #[.int .u32 0] (m + 1)) 50)) ((Ha.out.below bel0).mono (by simp; omega)) Hf.out n0 (by omega))
    have Hbel0 := hid bel0
    clear bel0
    go_wp2_with fail
    refine Cr.out.mono ?_
    rintro e w3 ⟨v, rfl, ⟨Ar, kr, cr, fr, rfl, hmk, hfit, hval⟩, hbel3⟩
    have hsz : (Try.prog.info? 50).map (·.size) = some 1 := by kernel_rfl
    have hkm : kr ≤ m := by
      rcases Nat.lt_or_ge m kr with h1 | h1
      · have a := vl_ge (by omega) (hfit.2 (by omega))
        have b := vl_lt (f := h) (k := m) (fun j _ => Hb.out.lt j)
        have c : pw m ≤ pw (kr - 1) := pw_mono (by omega)
        have d := Hstart.out
        omega
      · exact h1
    have hbq := ((Blk.zeros w 50 Nq).alloc (.cells (madeCells #[.int .u32 0] (m + 1)) 50)).below hbel3 (by simp; omega)
    have hbr := (Blk.zeros' (w := w.alloc (.cells (madeCells #[.int .u32 0] Nq) 50)) (e := 50) (n := m + 1) (g := w.heap.size + 1) (by simp)).below hbel3 (by simp)
    have Hbq := hid hbq
    have hmk' := hmk
    have Hmk := hid hmk'
    have Hval := hid hval
    have Hbel3 := hid (Hbel0.out.trans (hbel3.mono (by simp; omega)))
    clear hbq hmk' hval hbel3 hmq hmr Cr
    go_wp2_with (with_reducible refine wpList_copy_blk rfl (.tmp 25) (.tmp 28) 22 rfl 50 Try.underlying22 hsz rfl rfl hbr hmk (by omega) (by omega) ?_; intro w4 hb4 hbel4)
    have hz0 : ∀ j, (fun j => if j < kr then fr j else 0) j < 4294967296 := fun j => by
      show (if j < kr then fr j else 0) < _
      split
      · exact hmk.lt j
      · omega
    have hv0 : vl (fun j => if j < kr then fr j else 0) (m + 1) = vl f n / 2 ^ n0 := by
      rw [vl_above (k := kr) (by omega) (fun j h1 _ => if_neg (by omega)), vl_congr (g := fr) (fun j hj => if_pos hj)]
      exact Hval.out
    have Hz0 := hid hz0
    have Hv0 := hid hv0
    have Hbq4 := hid (Hbq.out.below hbel4.out (by omega))
    have Hbel4 := hid (Hbel3.out.trans (hbel4.out.mono (by omega)))
    have hl4 : w.heap.size + 1 < w4.heap.size := by
      have a := hb4.out.lt
      omega
    clear hz0 hv0 hbr hmk hfit hsz Hbel3 hbel4 Hbq
    go_step3
    go_wp2_with fail
    go_loopg [7] n0 (fun t s7 wr => t ≤ n0 ∧ s7 = .int .i64 ((t : Int) - 1) ∧ ∃ (zq zr : Nat → Nat) (Q : Nat), Hid (Blk wr 50 w.heap.size Nq zq) ∧ Hid (Blk wr 50 (w.heap.size + 1) (m + 1) zr) ∧ Hid (Below w.heap.size w wr) ∧
      Hid (∀ j, zq j < 4294967296) ∧ Hid (∀ j, zr j < 4294967296) ∧ Hid (vl zq Nq = Q * 2 ^ t) ∧ Hid (vl f n / 2 ^ t = Q * vl h m + vl zr (m + 1)) ∧ Hid (vl zr (m + 1) < vl h m) ∧ w.heap.size + 1 < wr.heap.size)
    case atStart => exact ⟨Nat.le_refl _, rfl, _, _, 0, Hbq4, hb4, Hbel4, hid (fun _ => (by decide : 0 < 4294967296)), Hz0, hid (by
        rw [vl_above (k := 0) (Nat.zero_le _) (fun _ _ _ => rfl)]; simp [vl]), hid (by rw [Hv0.out]; omega), hid (by rw [Hv0.out]; exact Hstart.out), hl4⟩
    case round =>
      obtain ⟨ht, rfl, zq, zr, Q, Hzq, Hzr, Hbel, Hlq, Hlr, HQ, HV, HR, hl5⟩ := hrel
      cases gk with
      | zero =>
        rw [Nat.pow_zero, Nat.div_one] at HV
        rw [Nat.pow_zero, Nat.mul_one] at HQ
        have hQv : Q = vl f n / vl h m := by
          rw [HV.out, Nat.mul_comm, Nat.mul_add_div hW0, Nat.div_eq_of_lt HR.out, Nat.add_zero]
        have hRv : vl zr (m + 1) = vl f n % vl h m := by
          rw [HV.out, Nat.mul_comm, Nat.mul_add_mod, Nat.mod_eq_of_lt HR.out]
        have hV40 : vl f n < pw 40 := vl_pw40 Ha.out Hf.out
        have hq40 : cutLen zq Nq ≤ 40 := (cutLen_40 Hlq.out).2 (by
          rw [HQ.out, hQv]
          exact Nat.lt_of_le_of_lt (Nat.div_le_self _ _) hV40)
        have hr40 : cutLen zr (m + 1) ≤ 40 := (cutLen_40 Hlr.out).2 (by
          have a := vl_pw40 Hb.out Hh.out
          have b := HR.out
          omega)
        have Rq := cut_num (B := w.heap.size) Hzq.out (Nat.le_refl _) Hlq.out hq40
        have Rr := cut_num (B := w.heap.size) Hzr.out (by omega) Hlr.out hr40
        rw [HQ.out, hQv] at Rq
        rw [hRv] at Rr
        have Cq := hid (cut_any w.heap.size Nq Nq zq wr (Nat.le_refl _) (by omega) (fun j hj => Hzq.out.cell hj))
        have Cr2 := hid (cut_any (w.heap.size + 1) (m + 1) (m + 1) zr wr (Nat.le_refl _) (by omega) (fun j hj => Hzr.out.cell hj))
        have HRq := hid Rq
        have HRr := hid Rr
        clear hQv hRv hV40 hq40 hr40 Rq Rr
        generalize cutLen zq Nq = kq at *
        generalize cutLen zr (m + 1) = kr2 at *
        go_wp2_with fail
        refine Cq.out.mono ?_
        rintro e w' ⟨rfl, rfl⟩
        go_wp2_with fail
        refine Cr2.out.mono ?_
        rintro e w' ⟨rfl, rfl⟩
        go_wp2_with fail
        try rw [Exit.noGoto_ret]
        go_ret2
        exact ⟨_, _, rfl, Hbel.out, HRq.out, HRr.out⟩
      | succ t =>
        rw [show (((t + 1 : Nat) : Int) - 1) = (t : Int) by omega]
        have htn : t < 32 * n := by
          have a := Hn0.out
          have b := size_le (Hs1.out) (vl_lt (f := f) (k := n) (fun j _ => Ha.out.lt j))
          have c := size_pos' Hs2.out hW0
          omega
        obtain ⟨b, off, rfl, hbB, hc⟩ := Ha.out.at_ (by omega)
        have xa := (Hbel.out.cell (p := ⟨b, off + t / 32, none⟩) hbB).trans (hc (t / 32) (by omega))
        have fk := Ha.out.lt (t / 32)
        have hac := Ha.out.cap
        have ham := Ha.out.max
        have hbc := Hb.out.cap
        have hbm := Hb.out.max
        clear hc
        generalize hx : f (t / 32) = x at *
        have Hx := hid hx
        clear hx
        have hbit := bit_u32 x (t % 32) fk
        have hbv := bit_at (t := t) Ha.out.lt htn
        rw [Hx.out] at hbv
        have hb1 : x / 2 ^ (t % 32) % 2 ≤ 1 := by omega
        generalize x / 2 ^ (t % 32) % 2 = bit at *
        have Hbv := hid hbv
        have Ct := hid (putTwice_any Hzr.out (fun j _ => Hlr.out j) (by omega) bit hb1)
        clear hbv
        go_wp2_with fail
        refine Ct.out.mono ?_
        rintro e w5 ⟨rfl, hgr, y, cy, hby, hyl, hcy, hsum⟩
        have hR := HR.out
        have hWm : vl h m < pw m := vl_lt fun j _ => Hb.out.lt j
        have hpm : pw (m + 1) = pw m * 4294967296 := pw_succ m
        have hc0 : cy = 0 := by
          rcases Nat.eq_zero_or_pos cy with h0 | h0
          · exact h0
          · obtain rfl : cy = 1 := by omega
            omega
        subst hc0
        rw [Nat.zero_mul, Nat.add_zero] at hsum
        have hyv : vl (trim (m + 1) y) (m + 1) = 2 * vl zr (m + 1) + bit := by
          rw [vl_congr (g := y) (fun j hj => trim_in hj)]; exact hsum
        have hyy : ∀ j, trim (m + 1) y j < 4294967296 := trim_lt hyl
        have hyo : ∀ j, m + 1 ≤ j → trim (m + 1) y j = 0 := fun j hj => trim_out hj
        have hby2 := hby.congr (f' := trim (m + 1) y) (fun j hj => (trim_in hj).symm)
        generalize trim (m + 1) y = yy at *
        have Hyv := hid hyv
        have Hyy := hid hyy
        have Hyo := hid hyo
        have Hby := hid hby2
        have Hzq5 := hid (Hzq.out.grown hgr (by simp))
        have Hbel5 := hid (Hbel.out.grown hgr Hbel.out.size (by intro k hk; injection hk with hk; omega))
        have hl6 : w.heap.size + 1 < w5.heap.size := hby2.lt
        clear hgr hby hyl hsum hyv hyy hyo hby2 hR hWm hpm hcy Ct hbit xa Hzr Hzq Hbel
        go_upto_block 2 with fail
        go_cut [8] from 49 to 68 (fun s8 wx => Hid (Blk wx 50 w.heap.size Nq zq) ∧ Hid (Blk wx 50 (w.heap.size + 1) (m + 1) yy) ∧ Hid (Below w.heap.size w wx) ∧ w.heap.size + 1 < wx.heap.size ∧ Hid (vl h m ≤ vl yy (m + 1)))
        case first =>
          go_wp2_with fail
          go_loopg [8] (m + 1) (fun k s8 wx => k ≤ m + 1 ∧ s8 = .int .i64 ((k : Int) - 1) ∧ Hid (Blk wx 50 w.heap.size Nq zq) ∧ Hid (Blk wx 50 (w.heap.size + 1) (m + 1) yy) ∧ Hid (Below w.heap.size w wx) ∧ w.heap.size + 1 < wx.heap.size ∧ Hid (∀ j, k ≤ j → yy j = h j))
          case atStart => exact ⟨Nat.le_refl _, congrArg (Value.int IntKind.i64) (by omega), Hzq5, Hby, Hbel5, hl6, hid (fun j hj => by rw [Hyo.out j hj, Hb.out.out j (by omega)])⟩
          case round =>
            obtain ⟨hk, rfl, Hq1, Hr1, Hbl, hl7, Heq⟩ := hrel
            cases gk with
            | zero =>
              go_wp2_with fail
              go_meet
              exact ⟨Hq1, Hr1, Hbl, hl7, hid (by rw [vl_congr (f := yy) (g := h) (fun j _ => Heq.out j (by omega)), vl_above (f := h) (k := m) (m := m + 1) (by omega) (fun j h1 _ => Hb.out.out j h1)]; exact Nat.le_refl _)⟩
            | succ k =>
              rw [show (((k + 1 : Nat) : Int) - 1) = (k : Int) by omega]
              have pd : ∀ q, Calls Try.prog 56 #[.slice D m d, .int .i64 (k : Int)] (wr.drewN q) fun e w' => e = .returned (.int .u32 (h k : Int)) ∧ w' = wr.drewN q :=
                fun q => (at_any ((Hb.out.below Hbl.out).drewN q) k).mono fun _ _ ⟨a, b⟩ => ⟨a, b.symm⟩
              have xr := Hr1.out.cell (j := k) (by omega)
              have k1 : (k : Int) < ((m : Int) + 1) := by omega
              generalize hyk : yy k = yk at *
              generalize hhk : h k = hk' at *
              have Hyk := hid hyk
              have Hhk := hid hhk
              have Cd := hid pd
              clear hyk hhk pd
              rcases Nat.lt_trichotomy yk hk' with hlt | he | hgt
              · have t1 : ((yk : Nat) : Int) < (hk' : Int) := by omega
                go_wp2_with fail
                go_quiet ((go_at_call 56; exact Calls.quiet_of_same (Cd.out _)))
                go_wp2_with fail
                go_roundg t
                case measure => omega
                case rel =>
                  have hlt2 : vl yy (m + 1) < vl h m := by
                    rw [← vl_above (f := h) (k := m) (m := m + 1) (by omega) (fun j h1 _ => Hb.out.out j h1)]
                    exact vl_less Hyy.out (k := k) (by rw [Hyk.out, Hhk.out]; exact hlt) (by omega) (fun j h1 _ => Heq.out j (by omega))
                  refine ⟨by omega, rfl, zq, yy, 2 * Q, hid (Hq1.out.drewN _), hid (Hr1.out.drewN _), hid (below_drewN Hbl.out _), Hlq, Hyy, hid ?_, hid ?_, hid hlt2, hl7⟩
                  · rw [HQ.out, Nat.pow_succ, Nat.mul_comm (2 ^ t), ← Nat.mul_assoc, Nat.mul_comm Q]
                  · rw [half_up (vl f n) t, HV.out, Hyv.out, ← Hbv.out, Nat.mul_assoc]
                    omega
              · subst he
                have t1 : ¬ ((yk : Nat) : Int) < (yk : Int) := by omega
                go_wp2_with fail
                go_quiet ((go_at_call 56; exact Calls.quiet_of_same (Cd.out _)))
                go_wp2_with fail
                go_quiet ((go_at_call 56; exact quiet_add (Cd.out _)))
                go_wp2_with fail
                go_roundg k
                case measure => omega
                case rel =>
                  refine ⟨by omega, rfl, hid (Hq1.out.drewN _), hid (Hr1.out.drewN _), hid (below_drewN Hbl.out _), hl7, hid fun j hj => ?_⟩
                  rcases Nat.lt_or_ge k j with h1 | h1
                  · exact Heq.out j h1
                  · obtain rfl : j = k := by omega
                    exact Hyk.out.trans Hhk.out.symm
              · have t1 : ¬ ((yk : Nat) : Int) < (hk' : Int) := by omega
                have t2 : ((hk' : Nat) : Int) < (yk : Int) := by omega
                go_wp2_with fail
                go_quiet ((go_at_call 56; exact Calls.quiet_of_same (Cd.out _)))
                go_wp2_with fail
                go_quiet ((go_at_call 56; exact quiet_add (Cd.out _)))
                go_wp2_with fail
                go_meet
                have hgt2 : vl h m < vl yy (m + 1) := by
                  rw [← vl_above (f := h) (k := m) (m := m + 1) (by omega) (fun j h1 _ => Hb.out.out j h1)]
                  exact vl_less Hb.out.lt (k := k) (by rw [Hyk.out, Hhk.out]; exact hgt) (by omega) (fun j h1 _ => (Heq.out j (by omega)).symm)
                exact ⟨hid ((Hq1.out.drewN _).drewN _), hid ((Hr1.out.drewN _).drewN _), hid (below_drewN (below_drewN Hbl.out _) _), hl7, hid (Nat.le_of_lt hgt2)⟩
        case rest =>
          obtain ⟨Hq1, Hr1, Hbl, hl7, Hge⟩ := hcut
          have Cl := hid (putLess_any (k0 := m + 1) (c0 := m + 1) (Hr1.out.rd (B := w.heap.size + 2) (by omega) (by omega) Hyy.out Hyo.out) (Hb.out.below Hbl.out) (by omega) (by omega) Hr1.out (Nat.le_refl _) (Nat.le_refl _) (by omega)
            (fun _ b off hA => .inr (by injection hA with hA; injection hA with _ h2; exact h2.symm)) (fun hm b off hD => (Hb.out.ne (by omega) hm b off hD)))
          go_wp2_with fail
          refine Cl.out.mono ?_
          rintro e w6 ⟨rfl, hgr, z', r, hbz, _, hzl, hr, hsum⟩
          have hv : vl (trim (m + 1) z') (m + 1) = vl yy (m + 1) - vl h m := by
            have e1 : vl h (m + 1) = vl h m := vl_above (by omega) (fun j h1 _ => Hb.out.out j h1)
            have e2 : vl (trim (m + 1) z') (m + 1) = vl z' (m + 1) := vl_congr (fun j hj => trim_in hj)
            have l1 := vl_lt (f := z') (k := m + 1) hzl
            have l2 := vl_lt (f := yy) (k := m + 1) (fun j _ => Hyy.out j)
            have l3 := Hge.out
            rw [e2]
            rcases Nat.eq_zero_or_pos r with h0 | h0
            · subst h0
              omega
            · obtain rfl : r = 1 := by omega
              omega
          have hzz : ∀ j, trim (m + 1) z' j < 4294967296 := trim_lt hzl
          have hbz2 := hbz.congr (f' := trim (m + 1) z') (fun j hj => (trim_in hj).symm)
          generalize trim (m + 1) z' = zz at *
          have Hv := hid hv
          have Hzz := hid hzz
          have Hbz := hid hbz2
          have hq6 := Hq1.out.grown hgr (by simp)
          have Hbel6 := hid (Hbl.out.grown hgr Hbl.out.size (by intro k hk; injection hk with hk; omega))
          have hl8 : w.heap.size + 1 < w6.heap.size := hbz2.lt
          have htq : t / 32 < Nq := by omega
          have xq := hq6.cell htq
          have xqf := hq6.frozen (t / 32)
          have Hq6 := hid hq6
          have hlow := limb_low (t := t) Hlq.out (by omega) HQ.out
          have hzq1 := Hlq.out (t / 32)
          obtain ⟨hor, hor2⟩ := or_bit_u32 (zq (t / 32)) (t % 32) (by omega) hzq1 hlow
          clear hgr hbz hzl hr hsum hv hzz hbz2 hq6 hlow Hr1 Hbl Hq1
          go_wp2_with fail
          go_region
          all_goals go_wp2_with fail
          go_roundg t
          case measure => omega
          case rel =>
            have h31 : (2 : Nat) ^ (t % 32) ≤ 2 ^ 31 := Nat.pow_le_pow_right (by omega) (by omega)
            have e2 : ((2 : Int) ^ (t % 32) % 4294967296) = ((2 ^ (t % 32) : Nat) : Int) := by
              rw [show (2 : Int) ^ (t % 32) = ((2 ^ (t % 32) : Nat) : Int) by simp]
              exact mod_u32 _ (by omega)
            rw [e2, hor]
            have e3 : (2 : Nat) ^ t = 2 ^ (t % 32) * pw (t / 32) := pow_split (k := t) (by omega)
            refine ⟨by omega, rfl, fun j => if j = t / 32 then zq (t / 32) + 2 ^ (t % 32) else zq j, zz, 2 * Q + 1, hid (Hq6.out.set (t / 32) _).drew, hid (Hbz.out.far (p := ⟨w.heap.size, t / 32, none⟩) (by show w.heap.size + 1 ≠ w.heap.size; omega) _).drew, hid (Hbel6.out.setCell (p := ⟨w.heap.size, t / 32, none⟩) (Nat.le_refl _) _).drew, hid (fun j => ?_), Hzz, hid ?_, hid ?_, hid ?_, by simpa [World.setCell] using hl8⟩
            · show (if j = t / 32 then zq (t / 32) + 2 ^ (t % 32) else zq j) < _
              split
              · exact hor2
              · exact Hlq.out j
            · rw [vl_grow htq, HQ.out, ← e3, Nat.pow_succ, Nat.mul_comm (2 ^ t), ← Nat.mul_assoc, Nat.mul_comm Q, Nat.add_mul, Nat.one_mul]
            · have a := Hge.out
              rw [half_up (vl f n) t, HV.out, Hv.out, ← Hbv.out, Nat.add_mul, Nat.mul_assoc]
              have b := Hyv.out
              omega
            · have a := Hge.out
              have b := Hyv.out
              have c := HR.out
              rw [Hv.out]
              omega

/-- Div's error. -/
def divErr (n : Nat) (f : Nat → Nat) (m : Nat) (h : Nat → Nat) : Int := if Fit n f ∧ Fit m h then (if m = 0 then 2 else 0) else 8

/-- Div's answer. -/
def DivPost (w : World) (n : Nat) (f : Nat → Nat) (m : Nat) (h : Nat → Nat) (e : Ending) (w' : World) : Prop :=
  Below w.heap.size w w' ∧ ∃ v1 v2, e = .returned (.tuple #[v1, v2, .int .i64 (divErr n f m h)]) ∧
    (divErr n f m h = 0 → Num 50 w.heap.size w' (vl f n / vl h m) v1 ∧ Num 50 w.heap.size w' (vl f n % vl h m) v2) ∧ (divErr n f m h ≠ 0 → v1 = .slice none 0 0 ∧ v2 = .slice none 0 0)

set_option maxHeartbeats 800000 in
theorem div_any {A D : Option Addr} {n c m d : Nat} {f h : Nat → Nat} {w : World} (ha : Rd w w.heap.size A n c f) (hb : Rd w w.heap.size D m d h) :
    Calls Try.prog 8 #[.slice A n c, .slice D m d] w (DivPost w n f m h) := by
  have cb := bad_pair ha hb 22
  have b0 : Below w.heap.size w (w.alloc (.cells #[.slice A n c, .slice D m d] 22)) := (Below.refl _ w).alloc (Nat.le_refl _) _
  by_cases hf : Fit n f ∧ Fit m h
  · rw [show decide (¬ (Fit n f ∧ Fit m h)) = false by simp [hf]] at cb
    rcases Nat.eq_zero_or_pos m with h0 | h0
    · have he : divErr n f m h = 2 := by unfold divErr; rw [if_pos hf, if_pos h0]
      subst h0
      have He := hid he
      have Cb := hid cb
      have Hb0 := hid b0
      clear cb hf ha hb b0 he
      go_enter Try.func8, Try.ntmps8
      go_wp2_with fail
      refine Cb.out.mono ?_
      rintro e w' ⟨rfl, rfl⟩
      go_wp2
      go_ret3
      exact ⟨Hb0.out, _, _, by rw [He.out]; rfl, (fun h => absurd (He.out.symm.trans h) (by decide)), (fun _ => ⟨rfl, rfl⟩)⟩
    · have he : divErr n f m h = 0 := by unfold divErr; rw [if_pos hf, if_neg (by omega)]
      have Cd := hid (divide_any (w := w.alloc (.cells #[.slice A n c, .slice D m d] 22)) ((ha.below b0).mono (by simp)) ((hb.below b0).mono (by simp)) hf.1 hf.2 h0)
      have hnz : (((m : Nat) : Int) == 0) = false := by simp; omega
      have He := hid he
      have Cb := hid cb
      have Hb0 := hid b0
      clear cb hf ha hb b0 he
      go_enter Try.func8, Try.ntmps8
      go_wp2_with fail
      refine Cb.out.mono ?_
      rintro e w' ⟨rfl, rfl⟩
      go_wp2_with fail
      refine Cd.out.mono ?_
      rintro e w' ⟨v1, v2, rfl, hbel, hn1, hn2⟩
      have R1 := hid (hn1.mono (B' := w.heap.size) (by simp))
      have R2 := hid (hn2.mono (B' := w.heap.size) (by simp))
      have R3 := hid (Hb0.out.trans (hbel.mono (by simp)))
      clear hbel hn1 hn2
      go_wp2
      go_ret3
      exact ⟨R3.out, v1, v2, by rw [He.out]; rfl, fun _ => ⟨R1.out, R2.out⟩, fun h => absurd He.out h⟩
  · rw [show decide (¬ (Fit n f ∧ Fit m h)) = true by simp [hf]] at cb
    have he : divErr n f m h = 8 := if_neg hf
    have He := hid he
    have Cb := hid cb
    have Hb0 := hid b0
    clear cb hf ha hb b0 he
    go_enter Try.func8, Try.ntmps8
    go_wp2_with fail
    refine Cb.out.mono ?_
    rintro e w' ⟨rfl, rfl⟩
    go_wp2
    go_ret3
    exact ⟨Hb0.out, _, _, by rw [He.out]; rfl, (fun h => absurd (He.out.symm.trans h) (by decide)), (fun _ => ⟨rfl, rfl⟩)⟩

end Go.Proofs.Ytflegkefgbifcaa
