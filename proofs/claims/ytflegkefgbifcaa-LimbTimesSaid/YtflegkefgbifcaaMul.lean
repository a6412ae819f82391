/- Contract: Mul. -/
import Derived.Test.YtflegkefgbifcaaMake
namespace Go.Proofs.Ytflegkefgbifcaa
open Go.RowKit

/-- Mul's error. -/
def mulErr (n : Nat) (f : Nat → Nat) (m : Nat) (h : Nat → Nat) : Int := if Fit n f ∧ Fit m h then overErr (vl f n * vl h m) else 8

set_option maxHeartbeats 3200000 in
theorem mul_any {A D : Option Addr} {n c m d : Nat} {f h : Nat → Nat} {w : World} (ha : Rd w w.heap.size A n c f) (hb : Rd w w.heap.size D m d h) :
    Calls Try.prog 6 #[.slice A n c, .slice D m d] w (Ans 50 w (mulErr n f m h) (vl f n * vl h m)) := by
  have cb := bad_pair ha hb 22
  by_cases hf : Fit n f ∧ Fit m h
  · have Hfit := hid hf
    rw [show decide (¬ (Fit n f ∧ Fit m h)) = false by simp [hf]] at cb
    have n40 := hf.1.1
    have m40 := hf.2.1
    have Cb := hid cb
    have Ha := hid ha
    have Hb := hid hb
    have hac := ha.cap
    have ham := ha.max
    have hbc := hb.cap
    have hbm := hb.max
    clear cb hf ha hb
    obtain ⟨N, hN⟩ : ∃ N, N = n + m := ⟨_, rfl⟩
    have hmk : ∀ w, (Instr.makeSlice 22 (.int .i64 ((n : Int) + (m : Int))) (.int .i64 ((n : Int) + (m : Int)))).run Try.prog w = .ok (.slice (some ⟨w.heap.size, 0, none⟩) N N) (w.alloc (.cells (madeCells #[.int .u32 0] N) 50)) := by
      intro w
      have h := make_u32 (n + m) (by omega) w
      rw [show ((n + m : Nat) : Int) = (n : Int) + (m : Int) by omega, ← hN] at h
      exact h
    have hN1 : n + m ≤ N := by omega
    have hN2 : N ≤ n + m := by omega
    clear hN
    go_enter Try.func6, Try.ntmps6
    go_wp2_with fail
    refine Cb.out.mono ?_
    rintro e w' ⟨rfl, rfl⟩
    go_wp2_with fail
    clear hmk
    go_loopw [24] (fun i wr => ∃ k : Nat, k ≤ n ∧ i = .int .i64 k ∧ ∃ (z : Nat → Nat), Blk wr 50 (w.heap.size + 1) N z ∧ Below w.heap.size w wr ∧
        vl z (k + m) = vl f k * vl h m ∧ (∀ j, k + m ≤ j → z j = 0) ∧ (∀ j, z j < 4294967296)) (fun i _ => n - (intOf i).toNat)
    case atStart => exact ⟨0, by omega, rfl, fun _ => 0, Blk.zeros' (by simp), ((Below.refl _ _).alloc (Nat.le_refl _) _).alloc (by simp) _, by
        rw [vl_above (k := 0) (Nat.zero_le _) (fun _ _ _ => rfl)]; simp [vl], fun _ _ => rfl, fun _ => (by decide : 0 < 4294967296)⟩
    case round =>
      obtain ⟨k, hk, rfl, z0, hblk, hbel, hsum, hz0, hz⟩ := hrel
      by_cases hkn : k < n
      · obtain ⟨b, off, rfl, hbB, hc⟩ := Ha.out.at_ (by omega)
        have xa := (hbel.cell (p := ⟨b, off + k, none⟩) hbB).trans (hc k hkn)
        have fk := Ha.out.lt k
        have hgl := hblk.lt
        have Hblk := hid hblk
        have Hbel := hid hbel
        have Hsum := hid hsum
        have Hz0 := hid hz0
        have Hz := hid hz
        have Hc := hid hc
        clear hblk hbel hsum hz0 hz hc
        generalize hx : f k = x at *
        have Hx := hid hx
        clear hx
        go_wp2_with fail
        refine (places_any _ _).mono ?_
        rintro e w' ⟨rfl, rfl⟩
        go_wp2_with fail
        go_loopw [32] (fun i ws => ∃ j : Nat, j ≤ m ∧ i = .int .i64 j ∧ ∃ (z : Nat → Nat) (r : Nat), Blk ws 50 (w.heap.size + 1) N z ∧ Box ws wr.heap.size 53 (.int .u64 (r : Int)) ∧ Below w.heap.size w ws ∧
            vl z (k + j) + r * pw (k + j) = vl z0 (k + j) + x * vl h j * pw k ∧ r ≤ 4294967295 ∧ (∀ i, k + j ≤ i → z i = z0 i) ∧ (∀ i, z i < 4294967296)) (fun i _ => m - (intOf i).toNat)
        case atStart => exact ⟨0, by omega, rfl, z0, 0, Hblk.out.alloc _, Box.new' rfl, Hbel.out.alloc Hbel.out.size _, by simp [vl], by omega, fun _ _ => rfl, Hz.out⟩
        case round =>
          obtain ⟨j, hj, rfl, z, r, hblk, hbox, hbel, hsum, hr, hzz, hz⟩ := hrel
          have wsz := Hbel.out.size
          have xc := hbox.cell
          have xf := hbox.frozen
          have Hsum2 := hid hsum
          have Hz2 := hid hz
          have Hzz := hid hzz
          have Hblk2 := hid hblk
          have Hbox := hid hbox
          have Hbel2 := hid hbel
          clear hsum hz hzz hblk hbox hbel
          by_cases hjm : j < m
          · obtain ⟨b2, off2, rfl, hbB2, hc2⟩ := Hb.out.at_ (by omega)
            have xb := (Hbel2.out.cell (p := ⟨b2, off2 + j, none⟩) hbB2).trans (hc2 j hjm)
            have hy := Hb.out.lt j
            have xo := Hblk2.out.cell (j := k + j) (by omega)
            have xg := Hblk2.out.frozen (k + j)
            have zk := Hz2.out (k + j)
            have hzk := Hzz.out (k + j) (Nat.le_refl _)
            have Hzk := hid hzk
            have hp := prod_le fk hy
            clear hc2 hzk
            generalize hyy : h j = y at *
            generalize z (k + j) = zc at *
            have Hy := hid hyy
            clear hyy
            have hp2 : (x : Int) * (y : Int) = ((x * y : Nat) : Int) := by rw [Int.natCast_mul]
            generalize hxy : x * y = p at *
            have Hxy := hid hxy
            clear hxy
            go_wp2_with fail
            refine (place_any _ r _ _ (by omega) (by omega) xc xf).mono ?_
            rintro e w' ⟨rfl, rfl⟩
            rw [show ((p : Int) + (zc : Int)).toNat = p + zc by omega]
            clear hp2
            generalize hq : (p + zc + r) / 4294967296 = q
            generalize hm : (p + zc + r) % 4294967296 = l
            have Hq := hid hq
            have Hl := hid hm
            clear hq hm
            go_wp2
            go_roundw
            case rel =>
              have R := place_round (q := q) (m := l) (k := k + j) Hblk2.out Hbox.out Hbel2.out (by omega) (by omega) (by omega)
              have hq := Hq.out
              have hl := Hl.out
              refine ⟨j + 1, by omega, by go_num, _, q, R.1, R.2.1, R.2.2, ?_, by omega, fun i hi => ?_, fun i => ?_⟩
              · have st := mul_step Hsum2.out
                rw [← Hzk.out, Hy.out, Hxy.out, hq, hl] at st
                rw [show k + (j + 1) = k + j + 1 by omega, vl_put]
                exact st
              · show (if i = k + j then l else z i) = z0 i
                rw [if_neg (by omega)]
                exact Hzz.out i (by omega)
              · show (if i = k + j then l else z i) < _
                split
                · omega
                · exact Hz2.out i
            case measure => simp [intOf]; omega
          · obtain rfl : j = m := by omega
            have xo := Hblk2.out.cell (j := k + j) (by omega)
            have xg := Hblk2.out.frozen (k + j)
            generalize z (k + j) = zc at *
            go_wp2_with fail
            refine (place_any _ r _ _ (by omega) (by omega) xc xf).mono ?_
            rintro e w' ⟨rfl, rfl⟩
            generalize hq : ((0 : Int).toNat + r) / 4294967296 = q
            generalize hm : ((0 : Int).toNat + r) % 4294967296 = l
            have Hq := hid hq
            have Hl := hid hm
            clear hq hm
            go_wp2
            go_roundw
            case rel =>
              have R := place_round (q := q) (m := l) (k := k + j) Hblk2.out Hbox.out Hbel2.out (by omega) (by omega) (by omega)
              have hl : l = r := by
                have := Hl.out
                simp at this
                omega
              refine ⟨k + 1, by omega, by go_num, _, R.1, R.2.2, ?_, fun i hi => ?_, fun i => ?_⟩
              · rw [show k + 1 + j = k + j + 1 by omega, vl_put, hl]
                exact mul_row Hsum.out (by rw [Hx.out]; exact Hsum2.out)
              · show (if i = k + j then l else z i) = 0
                rw [if_neg (by omega), Hzz.out i (by omega)]
                exact Hz0.out i (by omega)
              · show (if i = k + j then l else z i) < _
                split
                · omega
                · exact Hz2.out i
            case measure => simp [intOf]; omega
      · obtain rfl : k = n := by omega
        have eN : N = k + m := by omega
        have hV : vl z0 N = vl f k * vl h m := by rw [eN]; exact hsum
        have Cb2 := hid (bounded_num (w0 := w) hblk (by omega) hbel (by omega) hz hV)
        have he : mulErr k f m h = overErr (vl f k * vl h m) := if_pos Hfit.out
        have He := hid he
        clear hsum hz hblk hz0 hbel hV he eN
        go_wp2_with fail
        refine Cb2.out.mono ?_
        rintro e w' ⟨v, er, rfl, rfl, her, HA⟩
        go_wp2
        go_ret2
        rw [He.out, ← her.out]
        exact HA
  · rw [show decide (¬ (Fit n f ∧ Fit m h)) = true by simp [hf]] at cb
    rw [show mulErr n f m h = 8 from if_neg hf]
    have Cb := hid cb
    clear cb hf ha hb
    go_enter Try.func6, Try.ntmps6
    go_wp2_with fail
    refine Cb.out.mono ?_
    rintro e w' ⟨rfl, rfl⟩
    go_wp2
    go_ret2
    exact Ans.fail (by decide) ((Below.refl _ _).alloc (Nat.le_refl _) _)

end Go.Proofs.Ytflegkefgbifcaa
