/- Contract: Left. -/
import Derived.Test.YtjppogmhibmebaaDoorMake
import Derived.Test.YtjppogmhibmebaaDoorVal
namespace Go.Proofs.YtjppogmhibmebaaDoor
open Go.RowKit

/-- Left's error. -/
def leftErr (n : Nat) (f : Nat → Nat) (k : Int) : Int := if Fit n f then (if k < 0 then 2 else overErr (vl f n * 2 ^ k.toNat)) else 8

theorem over_size {V s k : Nat} (hs : Size V s) (h0 : 0 < s) : V * 2 ^ k < pw 40 ↔ s + k ≤ 1280 := by
  obtain ⟨a, b⟩ := hs
  have b := b h0
  constructor
  · intro h
    rcases Nat.lt_or_ge 1280 (s + k) with hlt | hge
    · have h1 : 2 ^ (s - 1) * 2 ^ k ≤ V * 2 ^ k := Nat.mul_le_mul_right _ b
      rw [← Nat.pow_add] at h1
      have h2 : pw 40 ≤ 2 ^ (s - 1 + k) := pw40_le (by omega)
      omega
    · exact hge
  · intro h
    have h1 : (V + 1) * 2 ^ k ≤ 2 ^ s * 2 ^ k := Nat.mul_le_mul_right _ a
    rw [← Nat.pow_add, Nat.add_mul] at h1
    have h2 : 2 ^ (s + k) ≤ pw 40 := le_pw40 h
    have h3 : 0 < 2 ^ k := Nat.pow_pos (by omega)
    omega

set_option maxHeartbeats 1600000 in
theorem left_pos {A : Option Addr} {n c : Nat} {f : Nat → Nat} {w : World} (ha : Rd w w.heap.size A n c f) (hf : Fit n f) (h0 : 0 < n) (k : Nat) (hk : k ≤ 9223372036854775807) :
    Calls Tryd.prog 63 #[.slice A n c, .int .i64 (k : Int)] w (Ans 26 w (overErr (vl f n * 2 ^ k)) (vl f n * 2 ^ k)) := by
  have cb := bad_lone ha 22
  have b0 : Below w.heap.size w (w.alloc (.cells #[.slice A n c] 22)) := (Below.refl _ w).alloc (Nat.le_refl _) _
  rw [show decide (¬ Fit n f) = false by simp [hf]] at cb
  have Cs := hid (size_any (ha.below b0) hf)
  have Cb := hid cb
  have Hb0 := hid b0
  have Hf := hid hf
  have n40 := hf.1
  have hac := ha.cap
  have ham := ha.max
  have Ha := hid ha
  have Hk := hid hk
  have hnz : (((n : Nat) : Int) == 0) = false := by simp; omega
  clear cb hf ha b0
  go_enter Tryd.func63, Tryd.ntmps63
  go_wp2_with fail
  refine Cb.out.mono ?_
  rintro e w' ⟨rfl, rfl⟩
  go_wp2_with fail
  refine Cs.out.mono ?_
  rintro e w' ⟨s, rfl, rfl, hs⟩
  have hs40 : s ≤ 1280 := by
    rcases Nat.lt_or_ge 1280 s with h | h
    · have l := vl_lt (f := f) (k := n) (fun j _ => Ha.out.lt j)
      have l2 : pw n ≤ pw 40 := pw_mono n40
      have a := hs.2 (by omega)
      have b : pw 40 ≤ 2 ^ (s - 1) := pw40_le (by omega)
      omega
    · exact h
  have hs0 : 0 < s := by
    rcases Nat.eq_zero_or_pos s with h | h
    · subst h
      have a := hs.1
      have b := vl_ge h0 (Hf.out.2 h0)
      have c := pw_pos (n - 1)
      simp at a
      omega
    · exact h
  have ho := over_size (k := k) hs hs0
  by_cases hov : s + k ≤ 1280
  · have hlt := ho.2 hov
    have he : overErr (vl f n * 2 ^ k) = 0 := if_pos hlt
    have He := hid he
    obtain ⟨q, hq⟩ : ∃ q, q = k / 32 := ⟨_, rfl⟩
    obtain ⟨p, hp⟩ : ∃ p, p = k % 32 := ⟨_, rfl⟩
    have hp32 : p < 32 := by omega
    have hq40 : q ≤ 40 := by omega
    obtain ⟨N, hN⟩ : ∃ N, N = q + n + 1 := ⟨_, rfl⟩
    have hmk : ∀ w, (Instr.makeSlice 22 (.int .i64 ((k : Int) / 32 + (n : Int) + 1)) (.int .i64 ((k : Int) / 32 + (n : Int) + 1))).run Tryd.prog w = .ok (.slice (some ⟨w.heap.size, 0, none⟩) N N) (w.alloc (.cells (madeCells #[.int .u32 0] N) 26)) := by
      intro w
      have h := make_u32 N (by omega) w
      rw [show ((N : Nat) : Int) = (k : Int) / 32 + (n : Int) + 1 by omega] at h
      exact h
    have hkq : k = 32 * q + p := by omega
    have Hkq := hid hkq
    have hN1 : q + n + 1 ≤ N := by omega
    have hN2 : N ≤ q + n + 1 := by omega
    have Hlt := hid hlt
    have Hq := hid hq
    have Hp := hid hp
    clear hs ho he hlt hkq hq hp hN
    have hk2 : k ≤ 1280 := by omega
    clear hk
    go_wp2_with fail
    refine (places_any _ _).mono ?_
    rintro e w' ⟨rfl, rfl⟩
    go_wp2_with fail
    rw [show ((k : Int) / 32) = (q : Int) by have := Hq.out; omega, show ((k : Int) % 32) = (p : Int) by have := Hp.out; omega]
    clear hmk
    go_loopw [38] (fun i wr => ∃ i' : Nat, i' ≤ n ∧ i = .int .i64 i' ∧ ∃ (z : Nat → Nat) (r : Nat), Blk wr 26 (w.heap.size + 1) N z ∧ Box wr (w.heap.size + 1 + 1) 58 (.int .u64 (r : Int)) ∧ Below w.heap.size w wr ∧
        vl z (q + i') + r * pw (q + i') = vl f i' * 2 ^ p * pw q ∧ r ≤ 4294967295 ∧ (∀ j, z j < 4294967296)) (fun i _ => n - (intOf i).toNat)
    case atStart => exact ⟨0, by omega, rfl, fun _ => 0, 0, (Blk.zeros' (by simp)).alloc _, Box.new' (by simp), (((Below.refl _ _).alloc (Nat.le_refl _) _).alloc (by simp) _).alloc (by simp; omega) _, by
        rw [vl_above (k := 0) (Nat.zero_le _) (fun _ _ _ => rfl)]; simp [vl], by omega, fun _ => (by decide : 0 < 4294967296)⟩
    case round =>
      obtain ⟨i, hi, rfl, z, r, hblk, hbox, hbel, hsum, hr, hz⟩ := hrel
      have xc := hbox.cell
      have xf := hbox.frozen
      have Hblk := hid hblk
      have Hbox := hid hbox
      have Hbel := hid hbel
      have Hsum := hid hsum
      have Hz := hid hz
      clear hblk hbox hbel hsum hz
      by_cases hin : i < n
      · obtain ⟨b, off, rfl, hbB, hc⟩ := Ha.out.at_ (by omega)
        have xa := (Hbel.out.cell (p := ⟨b, off + i, none⟩) hbB).trans (hc i hin)
        have fk := Ha.out.lt i
        have xo := Hblk.out.cell (j := q + i) (by omega)
        have xg := Hblk.out.frozen (q + i)
        clear hc
        generalize hx : f i = x at *
        generalize z (q + i) = zi at *
        have Hx := hid hx
        have hy := shl_le fk hp32
        generalize hyy : x * 2 ^ p = y at *
        have hsh : (x : Int) * 2 ^ p = (y : Int) := by rw [← hyy]; simp
        have Hy := hid hyy
        clear hx hyy
        go_wp2_with fail
        refine (place_any _ r _ _ (by omega) (by omega) xc xf).mono ?_
        rintro e w' ⟨rfl, rfl⟩
        rw [Int.toNat_natCast]
        clear hsh
        generalize hq : (y + r) / 4294967296 = q'
        generalize hm : (y + r) % 4294967296 = l
        have Hq' := hid hq
        have Hl := hid hm
        clear hq hm
        go_wp2
        go_roundw
        case rel =>
          have R := place_round (q := q') (m := l) (k := q + i) Hblk.out Hbox.out Hbel.out (by omega) (by omega) (by omega)
          have hq := Hq'.out
          have hl := Hl.out
          refine ⟨i + 1, by omega, by go_num, _, q', R.1, R.2.1, R.2.2, ?_, by omega, fun j => ?_⟩
          · have st := left_step Hsum.out
            rw [Hx.out, Hy.out, hq, hl] at st
            rw [show q + (i + 1) = q + i + 1 by omega, vl_put]
            exact st
          · show (if j = q + i then l else z j) < _
            split
            · omega
            · exact Hz.out j
        case measure => simp [intOf]; omega
      · obtain rfl : i = n := by omega
        have xo := Hblk.out.cell (j := q + i) (by omega)
        have xg := Hblk.out.frozen (q + i)
        generalize z (q + i) = zc at *
        go_wp2_with fail
        refine (place_any _ r _ _ (by omega) (by omega) xc xf).mono ?_
        rintro e w' ⟨rfl, rfl⟩
        generalize hq : ((0 : Int).toNat + r) / 4294967296 = q'
        generalize hm : ((0 : Int).toNat + r) % 4294967296 = l
        have Hl := hid hm
        clear hq hm
        go_wp2_with fail
        have R := place_round (q := q') (m := l) (k := q + i) Hblk.out Hbox.out Hbel.out (by omega) (by omega) (by omega)
        have hl : l = r := by
          have := Hl.out
          simp at this
          omega
        have eN : N = q + i + 1 := by omega
        have hV : vl (fun j => if j = q + i then l else z j) N = vl f i * 2 ^ k := by
          rw [eN, vl_put, hl, Hsum.out, pow_split Hkq.out, Nat.mul_assoc]
        have hz2 : ∀ j, (fun j => if j = q + i then l else z j) j < 4294967296 := fun j => by
          show (if j = q + i then l else z j) < _
          split
          · omega
          · exact Hz.out j
        generalize (fun j => if j = q + i then l else z j) = zz at *
        have Cc := hid (cut_any (w.heap.size + 1) N N zz _ (Nat.le_refl _) (by omega) (fun j hj => R.1.cell hj))
        have h40 := (cutLen_40 (N := N) hz2).2 (by rw [hV]; exact Hlt.out)
        have Rn := cut_num (B := w.heap.size) R.1 (by omega) hz2 h40
        rw [hV] at Rn
        have HR := hid (Ans.good Rn R.2.2)
        clear hV hz2 R Rn eN hl
        generalize cutLen zz N = kk at *
        refine Cc.out.mono ?_
        rintro e w' ⟨rfl, rfl⟩
        go_wp2
        go_ret2
        rw [He.out]
        exact HR.out
  · have he : overErr (vl f n * 2 ^ k) = 10 := if_neg (fun h => hov (ho.1 h))
    have He := hid he
    clear hs ho he
    go_wp2
    go_ret2
    rw [He.out]
    exact Ans.fail (by decide) Hb0.out

set_option maxHeartbeats 800000 in
theorem Left_any {A : Option Addr} {n c : Nat} {f : Nat → Nat} {w : World} (ha : Rd w w.heap.size A n c f) (k : Int) (hk : k ≤ 9223372036854775807) :
    Calls Tryd.prog 63 #[.slice A n c, .int .i64 k] w (Ans 26 w (leftErr n f k) (vl f n * 2 ^ k.toNat)) := by
  have cb := bad_lone ha 22
  have b0 : Below w.heap.size w (w.alloc (.cells #[.slice A n c] 22)) := (Below.refl _ w).alloc (Nat.le_refl _) _
  by_cases hf : Fit n f
  · rw [show decide (¬ Fit n f) = false by simp [hf]] at cb
    by_cases hk0 : k < 0
    · rw [show leftErr n f k = 2 by unfold leftErr; rw [if_pos hf, if_pos hk0]]
      have Cb := hid cb
      have Hb0 := hid b0
      clear cb hf ha b0 hk
      go_enter Tryd.func63, Tryd.ntmps63
      go_wp2_with fail
      refine Cb.out.mono ?_
      rintro e w' ⟨rfl, rfl⟩
      go_wp2
      go_ret2
      exact Ans.fail (by decide) Hb0.out
    · rw [show leftErr n f k = overErr (vl f n * 2 ^ k.toNat) by unfold leftErr; rw [if_pos hf, if_neg hk0]]
      obtain ⟨k, rfl⟩ := Int.eq_ofNat_of_zero_le (show 0 ≤ k by omega)
      rw [Int.toNat_natCast]
      rcases Nat.eq_zero_or_pos n with h0 | h0
      · subst h0
        have hV : vl f 0 * 2 ^ k = 0 := by simp [vl]
        rw [hV, show overErr 0 = 0 from if_pos (pw_pos 40)]
        have Cb := hid cb
        have Hb0 := hid b0
        clear cb hf ha b0 hk hV
        go_enter Tryd.func63, Tryd.ntmps63
        go_wp2_with fail
        refine Cb.out.mono ?_
        rintro e w' ⟨rfl, rfl⟩
        go_wp2
        go_ret2
        exact Ans.good (Num.zero _ _ _) Hb0.out
      · exact left_pos ha hf h0 k (by omega)
  · rw [show decide (¬ Fit n f) = true by simp [hf]] at cb
    rw [show leftErr n f k = 8 from if_neg hf]
    have Cb := hid cb
    have Hb0 := hid b0
    clear cb hf ha b0 hk
    go_enter Tryd.func63, Tryd.ntmps63
    go_wp2_with fail
    refine Cb.out.mono ?_
    rintro e w' ⟨rfl, rfl⟩
    go_wp2
    go_ret2
    exact Ans.fail (by decide) Hb0.out

end Go.Proofs.YtjppogmhibmebaaDoor
