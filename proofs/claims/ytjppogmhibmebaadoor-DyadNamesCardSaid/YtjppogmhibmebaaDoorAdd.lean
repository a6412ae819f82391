/- Contract: Add. -/
import Derived.Test.YtjppogmhibmebaaDoorMake
namespace Go.Proofs.YtjppogmhibmebaaDoor
open Go.RowKit

/-- Add's error. -/
def addErr (n : Nat) (f : Nat → Nat) (m : Nat) (h : Nat → Nat) : Int := if Fit n f ∧ Fit m h then overErr (vl f n + vl h m) else 8

set_option maxHeartbeats 800000 in
theorem add_any {A D : Option Addr} {n c m d : Nat} {f h : Nat → Nat} {w : World} (ha : Rd w w.heap.size A n c f) (hb : Rd w w.heap.size D m d h) :
    Calls Tryd.prog 91 #[.slice A n c, .slice D m d] w (Ans 26 w (addErr n f m h) (vl f n + vl h m)) := by
  have cb := bad_pair ha hb 22
  by_cases hf : Fit n f ∧ Fit m h
  · have Hfit := hid hf
    rw [show decide (¬ (Fit n f ∧ Fit m h)) = false by simp [hf]] at cb
    have n40 := hf.1.1
    have m40 := hf.2.1
    have Cb := hid cb
    have Ha := hid ha
    have Hb := hid hb
    clear cb hf ha hb
    obtain ⟨N, hN⟩ : ∃ N, N = max n m + 1 := ⟨_, rfl⟩
    have hnN : n < N := by omega
    have hmN : m < N := by omega
    have hN40 : N ≤ 41 := by omega
    have HN := hid hN
    have hmk1 : n < m → ∀ w, (Instr.makeSlice 22 (.int .i64 ((m : Int) + 1)) (.int .i64 ((m : Int) + 1))).run Tryd.prog w = .ok (.slice (some ⟨w.heap.size, 0, none⟩) N N) (w.alloc (.cells (madeCells #[.int .u32 0] N) 26)) := by
      intro hnm w
      have h := make_u32 (m + 1) (by omega) w
      rw [show ((m + 1 : Nat) : Int) = (m : Int) + 1 by omega, show m + 1 = N by omega] at h
      exact h
    have hmk2 : m ≤ n → ∀ w, (Instr.makeSlice 22 (.int .i64 ((n : Int) + 1)) (.int .i64 ((n : Int) + 1))).run Tryd.prog w = .ok (.slice (some ⟨w.heap.size, 0, none⟩) N N) (w.alloc (.cells (madeCells #[.int .u32 0] N) 26)) := by
      intro hnm w
      have h := make_u32 (n + 1) (by omega) w
      rw [show ((n + 1 : Nat) : Int) = (n : Int) + 1 by omega, show n + 1 = N by omega] at h
      exact h
    rcases Nat.lt_or_ge n m with hnm | hnm
    all_goals
      first
        | have hmk := hmk1 hnm
        | have hmk := hmk2 hnm
      clear hmk1 hmk2
      clear hN
      go_enter Tryd.func91, Tryd.ntmps91
      go_wp2_with fail
      refine Cb.out.mono ?_
      rintro e w' ⟨rfl, rfl⟩
      go_wp2_with fail
      refine (places_any _ _).mono ?_
      rintro e w' ⟨rfl, rfl⟩
      clear hmk
      go_wp2_with fail
      go_loopw [23] (fun i wr => ∃ k : Nat, k ≤ N ∧ i = .int .i64 k ∧ ∃ (z : Nat → Nat) (r : Nat), Blk wr 26 (w.heap.size + 1) N z ∧ Box wr (w.heap.size + 1 + 1) 58 (.int .u64 (r : Int)) ∧ Below w.heap.size w wr ∧
          vl z k + r * pw k = vl f k + vl h k ∧ r ≤ 1 ∧ (∀ j, z j < 4294967296)) (fun i _ => N - (intOf i).toNat)
      case atStart => exact ⟨0, by omega, rfl, fun _ => 0, 0, (Blk.zeros' (by simp)).alloc _, Box.new' (by simp), (((Below.refl _ _).alloc (Nat.le_refl _) _).alloc (by simp) _).alloc (by simp; omega) _, rfl, by omega, fun _ => (by decide : 0 < 4294967296)⟩
      case round =>
        obtain ⟨k, hk, rfl, z, r, hblk, hbox, hbel, hsum, hr, hz⟩ := hrel
        by_cases hkN : k < N
        · have Ca := hid (at_any (Ha.out.below hbel) k)
          have Cd := hid (at_any (Hb.out.below hbel) k)
          have fk := Ha.out.lt k
          have hk' := Hb.out.lt k
          have xc := hbox.cell
          have xf := hbox.frozen
          have Hsum := hid hsum
          have Hz := hid hz
          have Hblk := hid hblk
          have Hbox := hid hbox
          have Hbel := hid hbel
          clear hsum hz hblk hbox hbel
          have xb := Hblk.out.cell hkN
          have xg := Hblk.out.frozen k
          generalize hfa : f k = fa at *
          generalize hfb : h k = fb at *
          generalize z k = zk at *
          have Hfa := hid hfa
          have Hfb := hid hfb
          clear hfa hfb
          go_wp2_with fail
          refine Ca.out.mono ?_
          rintro e w' ⟨rfl, rfl⟩
          go_wp2_with fail
          refine Cd.out.mono ?_
          rintro e w' ⟨rfl, rfl⟩
          go_wp2_with fail
          refine (place_any _ r _ wr (by omega) (by omega) xc xf).mono ?_
          rintro e w' ⟨rfl, rfl⟩
          rw [show ((fa : Int) + (fb : Int)).toNat = fa + fb by omega]
          generalize hq : (fa + fb + r) / 4294967296 = q
          generalize hm : (fa + fb + r) % 4294967296 = x
          have Hq := hid hq
          have Hx := hid hm
          clear hq hm
          go_wp2
          go_roundw
          case rel =>
            have R := place_round (q := q) (m := x) (k := k) Hblk.out Hbox.out Hbel.out (by omega) (by omega) (by omega)
            have hq := Hq.out
            have hx := Hx.out
            refine ⟨k + 1, by omega, by go_num, _, q, R.1, R.2.1, R.2.2, ?_, by omega, fun j => ?_⟩
            · rw [vl_put, ← hq, ← hx, ← Hfa.out, ← Hfb.out]
              exact add_step Hsum.out
            · show (if j = k then x else z j) < _
              split
              · omega
              · exact Hz.out j
          case measure => simp [intOf]; omega
        · obtain rfl : k = N := by omega
          have hV : vl z k = vl f n + vl h m := by
            have e1 : vl f k = vl f n := vl_above (by omega) (fun j h1 _ => Ha.out.out j h1)
            have e2 : vl h k = vl h m := vl_above (by omega) (fun j h1 _ => Hb.out.out j h1)
            have l1 := vl_lt (f := z) (k := k) (fun j _ => hz j)
            obtain ⟨k', rfl⟩ : ∃ k', k = k' + 1 := ⟨k - 1, by omega⟩
            have l2 := vl_lt (f := f) (k := n) (fun j _ => Ha.out.lt j)
            have l3 := vl_lt (f := h) (k := m) (fun j _ => Hb.out.lt j)
            have l4 : pw n ≤ pw k' := pw_mono (by omega)
            have l5 : pw m ≤ pw k' := pw_mono (by omega)
            rw [e1, e2] at hsum
            rcases Nat.eq_zero_or_pos r with h0 | h0
            · subst h0
              omega
            · obtain rfl : r = 1 := by omega
              rw [pw_succ] at hsum
              omega
          have Cb2 := hid (bounded_num (w0 := w) hblk (by omega) hbel (by omega) hz hV)
          have he : addErr n f m h = overErr (vl f n + vl h m) := if_pos Hfit.out
          have He := hid he
          clear hsum hz hblk hbox hbel hV he
          go_wp2_with fail
          refine Cb2.out.mono ?_
          rintro e w' ⟨v, er, rfl, rfl, her, HA⟩
          go_wp2
          go_ret2
          rw [He.out, ← her.out]
          exact HA
  · rw [show decide (¬ (Fit n f ∧ Fit m h)) = true by simp [hf]] at cb
    have he : addErr n f m h = 8 := if_neg hf
    rw [he]
    have Cb := hid cb
    clear cb hf he ha hb
    go_enter Tryd.func91, Tryd.ntmps91
    go_wp2_with fail
    refine Cb.out.mono ?_
    rintro e w' ⟨rfl, rfl⟩
    go_wp2
    go_ret2
    exact Ans.fail (by decide) ((Below.refl _ _).alloc (Nat.le_refl _) _)

end Go.Proofs.YtjppogmhibmebaaDoor
