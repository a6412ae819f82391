/- Contracts: right, Right, Bits. -/
import Derived.Test.YtjppogmhibmebaaDoorMake
import Derived.Test.YtjppogmhibmebaaDoorBits
namespace Go.Proofs.YtjppogmhibmebaaDoor
open Go.RowKit

theorem join_u64 (x y : Nat) (hx : x < 4294967296) (hy : y < 4294967296) : bits BinOp.or IntKind.u64 ((x : Int) * 4294967296) (y : Int) = ((x * 4294967296 + y : Nat) : Int) := by
  have h := u64_or_nat (x * 4294967296) y (by omega) (by omega)
  rw [nat_join 32 (x * 4294967296) y (by omega) (by omega)] at h
  rw [← h, Int.natCast_mul]
  rfl

set_option maxHeartbeats 1600000 in
theorem right_any {A : Option Addr} {n c : Nat} {f : Nat → Nat} {w : World} (ha : Rd w w.heap.size A n c f) (hf : Fit n f) (k : Nat) (hk : k ≤ 9223372036854775807) :
    Calls Tryd.prog 89 #[.slice A n c, .int .i64 (k : Int)] w (Lone 26 w (vl f n / 2 ^ k)) := by
  have Cs := hid (size_any ha hf)
  have n40 := hf.1
  have hac := ha.cap
  have ham := ha.max
  have Ha := hid ha
  have Hf := hid hf
  clear ha hf
  have Hk := hid hk
  go_enter Tryd.func89, Tryd.ntmps89
  go_wp2_with fail
  refine Cs.out.mono ?_
  rintro e w' ⟨s, rfl, rfl, hs⟩
  by_cases hks : s ≤ k
  · have e : vl f n / 2 ^ k = 0 := Nat.div_eq_of_lt (Nat.lt_of_lt_of_le hs.1 (Nat.pow_le_pow_right (by omega) hks))
    have E := hid e
    clear hs e hk
    go_wp2
    go_ret
    rw [E.out]
    exact ⟨_, rfl, Num.zero _ _ _, Below.refl _ _⟩
  · have hs40 : s ≤ 32 * n := by
      rcases Nat.lt_or_ge (32 * n) s with h | h
      · have l := vl_lt (f := f) (k := n) (fun j _ => Ha.out.lt j)
        rw [pw_two] at l
        have a := hs.2 (by omega)
        have b : 2 ^ (32 * n) ≤ 2 ^ (s - 1) := Nat.pow_le_pow_right (by omega) (by omega)
        omega
      · exact h
    clear hs hk
    have hk : k ≤ 1280 := by omega
    obtain ⟨q, hq⟩ : ∃ q, q = k / 32 := ⟨_, rfl⟩
    obtain ⟨p, hp⟩ : ∃ p, p = k % 32 := ⟨_, rfl⟩
    have hqn : q < n := by omega
    have hp32 : p < 32 := by omega
    obtain ⟨L, hL⟩ : ∃ L, L = n - q := ⟨_, rfl⟩
    have hmk : ∀ w, (Instr.makeSlice 22 (.int .i64 ((n : Int) - (k : Int) / 32)) (.int .i64 ((n : Int) - (k : Int) / 32))).run Tryd.prog w = .ok (.slice (some ⟨w.heap.size, 0, none⟩) L L) (w.alloc (.cells (madeCells #[.int .u32 0] L) 26)) := by
      intro w
      have h := make_u32 L (by omega) w
      rw [show ((L : Nat) : Int) = (n : Int) - (k : Int) / 32 by omega] at h
      exact h
    have HL := hid hL
    have Hq := hid hq
    have Hp := hid hp
    clear hL hq hp
    go_wp2_with fail
    rw [show ((k : Int) / 32) = (q : Int) by have := Hq.out; omega, show ((k : Int) % 32) = (p : Int) by have := Hp.out; omega]
    clear hmk
    go_loopw [25] (fun i wr => ∃ i' : Nat, i' ≤ L ∧ i = .int .i64 i' ∧ ∃ (z : Nat → Nat), Blk wr 26 w.heap.size L z ∧ Below w.heap.size w wr ∧
        2 ^ p * vl z i' + f q % 2 ^ p = vl (fun j => f (q + j)) i' + f (q + i') % 2 ^ p * pw i' ∧ (∀ j, z j < 4294967296)) (fun i _ => L - (intOf i).toNat)
    case atStart => exact ⟨0, by omega, rfl, fun _ => 0, Blk.zeros' rfl, (Below.refl _ _).alloc (Nat.le_refl _) _, by simp [vl, pw], fun _ => (by decide : 0 < 4294967296)⟩
    case round =>
      obtain ⟨i, hi, rfl, z, hblk, hbel, hsum, hz⟩ := hrel
      have hLn : L + q ≤ n := by have := HL.out; omega
      by_cases hiL : i < L
      · have pa : ∀ m, Calls Tryd.prog 103 #[.slice A n c, .int .i64 ((q : Int) + (i : Int) + 1)] (wr.drewN m) fun e w' => e = .returned (.int .u32 (f (q + i + 1) : Int)) ∧ w' = wr.drewN m := by
          intro m
          have h := at_any ((Ha.out.below hbel).drewN m) (q + i + 1)
          rw [show ((q + i + 1 : Nat) : Int) = (q : Int) + (i : Int) + 1 by omega] at h
          exact h.mono fun _ _ ⟨a, b⟩ => ⟨a, b.symm⟩
        obtain ⟨b, off, rfl, hbB, hc⟩ := Ha.out.at_ (by omega)
        have xa := (hbel.cell (p := ⟨b, off + (q + i), none⟩) hbB).trans (hc (q + i) (by omega))
        have y0 := Ha.out.lt (q + i)
        have y1 := Ha.out.lt (q + i + 1)
        have xo := hblk.cell hiL
        have xg := hblk.frozen i
        have Ca := hid pa
        have Hblk := hid hblk
        have Hbel := hid hbel
        have Hsum := hid hsum
        have Hz := hid hz
        clear pa hc hblk hbel hsum hz
        generalize hg0 : f (q + i) = g0 at *
        generalize hg1 : f (q + i + 1) = g1 at *
        generalize z i = zi at *
        have Hg0 := hid hg0
        have Hg1 := hid hg1
        have hor := join_u64 g1 g0 y1 y0
        generalize hP : g1 * 4294967296 + g0 = P at *
        have hPl : P ≤ 18446744073709551615 := by omega
        have HP := hid hP
        clear hg0 hg1 hP
        go_wp2_with fail
        go_quiet ((go_at_call 103; exact Calls.quiet_of_same (Ca.out _)))
        go_wp2
        rw [show ((P : Int) / 2 ^ p % 4294967296) = ((P / 2 ^ p % 4294967296 : Nat) : Int) by simp]
        go_roundw
        case rel =>
          refine ⟨i + 1, by omega, by go_num, _, (Hblk.out.drewN _).set i _, (below_drewN Hbel.out _).setCell (p := ⟨w.heap.size, i, none⟩) (Nat.le_refl _) _, ?_, fun j => ?_⟩
          · rw [vl_put, ← HP.out, ← Hg0.out, ← Hg1.out]
            exact right_step (g := fun j => f (q + j)) hp32 (Ha.out.lt _) (by have h := Hsum.out; rw [← Hg0.out] at h; exact h)
          · show (if j = i then P / 2 ^ p % 4294967296 else z j) < _
            split
            · omega
            · exact Hz.out j
        case measure => simp [intOf]; omega
      · obtain rfl : i = L := by omega
        have eL : q + i = n := by have := HL.out; omega
        have hV := right_end eL (k := k) (by have := Hq.out; have := Hp.out; omega) Ha.out.lt (Ha.out.out n (Nat.le_refl _)) hsum
        have Cc := hid (cut_any w.heap.size i i z wr (Nat.le_refl _) (by omega) (fun j hj => hblk.cell hj))
        have hle := cutLen_le z i
        have R := cut_num (B := w.heap.size) hblk (Nat.le_refl _) hz (by omega)
        rw [hV] at R
        have HR := hid R
        have Hbel := hid hbel
        clear hblk hbel hsum hz hV R eL
        generalize cutLen z i = kk at *
        go_wp2_with fail
        refine Cc.out.mono ?_
        rintro e w' ⟨rfl, rfl⟩
        go_wp2
        go_ret
        exact ⟨_, rfl, HR.out, Hbel.out⟩

end Go.Proofs.YtjppogmhibmebaaDoor
