/- Package field: what is put. -/
import Derived.Test.YtmaggpigodkhhaaJmath
import Derived.Test.YtmaggpigodkhhaaFset
import Derived.Test.YtmaggpigodkhhaaDsame
namespace Go.Proofs.Ytmaggpigodkhhaa
open Go.RowKit

set_option maxHeartbeats 1600000 in
theorem putDigits_any {w : World} {B V z : Nat} {v : Value} {xs : List Nat} (h : Ow w B v xs) (hB : B ≤ w.heap.size) (hn : xs.length ≤ 1000000) (hz : z ≤ 8) (_hV : V ≤ 18446744073709551615) :
    Calls Try.prog 21 #[v, .int .u64 (V : Int), .int .i64 (z : Int)] w fun e w' => ∃ v', e = .returned v' ∧ Hid (Ow w' B v' (xs ++ be V z)) ∧ Hid (Below B w w') := by
  have H := hid h
  clear h
  go_enter Try.func21, Try.ntmps21
  go_wp2
  go_loopw [0, 9, 7] (fun a i _ wr => ∃ k : Nat, k ≤ z ∧ i = .int .i64 k ∧ Hid (Ow wr B a (xs ++ (be V z).take k)) ∧ Hid (Below B w wr)) (fun _ i _ _ => z - (intOf i).toNat)
  case atStart => exact ⟨0, by omega, rfl, hid (by rw [List.take_zero, List.append_nil]; exact H.out), hid (Below.refl _ _)⟩
  case round =>
    obtain ⟨k, hk, rfl, hO, hb⟩ := hrel
    by_cases hcon : k < z
    · have hlen : (xs ++ (be V z).take k).length + 1 ≤ 17592186044416 := by
        rw [List.length_append, List.length_take]
        omega
      obtain ⟨t, ht⟩ : ∃ t : Nat, t = 8 * (z - 1 - k) := ⟨_, rfl⟩
      have hval : ((V : Int) / 2 ^ t % 256) = ((V / 256 ^ (z - 1 - k) % 256 : Nat) : Int) := by
        rw [show (256 : Nat) ^ (z - 1 - k) = 2 ^ t by rw [ht, Nat.pow_mul]]
        simp
      have hy : V / 256 ^ (z - 1 - k) % 256 < 256 := Nat.mod_lt _ (by omega)
      have hnext : Hid ((be V z).take (k + 1) = (be V z).take k ++ [V / 256 ^ (z - 1 - k) % 256]) := hid (be_take hcon)
      generalize V / 256 ^ (z - 1 - k) % 256 = y at *
      have hw1 : IntKind.i64.wrap ((z : Int) - 1) = (z : Int) - 1 := IntWalk.i64_in _ (by omega)
      have hw2 : IntKind.i64.wrap ((z : Int) - 1 - (k : Int)) = (z : Int) - 1 - (k : Int) := IntWalk.i64_in _ (by omega)
      have hw3 : IntKind.i64.wrap (8 * ((z : Int) - 1 - (k : Int))) = (t : Int) := by rw [IntWalk.i64_in _ (by omega)]; omega
      have hw4 : 8 * ((z : Int) - 1 - (k : Int)) = (t : Int) := by omega
      have htl : t ≤ 56 := by omega
      have HB := hid (By.new wr [y] (by simpa using hy) (by simp))
      have Hal := hid ((Below.refl wr.heap.size wr).alloc (Nat.le_refl _) (.cells (vals [y]).toArray 5))
      have HO := hid (hO.out.below Hal.out (Nat.le_refl _))
      have hsz := hb.out.size
      clear hy ht
      go_wp2_with (at_builtin; refine app_bytes rfl (.tmp 12) (.tmp 21) rfl rfl rfl HO.out (by simp; omega) HB.out hlen ?_; intro v' w' hO' hb')
      go_roundw
      case rel => exact ⟨k + 1, by omega, by go_num, hid (by rw [hnext.out, ← List.append_assoc]; exact hO'.out), hid ((hb.out.trans (Hal.out.mono (by omega))).trans hb'.out)⟩
      case measure => simp [intOf]; omega
    · obtain rfl : k = z := by omega
      go_wp2
      go_ret
      exact ⟨_, rfl, by rwa [be_all] at hO, hb⟩

theorem make_bytes (n : Nat) (hn : n ≤ 1000000) (w : World) (x : Int) (hx : x = (n : Int)) :
    (Instr.makeSlice 22 (.int .i64 0) (.int .i64 x)).run Try.prog w = .ok (.slice (some ⟨w.heap.size, 0, none⟩) 0 n) (w.alloc (.cells (madeCells #[.int .u8 0] n) 5)) := by
  obtain ⟨i, hi, hz, hsz, hby⟩ := info_one u8_info
  have hr := run_make (P := Try.prog) w 22 5 i (.int .u8 0) (by kernel_rfl) hi hz .i64 .i64 0 x (by omega) (by omega) (by rw [hby]; omega) (by omega)
  rw [hr, hsz, show x.toNat = n by omega, Nat.mul_one]
  rfl

set_option maxHeartbeats 1600000 in
theorem widened_many {w : World} {n c m : Nat} {A : Option Addr} (hn : 3900 < n + m) (hm : m ≤ 10000) (_hx : n ≤ 140737488355328) :
    Calls Try.prog 20 #[.slice A n c, .int .i64 (m : Int)] w fun e w' => e = .returned (.tuple #[.slice none 0 0, .int .i64 4]) ∧ w = w' := by
  have hw : IntKind.i64.wrap (3900 - (m : Int)) = 3900 - (m : Int) := IntWalk.i64_in _ (by omega)
  go_enter Try.func20, Try.ntmps20
  go_wp2
  go_ret2
  exact ⟨rfl, rfl⟩

set_option maxHeartbeats 3200000 in
theorem widened_fits {w : World} {n c m : Nat} {A : Option Addr} {xs : List Nat} (h : By w w.heap.size A n c xs) (hn : n + m ≤ 3900) :
    Calls Try.prog 20 #[.slice A n c, .int .i64 (m : Int)] w fun e w' => ∃ v, e = .returned (.tuple #[v, .int .i64 0]) ∧ Hid (Ow w' w.heap.size v xs) ∧ Hid (Below w.heap.size w w') := by
  have hw : IntKind.i64.wrap (3900 - (m : Int)) = 3900 - (m : Int) := IntWalk.i64_in _ (by omega)
  have hw2 : IntKind.i64.wrap ((n : Int) + (m : Int)) = (n : Int) + (m : Int) := IntWalk.i64_in _ (by omega)
  have hmk := make_bytes (n + m) (by omega) w ((n : Int) + (m : Int)) (by omega)
  have O1 := hid (Ow.made (w := w) (B := w.heap.size) (c := n + m) (Nat.le_refl _) (by omega))
  have HB1 := hid ((Below.refl w.heap.size w).alloc (Nat.le_refl _) (.cells (madeCells #[.int .u8 0] (n + m)) 5))
  have HX := hid (h.below HB1.out)
  have hmax := h.max
  generalize hW : w.alloc (.cells (madeCells #[.int .u8 0] (n + m)) 5) = W at *
  have hs := HB1.out.size
  clear h hW
  go_enter Try.func20, Try.ntmps20
  go_wp2_with (at_builtin; refine app_bytes rfl (.tmp 15) (.tmp 16) rfl rfl rfl O1.out hs HX.out (by simp; omega) ?_; intro v' w' hO' hb')
  go_ret2
  exact ⟨_, rfl, by rwa [List.nil_append] at hO', hid (HB1.out.trans hb'.out)⟩

set_option maxHeartbeats 3200000 in
theorem putLimbs_any {w : World} {B n c : Nat} {v : Value} {A : Option Addr} {f : Nat → Nat} {xs : List Nat} (h : Ow w B v xs) (hB : B ≤ w.heap.size) (hn : xs.length ≤ 10000) (hr : Rd w B A n c f) (hn2 : n ≤ 42) :
    Calls Try.prog 27 #[v, .slice A n c] w fun e w' => ∃ v', e = .returned v' ∧ Hid (Ow w' B v' (xs ++ lms f n)) ∧ Hid (Below B w w') := by
  have H := hid h
  have HR := hid hr
  have hcap := hr.cap
  clear h hr
  go_enter Try.func27, Try.ntmps27
  go_wp2
  go_loopw [0, 9, 6] (fun a i _ wr => ∃ k : Nat, k ≤ n ∧ i = .int .i64 k ∧ Hid (Ow wr B a (xs ++ lms f k)) ∧ Hid (Below B w wr)) (fun _ i _ _ => n - (intOf i).toNat)
  case atStart => exact ⟨0, by omega, rfl, hid (by rw [show lms f 0 = [] from rfl, List.append_nil]; exact H.out), hid (Below.refl _ _)⟩
  case round =>
    obtain ⟨k, hk, rfl, hO, hb⟩ := hrel
    by_cases hcon : k < n
    · obtain ⟨b, off, rfl, hbB, hc⟩ := HR.out.at_ (by omega)
      have hcell := (hb.out.cell (p := ⟨b, off + k, none⟩) hbB).trans (hc k hcon)
      have hlt := HR.out.lt k
      have hnext : Hid (lms f (k + 1) = lms f k ++ be (f k) 4) := hid rfl
      generalize f k = x at *
      have hsz := hb.out.size
      have C := hid (putDigits_any (V := x) (z := 4) hO.out (Nat.le_trans hB hsz) (by rw [List.length_append, lms_length]; omega) (by omega) (by omega))
      clear hc
      go_wp2_with fail
      refine C.out.mono ?_
      rintro e w2 ⟨v2, rfl, hO2, hb2⟩
      go_wp2
      go_roundw
      case rel => exact ⟨k + 1, by omega, by go_num, hid (by rw [hnext.out, ← List.append_assoc]; exact hO2.out), hid (hb.out.trans hb2.out)⟩
      case measure => simp [intOf]; omega
    · obtain rfl : k = n := by omega
      go_wp2
      go_ret
      exact ⟨_, rfl, hO, hb⟩

end Go.Proofs.Ytmaggpigodkhhaa
