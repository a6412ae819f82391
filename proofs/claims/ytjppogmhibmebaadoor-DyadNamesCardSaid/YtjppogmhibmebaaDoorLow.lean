/- Contracts: TrailingZeros32, Low. -/
import Derived.Test.YtjppogmhibmebaaDoorBits
import Derived.Lib.TrailingZeros
import Derived.Laws.Bits64b
namespace Go.Proofs.YtjppogmhibmebaaDoor
open Go.RowKit

/-- The library's table lies in its variable, as its initialiser lays it. -/
def Tab (w : World) : Prop := ∀ j, j < 32 → w.cell? ⟨1, j, none⟩ = some (.int .u8 (Lib.deBruijn32tab.getD j 0))

theorem Tab.below {w w' : World} {B : Nat} (h : Tab w) (hb : Below B w w') (hB : 1 < B) : Tab w' :=
  fun j hj => (hb.cell (p := ⟨1, j, none⟩) hB).trans (h j hj)

theorem tz32_key (x a : Nat) (hx : x < 4294967296) (hx0 : x ≠ 0) (hlow : x &&& (4294967296 - x) = a) :
    bits BinOp.and IntKind.u32 (x : Int) (-(x : Int) % 4294967296) * 125613361 % 4294967296 / 134217728 = ((a * 125613361 % 4294967296 / 134217728 : Nat) : Int) := by
  have e1 : -(x : Int) % 4294967296 = ((4294967296 - x : Nat) : Int) := by omega
  rw [e1, u32_and_nat x _ hx (by omega), hlow]
  omega

set_option maxHeartbeats 1000000 in
theorem tz32_core (x k idx : Nat) (w : World) (hx0 : ((x : Int) == 0) = false)
    (key : bits BinOp.and IntKind.u32 (x : Int) (-(x : Int) % 4294967296) * 125613361 % 4294967296 / 134217728 = (idx : Int))
    (hi : idx < 32) (hk : k < 32) (hcell : w.cell? ⟨1, idx, none⟩ = some (.int .u8 k)) :
    Calls Tryd.prog 104 #[.int .u32 (x : Int)] w fun e w' => e = .returned (.int .i64 (k : Int)) ∧ w = w' := by
  go_enter Tryd.func104, Tryd.ntmps104
  go_wp2_with (simp only [key])
  go_ret
  exact ⟨rfl, rfl⟩

theorem tz32_any (x : Nat) (hx : x < 4294967296) (h0 : x ≠ 0) (w : World) (hT : Tab w) :
    Calls Tryd.prog 104 #[.int .u32 (x : Int)] w fun e w' => e = .returned (.int .i64 ((Lib.ctz 32 x : Nat) : Int)) ∧ w = w' := by
  obtain ⟨hlow, hk⟩ := Lib.lowest_bit 32 x h0 hx
  obtain ⟨hi, htab⟩ := Lib.deBruijn32_at _ hk
  have hcell := hT _ hi
  rw [htab] at hcell
  exact tz32_core x _ _ w (by simp; omega) (tz32_key x _ hx h0 hlow) hi hk hcell

/-- 2^k is the greatest power of two in V; k is 0, of 0. -/
def LowOf (V k : Nat) : Prop := (V = 0 ∧ k = 0) ∨ ∃ m, V = 2 ^ k * (2 * m + 1)

theorem low_vl {f : Nat → Nat} {i n : Nat} (hi : i < n) (hz : ∀ j, j < i → f j = 0) (hx : f i < 4294967296) (h0 : f i ≠ 0) : LowOf (vl f n) (i * 32 + Lib.ctz 32 (f i)) := by
  obtain ⟨L, rfl⟩ : ∃ L, n = i + (1 + L) := ⟨n - i - 1, by omega⟩
  have e0 : vl f i = 0 := by
    rw [vl_above (k := 0) (Nat.zero_le _) (fun j _ h => hz j h)]; rfl
  obtain ⟨m, hm, hc⟩ := Lib.ctzFrom_spec 32 (f i) (by omega) hx
  have e : Lib.ctz 32 (f i) = Lib.ctzFrom 32 (f i) := by simp [Lib.ctz, h0]
  rw [e]
  generalize Lib.ctzFrom 32 (f i) = c at *
  obtain ⟨d, hd⟩ : ∃ d, 32 = c + (1 + d) := ⟨31 - c, by omega⟩
  have e1 : pw 1 = 2 ^ c * (2 * 2 ^ d) := by
    rw [pw_two, show 32 * 1 = c + (1 + d) by omega, Nat.pow_add, Nat.pow_add, Nat.pow_one]
  refine .inr ⟨m + 2 ^ d * vl (fun j => f (i + (1 + j))) L, ?_⟩
  rw [vl_shift, e0, Nat.zero_add, vl_shift, e1, show vl (fun j => f (i + j)) 1 = f i by simp [vl, pw], hm, show i * 32 + c = 32 * i + c by omega, Nat.pow_add, ← pw_two, Nat.mul_assoc (pw i)]
  congr 1
  rw [Nat.mul_assoc (2 ^ c), ← Nat.mul_add]
  congr 1
  rw [Nat.mul_add, Nat.mul_assoc 2]
  omega

def LowPost (w : World) (n : Nat) (f : Nat → Nat) (e : Ending) (w' : World) : Prop :=
  Below w.heap.size w w' ∧ ∃ k : Nat, e = .returned (.tuple #[.int .i64 (k : Int), .int .i64 (chk n f)]) ∧ (Fit n f → LowOf (vl f n) k) ∧ (¬ Fit n f → k = 0)

theorem Tab.lt {w : World} (h : Tab w) : 1 < w.heap.size := block_lt_of_cell (h 0 (by omega))

set_option maxHeartbeats 800000 in
theorem Low_any {A : Option Addr} {n c : Nat} {f : Nat → Nat} {w : World} (ha : Rd w w.heap.size A n c f) (hT : Tab w) :
    Calls Tryd.prog 90 #[.slice A n c] w (LowPost w n f) := by
  have cb := bad_lone ha 22
  have b0 : Below w.heap.size w (w.alloc (.cells #[.slice A n c] 22)) := (Below.refl _ w).alloc (Nat.le_refl _) _
  by_cases hf : Fit n f
  · rw [show decide (¬ Fit n f) = false by simp [hf]] at cb
    have hT1 := hT.below b0 hT.lt
    have Cb := hid cb
    have Hb0 := hid b0
    have Hf := hid hf
    have Ha := hid ha
    have HT := hid hT1
    have n40 := hf.1
    have hac := ha.cap
    have ham := ha.max
    clear cb hf ha b0 hT hT1
    go_enter Tryd.func90, Tryd.ntmps90
    go_wp2_with fail
    refine Cb.out.mono ?_
    rintro e w' ⟨rfl, rfl⟩
    go_wp2_with fail
    go_loop [11] (fun i => ∃ k : Nat, k ≤ n ∧ i = .int .i64 k ∧ (∀ j, j < k → f j = 0)) (fun i => n - (intOf i).toNat)
    case atStart => exact ⟨0, by omega, rfl, fun j h => by omega⟩
    case round =>
      obtain ⟨k, hk, rfl, hz⟩ := hrel
      have Hz := hid hz
      clear hz
      by_cases hkn : k < n
      · obtain ⟨b, off, rfl, hbB, hc⟩ := Ha.out.at_ (by omega)
        have xa := (Hb0.out.cell (p := ⟨b, off + k, none⟩) hbB).trans (hc k hkn)
        have fk := Ha.out.lt k
        clear hc
        generalize hx : f k = x at *
        have Hx := hid hx
        clear hx
        by_cases hx0 : x = 0
        · subst hx0
          go_wp2_with fail
          go_round
          case rel => exact ⟨k + 1, by omega, by go_num, fun j hj => by
            rcases Nat.lt_or_ge j k with h | h
            · exact Hz.out j h
            · obtain rfl : j = k := by omega
              exact Hx.out⟩
          case measure => simp [intOf]; omega
        · have hne : (((x : Nat) : Int) != 0) = true := by simp; omega
          have Ct := hid (tz32_any x fk hx0 _ HT.out)
          have hl := low_vl hkn Hz.out (by rw [Hx.out]; exact fk) (by rw [Hx.out]; exact hx0)
          rw [Hx.out] at hl
          have hc32 : Lib.ctz 32 x < 32 := (Lib.lowest_bit 32 x hx0 fk).2
          generalize Lib.ctz 32 x = t at *
          have Hl := hid hl
          clear hl hx0
          go_wp2_with fail
          refine Ct.out.mono ?_
          rintro e w' ⟨rfl, rfl⟩
          go_wp2
          go_ret2
          exact ⟨Hb0.out, k * 32 + t, by rw [chk_fit Hf.out, show ((k * 32 + t : Nat) : Int) = (k : Int) * 32 + (t : Int) by omega]; rfl, fun _ => Hl.out, fun h => absurd Hf.out h⟩
      · obtain rfl : k = n := by omega
        have hV : vl f k = 0 := by
          rw [vl_above (k := 0) (Nat.zero_le _) (fun j _ h => Hz.out j h)]; rfl
        have HV := hid hV
        clear hV
        go_wp2
        go_ret2
        exact ⟨Hb0.out, 0, by rw [chk_fit Hf.out]; rfl, fun _ => .inl ⟨HV.out, rfl⟩, fun h => absurd Hf.out h⟩
  · rw [show decide (¬ Fit n f) = true by simp [hf]] at cb
    have Cb := hid cb
    have Hb0 := hid b0
    have Hf := hid hf
    clear cb hf ha b0 hT
    go_enter Tryd.func90, Tryd.ntmps90
    go_wp2_with fail
    refine Cb.out.mono ?_
    rintro e w' ⟨rfl, rfl⟩
    go_wp2
    go_ret2
    exact ⟨Hb0.out, 0, by rw [chk_bad Hf.out]; rfl, fun h => absurd h Hf.out, fun _ => rfl⟩

end Go.Proofs.YtjppogmhibmebaaDoor
