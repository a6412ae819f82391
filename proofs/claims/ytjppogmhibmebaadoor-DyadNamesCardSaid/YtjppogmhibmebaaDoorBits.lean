/- Contracts: Of, Len32, size, Bits. -/
import Derived.Test.YtjppogmhibmebaaDoorCmp
import Derived.Lib.Strings
import Derived.Lib.Slices
import Derived.Lib.Small
import Derived.Lib.Walk
import Derived.Lib.BitFns
namespace Go.Proofs.YtjppogmhibmebaaDoor
open Go.RowKit

/-- A number's limbs are handed back, in new memory. -/
def Lone (t : TypeId) (w : World) (V : Nat) (e : Ending) (w' : World) : Prop := ∃ v, e = .returned v ∧ Num t w.heap.size w' V v ∧ Below w.heap.size w w'

theorem Blk.two (w : World) (e : TypeId) (a b : Nat) : Blk (w.alloc (.cells #[.int .u32 (a : Int), .int .u32 (b : Int)] e)) e w.heap.size 2 (fun j => if j = 0 then a else if j = 1 then b else 0) := by
  refine ⟨_, heap_alloc_new w _, rfl, fun j hj => ?_⟩
  rcases (show j = 0 ∨ j = 1 by omega) with rfl | rfl <;> rfl

set_option maxHeartbeats 400000 in
theorem of_any (x : Nat) (hx : x ≤ 18446744073709551615) (w : World) :
    Calls Tryd.prog 39 #[.int .u64 (x : Int)] w (Lone 26 w x) := by
  have hb := Blk.two w 26 (x % 4294967296) (x / 4294967296)
  have hz : ∀ j, (fun j => if j = 0 then x % 4294967296 else if j = 1 then x / 4294967296 else 0) j < 4294967296 := by
    intro j
    show (if j = 0 then x % 4294967296 else if j = 1 then x / 4294967296 else 0) < 4294967296
    split
    · omega
    · split <;> omega
  have hV : vl (fun j => if j = 0 then x % 4294967296 else if j = 1 then x / 4294967296 else 0) 2 = x := by
    simp [vl, pw]
    omega
  generalize (fun j => if j = 0 then x % 4294967296 else if j = 1 then x / 4294967296 else 0) = z at *
  have Cc := hid (cut_any w.heap.size 2 2 z _ (Nat.le_refl _) (by omega) (fun j hj => hb.cell hj))
  have R := cut_num (B := w.heap.size) hb (Nat.le_refl _) hz (by have := cutLen_le z 2; omega)
  rw [hV] at R
  have HR := hid R
  rw [show (((x % 4294967296 : Nat) : Int)) = (x : Int) % 4294967296 by omega, show (((x / 4294967296 : Nat) : Int)) = (x : Int) / 4294967296 by omega] at Cc HR
  clear hb hz hV R
  go_enter Tryd.func39, Tryd.ntmps39
  go_wp2_with fail
  refine Cc.out.mono ?_
  rintro e w' ⟨rfl, rfl⟩
  go_wp2
  go_ret
  exact ⟨_, rfl, HR.out, (Below.refl _ _).alloc (Nat.le_refl _) _⟩

theorem bitLen_8 (y : Nat) (hy : y < 256) : Lib.bitLen y ≤ 8 := Lib.bitLen_le8 ⟨y, hy⟩

theorem len8_get (y : Nat) (hy : y < 256) (h : y < Lib.len8tab.size) : (Lib.len8tab[y]'h).toNat = Lib.bitLen y := by
  have e := Lib.len8_of (y : Int) (by omega) (by omega)
  unfold Lib.len8 at e
  rw [Int.toNat_natCast, ByteArray.getElem?_lt' _ _ h, Option.getD_some] at e
  exact Int.ofNat.inj e

set_option maxHeartbeats 1000000 in
set_option maxRecDepth 100000 in
theorem len32_int (x : Int) (w : World) (h0 : 0 ≤ x) (h1 : x ≤ 4294967295) :
    Calls Tryd.prog 101 #[.int .u32 x] w fun e w' => e = .returned (.int .i64 (Lib.bitLen x.toNat)) ∧ w = w' := by
  go_enter Tryd.func101, Tryd.ntmps101
  go_wp2
  all_goals try (exfalso; simp only [Lib.len8tab_size] at *; omega)
  all_goals (go_ret; refine ⟨congrArg Ending.returned (congrArg (Value.int IntKind.i64) ?_), rfl⟩)
  · rw [len8_get _ (by omega)]
    have l := bitLen_8 (x / 65536 / 256).toNat (by omega)
    have s := Lib.bitLen_shift24 x.toNat (by omega) (by omega)
    rw [show x.toNat / 16777216 = (x / 65536 / 256).toNat by omega] at s
    unfold wrap64
    omega
  · rw [len8_get _ (by omega)]
    have l := bitLen_8 (x / 65536).toNat (by omega)
    have s := Lib.bitLen_shift16 x.toNat (by omega) (by omega)
    rw [show x.toNat / 65536 = (x / 65536).toNat by omega] at s
    unfold wrap64
    omega
  · rw [len8_get _ (by omega)]
    have l := bitLen_8 (x / 256).toNat (by omega)
    have s := Lib.bitLen_shift8 x.toNat (by omega) (by omega)
    rw [show x.toNat / 256 = (x / 256).toNat by omega] at s
    unfold wrap64
    omega
  · rw [len8_get _ (by omega)]
    have l := bitLen_8 x.toNat (by omega)
    unfold wrap64
    omega

theorem len32_any (x : Nat) (w : World) (h1 : x < 4294967296) :
    Calls Tryd.prog 101 #[.int .u32 (x : Int)] w fun e w' => e = .returned (.int .i64 (Lib.bitLen x)) ∧ w = w' := by
  have h := len32_int (x : Int) w (by omega) (by omega)
  rwa [Int.toNat_natCast] at h

/-- s is how many binary digits V has. -/
def Size (V s : Nat) : Prop := V < 2 ^ s ∧ (0 < s → 2 ^ (s - 1) ≤ V)
theorem Size.zero : Size 0 0 := ⟨by decide, fun h => absurd h (by omega)⟩
theorem Size.uniq {V s t : Nat} (h : Size V s) (k : Size V t) : s = t := by
  rcases Nat.lt_trichotomy s t with hlt | he | hgt
  · have a := k.2 (by omega)
    have b : 2 ^ s ≤ 2 ^ (t - 1) := Nat.pow_le_pow_right (by omega) (by omega)
    have c := h.1
    omega
  · exact he
  · have a := h.2 (by omega)
    have b : 2 ^ t ≤ 2 ^ (s - 1) := Nat.pow_le_pow_right (by omega) (by omega)
    have c := k.1
    omega

theorem size_bitLen : ∀ (n x : Nat), x < 2 ^ n → n ≤ 64 → Size x (Lib.bitLen x)
  | 0, x, h, _ => by
    have : x = 0 := by simpa using h
    subst this
    exact Size.zero
  | n + 1, x, h, hn => by
    by_cases hx : x = 0
    · subst hx
      exact Size.zero
    · have h64 : x < 2 ^ 64 := Nat.lt_of_lt_of_le h (Nat.pow_le_pow_right (by omega) hn)
      rw [Lib.bitLen_half x hx h64]
      obtain ⟨a, b⟩ := size_bitLen n (x / 2) (by rw [Nat.pow_succ] at h; omega) (by omega)
      refine ⟨?_, fun _ => ?_⟩
      · rw [Nat.add_comm, Nat.pow_succ]; omega
      · rw [Nat.add_comm, Nat.add_sub_cancel]
        rcases Nat.eq_zero_or_pos (Lib.bitLen (x / 2)) with h0 | h0
        · rw [h0]; simp; omega
        · have := b h0
          obtain ⟨k, hk⟩ : ∃ k, Lib.bitLen (x / 2) = k + 1 := ⟨Lib.bitLen (x / 2) - 1, by omega⟩
          rw [hk, Nat.pow_succ]
          rw [hk, Nat.add_sub_cancel] at this
          omega

theorem pw_two (k : Nat) : pw k = 2 ^ (32 * k) := by unfold pw; rw [Nat.pow_mul]

theorem size_vl {f : Nat → Nat} {k s : Nat} (hf : ∀ j, f j < 4294967296) (h0 : f k ≠ 0) (h : Size (f k) s) : Size (vl f (k + 1)) (k * 32 + s) := by
  obtain ⟨a, b⟩ := h
  have hs : 0 < s := by
    rcases Nat.eq_zero_or_pos s with h | h
    · subst h; simp at a; omega
    · exact h
  have l := vl_lt (f := f) (k := k) (fun j _ => hf j)
  have e : 2 ^ (k * 32 + s) = 2 ^ s * pw k := by rw [pw_two, Nat.pow_add, Nat.mul_comm k, Nat.mul_comm]
  have e2 : 2 ^ (k * 32 + s - 1) = 2 ^ (s - 1) * pw k := by rw [pw_two, show k * 32 + s - 1 = (s - 1) + 32 * k by omega, Nat.pow_add]
  refine ⟨?_, fun _ => ?_⟩
  · have m : (f k + 1) * pw k ≤ 2 ^ s * pw k := Nat.mul_le_mul_right _ a
    rw [Nat.add_mul] at m
    rw [vl_succ, e]
    omega
  · have m : 2 ^ (s - 1) * pw k ≤ f k * pw k := Nat.mul_le_mul_right _ (b hs)
    rw [vl_succ, e2]
    omega

set_option maxHeartbeats 400000 in
theorem size_nil (A : Option Addr) (c : Nat) (w : World) :
    Calls Tryd.prog 87 #[.slice A 0 c] w fun e w' => e = .returned (.int .i64 0) ∧ w = w' := by
  go_enter Tryd.func87, Tryd.ntmps87
  go_wp2
  go_ret
  exact ⟨rfl, rfl⟩

set_option maxHeartbeats 400000 in
theorem size_pos (b off n c x : Nat) (w : World) (hn : n ≤ 41) (_hc : n + 1 ≤ c) (_hm : n + 1 ≤ 140737488355328) (hx : w.cell? ⟨b, off + n, none⟩ = some (.int .u32 (x : Int))) (hl : x < 4294967296) :
    Calls Tryd.prog 87 #[.slice (some ⟨b, off, none⟩) (n + 1) c] w fun e w' => e = .returned (.int .i64 ((n * 32 + Lib.bitLen x : Nat) : Int)) ∧ w = w' := by
  have C := hid (len32_any x w hl)
  have hs : Lib.bitLen x ≤ 64 := by
    obtain ⟨_, h2⟩ := size_bitLen 32 x hl (by omega)
    rcases Nat.lt_or_ge 64 (Lib.bitLen x) with h | h
    · have a := h2 (by omega)
      have b : 2 ^ 64 ≤ 2 ^ (Lib.bitLen x - 1) := Nat.pow_le_pow_right (by omega) (by omega)
      have c : (4294967296 : Nat) ≤ 2 ^ 64 := by decide
      omega
    · exact h
  have hz : (((n + 1 : Nat) : Int) == 0) = false := by simp; omega
  clear hl
  generalize Lib.bitLen x = s at *
  go_enter Tryd.func87, Tryd.ntmps87
  go_wp2_with fail
  refine C.out.mono ?_
  rintro e w' ⟨rfl, rfl⟩
  go_wp2
  go_ret
  exact ⟨rfl, rfl⟩

theorem size_any {B : Nat} {A : Option Addr} {n c : Nat} {f : Nat → Nat} {w : World} (h : Rd w B A n c f) (hf : Fit n f) :
    Calls Tryd.prog 87 #[.slice A n c] w fun e w' => ∃ s : Nat, e = .returned (.int .i64 (s : Int)) ∧ w = w' ∧ Size (vl f n) s := by
  rcases Nat.eq_zero_or_pos n with h0 | h0
  · subst h0
    refine (size_nil A c w).mono ?_
    rintro e w' ⟨rfl, rfl⟩
    exact ⟨0, rfl, rfl, Size.zero⟩
  · obtain ⟨b, off, rfl, _, hc⟩ := h.at_ h0
    obtain ⟨k, rfl⟩ : ∃ k, n = k + 1 := ⟨n - 1, by omega⟩
    have hk : f k ≠ 0 := by simpa using hf.2 h0
    have h40 := hf.1
    refine (size_pos b off k c (f k) w (by omega) h.cap h.max (hc k (by omega)) (h.lt k)).mono ?_
    rintro e w' ⟨rfl, rfl⟩
    exact ⟨_, rfl, rfl, size_vl h.lt hk (size_bitLen 32 (f k) (h.lt k) (by omega))⟩

end Go.Proofs.YtjppogmhibmebaaDoor
