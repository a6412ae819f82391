/- Contracts: cut, bounded. -/
/- Contracts: compare, Cmp, slices.Equal, Same. -/
/- 'make' of limbs. -/
/- Contracts: Of, Len32, size, Bits. -/
/- A slice that reads as a number; what a call hands back beside an error. -/
/- Contract: Left. -/
/- Dyads as whole numbers of parts of 2^-4000. -/
/- Contract: limb.Bits. -/
/- The contracts of package limb that whatever asks dyads uses, for numbers that may be. -/
/- slices.Backward over limbs. -/
import Derived.Test.YtdcolnipdipkhaaVaa
import Derived.Lib.Strings
import Derived.Lib.Slices
import Derived.Lib.Small
import Derived.Lib.Walk
import Derived.Lib.BitFns
import Derived.RangeFuncNested
import Derived.RangeFuncBound
import Derived.RangeFuncCalls
import Derived.RangeFuncLeaves
import Derived.RangeFuncBox
import Derived.Shelf.Abstract
import Derived.Shelf.RegionOpen
import Derived.WalkKit
import Derived.OwnWalkIn
import Derived.TacticsInMore
import Derived.LoopNIn
import Derived.LoopIn

namespace Go.Proofs.Ytdcolnipdipkhaa
open Go.RowKit

/-- How many limbs are left of n, without those that are 0 at the end. -/
def cutLen (f : Nat → Nat) : Nat → Nat
  | 0 => 0
  | n + 1 => if f n = 0 then cutLen f n else n + 1
theorem cutLen_le (f : Nat → Nat) : ∀ n, cutLen f n ≤ n
  | 0 => Nat.le_refl _
  | n + 1 => by unfold cutLen; split <;> have := cutLen_le f n <;> omega
theorem cutLen_last (f : Nat → Nat) : ∀ n, 0 < cutLen f n → f (cutLen f n - 1) ≠ 0
  | 0, h => by simp [cutLen] at h
  | n + 1, h => by
    unfold cutLen at h ⊢
    by_cases hz : f n = 0
    · rw [if_pos hz] at h ⊢
      exact cutLen_last f n h
    · rw [if_neg hz]
      simpa using hz
theorem cutLen_zero (f : Nat → Nat) : ∀ n j, cutLen f n ≤ j → j < n → f j = 0
  | 0, j, _, h => by omega
  | n + 1, j, h1, h2 => by
    unfold cutLen at h1
    by_cases hz : f n = 0
    · rw [if_pos hz] at h1
      rcases Nat.lt_or_ge j n with h | h
      · exact cutLen_zero f n j h1 h
      · obtain rfl : j = n := by omega
        exact hz
    · rw [if_neg hz] at h1
      omega
theorem cutLen_vl (f : Nat → Nat) (n : Nat) : vl f n = vl f (cutLen f n) := vl_above (cutLen_le f n) (fun j h1 h2 => cutLen_zero f n j h1 h2)

/-- The limbs f 0 .. f (k - 1), and 0 above. -/
def trim (k : Nat) (f : Nat → Nat) (j : Nat) : Nat := if j < k then f j else 0
theorem trim_in {k j : Nat} {f : Nat → Nat} (h : j < k) : trim k f j = f j := if_pos h
theorem trim_out {k j : Nat} {f : Nat → Nat} (h : k ≤ j) : trim k f j = 0 := if_neg (by omega)
theorem trim_lt {k : Nat} {f : Nat → Nat} (h : ∀ j, j < k → f j < 4294967296) (j : Nat) : trim k f j < 4294967296 := by
  unfold trim
  split
  · exact h j ‹_›
  · omega

/-- What is left of a row of the call's own, cut, is a number. -/
theorem cut_num {w : World} {e : TypeId} {B g N : Nat} {z : Nat → Nat} (h : Blk w e g N z) (hg : B ≤ g) (hz : ∀ j, z j < 4294967296) (h40 : cutLen z N ≤ 40) :
    Num e B w (vl z N) (.slice (some ⟨g, 0, none⟩) (cutLen z N) (cutLen z N)) := by
  have hle := cutLen_le z N
  refine ⟨_, _, _, trim (cutLen z N) z, rfl, Mk.of_blk h hg (Nat.le_refl _) hle (by omega) (trim_lt fun j _ => hz j) (fun j hj => trim_out hj) (fun j hj => (trim_in hj).symm), ⟨h40, fun hp => ?_⟩, ?_⟩
  · rw [trim_in (by omega)]
    exact cutLen_last z N hp
  · rw [cutLen_vl z N]
    exact vl_congr fun j hj => trim_in hj

theorem cutLen_40 {z : Nat → Nat} {N : Nat} (hz : ∀ j, z j < 4294967296) : cutLen z N ≤ 40 ↔ vl z N < pw 40 := by
  rw [cutLen_vl z N]
  constructor
  · intro h
    have a := vl_lt (f := z) (k := cutLen z N) (fun j _ => hz j)
    have b := pw_mono h
    omega
  · intro h
    rcases Nat.lt_or_ge 40 (cutLen z N) with hlt | hge
    · have a := vl_ge (f := z) (k := cutLen z N) (by omega) (cutLen_last z N (by omega))
      have b : pw 40 ≤ pw (cutLen z N - 1) := pw_mono (by omega)
      omega
    · exact hge

/-- The error of a number that is told in limbs. -/
def overErr (V : Nat) : Int := if V < pw 40 then 0 else 10

end Go.Proofs.Ytdcolnipdipkhaa


namespace Go.Proofs.Ytdcolnipdipkhaa
open Go.RowKit

/-- A number is handed back, and memory has not turned (but for draws). -/
def Told (w : World) (r : Int) (e : Ending) (w' : World) : Prop := e = .returned (.int .i64 r) ∧ ∃ q, w.drewN q = w'

/-- Cmp's answer. -/
def cmpErr (n : Nat) (f : Nat → Nat) (m : Nat) (h : Nat → Nat) : Int := if Fit n f ∧ Fit m h then 0 else 8
def cmpRes (n : Nat) (f : Nat → Nat) (m : Nat) (h : Nat → Nat) : Int := if Fit n f ∧ Fit m h then cmpN (vl f n) (vl h m) else 0

def TwoInts (w : World) (a b : Int) (e : Ending) (w' : World) : Prop := e = .returned (.tuple #[.int .i64 a, .int .i64 b]) ∧ Below w.heap.size w w'

theorem cell_row2_0 (w : World) (a b : Value) (t : TypeId) : (w.alloc (.cells #[a, b] t)).cell? ⟨w.heap.size, 0, none⟩ = some a := by
  rw [World.cell?_alloc_at _ _ _ _ rfl]; rfl
theorem cell_row2_1 (w : World) (a b : Value) (t : TypeId) : (w.alloc (.cells #[a, b] t)).cell? ⟨w.heap.size, 1, none⟩ = some b := by
  rw [World.cell?_alloc_at _ _ _ _ rfl]; rfl
theorem cell_row1_0 (w : World) (a : Value) (t : TypeId) : (w.alloc (.cells #[a] t)).cell? ⟨w.heap.size, 0, none⟩ = some a := by
  rw [World.cell?_alloc_at _ _ _ _ rfl]; rfl

theorem below_told {w0 w w' : World} {r : Int} {e : Ending} (h : Told w r e w') (hb : Below w0.heap.size w0 w) : Below w0.heap.size w0 w' := by
  obtain ⟨_, q, rfl⟩ := h
  exact below_drewN hb q

/-- A bool that tells p is handed back, and memory has not turned (but for draws). -/
def Tells (w : World) (p : Prop) (e : Ending) (w' : World) : Prop := ∃ r : Bool, e = .returned (.bool r) ∧ (r = true ↔ p) ∧ ∃ q, w.drewN q = w'

theorem Tells.of {w : World} {p q : Prop} {e : Ending} {w' : World} (h : Tells w p e w') (hpq : p ↔ q) : Tells w q e w' := by
  obtain ⟨r, he, hr, hw⟩ := h
  exact ⟨r, he, hr.trans hpq, hw⟩

end Go.Proofs.Ytdcolnipdipkhaa


namespace Go.Proofs.Ytdcolnipdipkhaa
open Go.RowKit

theorem info_u32 : (Try.prog.info? 70).map (fun i => (i.zero, i.size, i.bytes)) = some (some (.int .u32 0), 1, 4) := by kernel_rfl

theorem make_u32 (n : Nat) (hn : n ≤ 70368744177664) (w : World) :
    (Instr.makeSlice 23 (.int .i64 (n : Int)) (.int .i64 (n : Int))).run Try.prog w = .ok (.slice (some ⟨w.heap.size, 0, none⟩) n n) (w.alloc (.cells (madeCells #[.int .u32 0] n) 70)) := by
  obtain ⟨i, hi, hz, hs, hb⟩ := info_parts info_u32
  exact run_make_row1 23 70 i _ Try.underlying23 hi hz hs _ _ n (by rw [hb]; omega) (by omega) w

theorem Num.zero (t : TypeId) (B : Nat) (w : World) : Num t B w 0 (.slice none 0 0) :=
  ⟨none, 0, 0, fun _ => 0, rfl, Mk.nil _ _ _, ⟨by omega, fun h => absurd h (by omega)⟩, rfl⟩


end Go.Proofs.Ytdcolnipdipkhaa


namespace Go.Proofs.Ytdcolnipdipkhaa
open Go.RowKit

/-- A number's limbs are handed back, in new memory. -/
def Lone (t : TypeId) (w : World) (V : Nat) (e : Ending) (w' : World) : Prop := ∃ v, e = .returned v ∧ Num t w.heap.size w' V v ∧ Below w.heap.size w w'

theorem Blk.two (w : World) (e : TypeId) (a b : Nat) : Blk (w.alloc (.cells #[.int .u32 (a : Int), .int .u32 (b : Int)] e)) e w.heap.size 2 (fun j => if j = 0 then a else if j = 1 then b else 0) := by
  refine ⟨_, heap_alloc_new w _, rfl, fun j hj => ?_⟩
  rcases (show j = 0 ∨ j = 1 by omega) with rfl | rfl <;> rfl

theorem bitLen_8 (y : Nat) (hy : y < 256) : Lib.bitLen y ≤ 8 := Lib.bitLen_le8 ⟨y, hy⟩

theorem len8_get (y : Nat) (hy : y < 256) (h : y < Lib.len8tab.size) : (Lib.len8tab[y]'h).toNat = Lib.bitLen y := by
  have e := Lib.len8_of (y : Int) (by omega) (by omega)
  unfold Lib.len8 at e
  rw [Int.toNat_natCast, ByteArray.getElem?_lt' _ _ h, Option.getD_some] at e
  exact Int.ofNat.inj e

/-- s is how many binary digits V has. -/
def Size (V s : Nat) : Prop := V < 2 ^ s ∧ (0 < s → 2 ^ (s - 1) ≤ V)
theorem Size.zero : Size 0 0 := ⟨by decide, fun h => absurd h (by omega)⟩
theorem Size.uniq {V s t : Nat} (h : Size V s) (k : Size V t) : s = t := by
  rcases Nat.lt_trichotomy s t with hlt | he | hgt
  · have a := k.2 (by omega)
    have b : 2 ^ s ≤ 2 ^ (t - 1) := Nat.pow_le_pow_right (by omega) (by omega)
    have c := h.1
    omega
  · exact he
  · have a := h.2 (by omega)
    have b : 2 ^ t ≤ 2 ^ (s - 1) := Nat.pow_le_pow_right (by omega) (by omega)
    have c := k.1
    omega

theorem size_bitLen : ∀ (n x : Nat), x < 2 ^ n → n ≤ 64 → Size x (Lib.bitLen x)
  | 0, x, h, _ => by
    have : x = 0 := by simpa using h
    subst this
    exact Size.zero
  | n + 1, x, h, hn => by
    by_cases hx : x = 0
    · subst hx
      exact Size.zero
    · have h64 : x < 2 ^ 64 := Nat.lt_of_lt_of_le h (Nat.pow_le_pow_right (by omega) hn)
      rw [Lib.bitLen_half x hx h64]
      obtain ⟨a, b⟩ := size_bitLen n (x / 2) (by rw [Nat.pow_succ] at h; omega) (by omega)
      refine ⟨?_, fun _ => ?_⟩
      · rw [Nat.add_comm, Nat.pow_succ]; omega
      · rw [Nat.add_comm, Nat.add_sub_cancel]
        rcases Nat.eq_zero_or_pos (Lib.bitLen (x / 2)) with h0 | h0
        · rw [h0]; simp; omega
        · have := b h0
          obtain ⟨k, hk⟩ : ∃ k, Lib.bitLen (x / 2) = k + 1 := ⟨Lib.bitLen (x / 2) - 1, by omega⟩
          rw [hk, Nat.pow_succ]
          rw [hk, Nat.add_sub_cancel] at this
          omega

theorem pw_two (k : Nat) : pw k = 2 ^ (32 * k) := by unfold pw; rw [Nat.pow_mul]

theorem size_vl {f : Nat → Nat} {k s : Nat} (hf : ∀ j, f j < 4294967296) (h0 : f k ≠ 0) (h : Size (f k) s) : Size (vl f (k + 1)) (k * 32 + s) := by
  obtain ⟨a, b⟩ := h
  have hs : 0 < s := by
    rcases Nat.eq_zero_or_pos s with h | h
    · subst h; simp at a; omega
    · exact h
  have l := vl_lt (f := f) (k := k) (fun j _ => hf j)
  have e : 2 ^ (k * 32 + s) = 2 ^ s * pw k := by rw [pw_two, Nat.pow_add, Nat.mul_comm k, Nat.mul_comm]
  have e2 : 2 ^ (k * 32 + s - 1) = 2 ^ (s - 1) * pw k := by rw [pw_two, show k * 32 + s - 1 = (s - 1) + 32 * k by omega, Nat.pow_add]
  refine ⟨?_, fun _ => ?_⟩
  · have m : (f k + 1) * pw k ≤ 2 ^ s * pw k := Nat.mul_le_mul_right _ a
    rw [Nat.add_mul] at m
    rw [vl_succ, e]
    omega
  · have m : 2 ^ (s - 1) * pw k ≤ f k * pw k := Nat.mul_le_mul_right _ (b hs)
    rw [vl_succ, e2]
    omega

end Go.Proofs.Ytdcolnipdipkhaa


namespace Go.Proofs.Ytdcolnipdipkhaa
open Go.RowKit

theorem pw_le_two {j k : Nat} (h : 32 * j ≤ k) : pw j ≤ 2 ^ k := by
  rw [pw_two]
  exact Nat.pow_le_pow_right (by omega) h
theorem two_le_pw {j k : Nat} (h : k ≤ 32 * j) : 2 ^ k ≤ pw j := by
  rw [pw_two]
  exact Nat.pow_le_pow_right (by omega) h
theorem pw40_le {k : Nat} (h : 1280 ≤ k) : pw 40 ≤ 2 ^ k := pw_le_two (by omega)
theorem le_pw40 {k : Nat} (h : k ≤ 1280) : 2 ^ k ≤ pw 40 := two_le_pw (by omega)
theorem vl_pw40 {w : World} {B n c : Nat} {A : Option Addr} {f : Nat → Nat} (h : Rd w B A n c f) (hf : Fit n f) : vl f n < pw 40 :=
  Nat.lt_of_lt_of_le (vl_lt fun j _ => h.lt j) (pw_mono hf.1)
/-- The slice value v reads as the number V. -/
def Val (w : World) (V : Nat) (v : Value) : Prop := ∃ A k c f, v = .slice A k c ∧ Rd w w.heap.size A k c f ∧ Fit k f ∧ vl f k = V
theorem Num.val {t : TypeId} {B V : Nat} {w : World} {v : Value} (h : Num t B w V v) : Val w V v := by
  obtain ⟨A, k, c, f, hv, hm, hf, hV⟩ := h
  exact ⟨A, k, c, f, hv, hm.rd, hf, hV⟩
theorem Val.below {w w' : World} {V : Nat} {v : Value} (h : Val w V v) (hb : Below w.heap.size w w') : Val w' V v := by
  obtain ⟨A, k, c, f, hv, hr, hf, hV⟩ := h
  exact ⟨A, k, c, f, hv, (hr.below hb).mono hb.size, hf, hV⟩
theorem Rd.val {w : World} {B n c : Nat} {A : Option Addr} {f : Nat → Nat} (h : Rd w B A n c f) (hB : B ≤ w.heap.size) (hf : Fit n f) : Val w (vl f n) (.slice A n c) := ⟨A, n, c, f, rfl, h.mono hB, hf, rfl⟩
theorem Val.lt {w : World} {V : Nat} {v : Value} (h : Val w V v) : V < pw 40 := by
  obtain ⟨A, k, c, f, _, hr, hf, rfl⟩ := h
  exact vl_pw40 hr hf

theorem Rd.same {w : World} {B C : Nat} {A D : Option Addr} {n c m d : Nat} {f h : Nat → Nat} (ha : Rd w B A n c f) (hb : Rd w C D m d h) (h1 : 0 < n → f (n - 1) ≠ 0) (h2 : 0 < m → h (m - 1) ≠ 0) (hv : vl f n = vl h m) : n = m ∧ ∀ j, f j = h j :=
  same_of_vl ha.lt hb.lt ha.out hb.out h1 h2 hv

theorem Val.nil (w : World) : Val w 0 (.slice none 0 0) := ⟨none, 0, 0, fun _ => 0, rfl, Rd.nil w _, ⟨by omega, fun h => absurd h (by omega)⟩, rfl⟩

/-- The number that is handed back beside an error: none, which reads as 0, beside one that is not OK. -/
def resV (er : Int) (V : Nat) : Nat := if er = 0 then V else 0
theorem resV_ok {er : Int} {V : Nat} (h : er = 0) : resV er V = V := if_pos h
theorem resV_bad {er : Int} {V : Nat} (h : er ≠ 0) : resV er V = 0 := if_neg h

/-- What a call hands back that answers limbs and an error: E says of the error what it is. -/
def Back (w : World) (E : Int → Prop) (V : Nat) (e : Ending) (w' : World) : Prop := ∃ v er, e = .returned (.tuple #[v, .int .i64 er]) ∧ Hid (E er) ∧ Hid (Val w' (resV er V) v) ∧ Hid (Below w.heap.size w w')

theorem Ans.back {w w' : World} {er : Int} {V : Nat} {e : Ending} {E : Int → Prop} (h : Ans 70 w er V e w') (hE : E er) : Back w E V e w' := by
  obtain ⟨hb, v, rfl, hg, hn⟩ := h
  refine ⟨v, er, rfl, hE, ?_, hb⟩
  by_cases he : er = 0
  · rw [resV_ok he]; exact (hg he).val
  · rw [resV_bad he, hn he]; exact Val.nil w'


end Go.Proofs.Ytdcolnipdipkhaa


namespace Go.Proofs.Ytdcolnipdipkhaa
open Go.RowKit

/-- Left's error. -/
def leftErr (n : Nat) (f : Nat → Nat) (k : Int) : Int := if Fit n f then (if k < 0 then 2 else overErr (vl f n * 2 ^ k.toNat)) else 8

theorem over_size {V s k : Nat} (hs : Size V s) (h0 : 0 < s) : V * 2 ^ k < pw 40 ↔ s + k ≤ 1280 := by
  obtain ⟨a, b⟩ := hs
  have b := b h0
  constructor
  · intro h
    rcases Nat.lt_or_ge 1280 (s + k) with hlt | hge
    · have h1 : 2 ^ (s - 1) * 2 ^ k ≤ V * 2 ^ k := Nat.mul_le_mul_right _ b
      rw [← Nat.pow_add] at h1
      have h2 : pw 40 ≤ 2 ^ (s - 1 + k) := pw40_le (by omega)
      omega
    · exact hge
  · intro h
    have h1 : (V + 1) * 2 ^ k ≤ 2 ^ s * 2 ^ k := Nat.mul_le_mul_right _ a
    rw [← Nat.pow_add, Nat.add_mul] at h1
    have h2 : 2 ^ (s + k) ≤ pw 40 := le_pw40 h
    have h3 : 0 < 2 ^ k := Nat.pow_pos (by omega)
    omega

end Go.Proofs.Ytdcolnipdipkhaa


namespace Go.Proofs.Ytdcolnipdipkhaa

/-- Powers of two, kept shut. -/
def tp (k : Nat) : Nat := 2 ^ k
theorem tp_zero : tp 0 = 1 := rfl
theorem tp_one : tp 1 = 2 := rfl
theorem tp_pos (k : Nat) : 0 < tp k := by unfold tp; exact Nat.pow_pos (by omega)
theorem tp_add (j k : Nat) : tp (j + k) = tp j * tp k := by unfold tp; rw [Nat.pow_add]
theorem tp_succ (k : Nat) : tp (k + 1) = tp k * 2 := by unfold tp; rw [Nat.pow_succ]

/-- A number, below 0 if s. -/
def num (s : Bool) (n : Nat) : Int := if s then -(n : Int) else n
theorem num_zero (s : Bool) : num s 0 = 0 := by cases s <;> rfl
theorem num_neg (s : Bool) (n : Nat) : num (!s) n = - num s n := by cases s <;> simp [num]
theorem num_inj {s t : Bool} {n m : Nat} (h : num s n = num t m) : n = m ∧ (n ≠ 0 → s = t) := by
  cases s <;> cases t <;> simp [num] at h ⊢ <;> omega
theorem num_like (s : Bool) (n m : Nat) : num s (n + m) = num s n + num s m := by cases s <;> simp [num] <;> omega
theorem num_unlike {s t : Bool} (h : s ≠ t) {n m : Nat} (hm : m ≤ n) : num s (n - m) = num s n + num t m := by
  cases s <;> cases t <;> simp [num] at h ⊢ <;> omega
theorem num_mul (s : Bool) (n m : Nat) : num s (n * m) = num s n * (m : Int) := by cases s <;> simp [num, Int.neg_mul]

/-- The number of parts that a dyad is. -/
def dv (s : Bool) (V x : Nat) : Int := num s (V * tp (4000 - x))
/-- The one form. -/
def Canon (s : Bool) (V x : Nat) : Prop := (V = 0 → s = false ∧ x = 0) ∧ (0 < x → V % 2 = 1)

theorem canon_uniq {s t : Bool} {V U x y : Nat} (h1 : Canon s V x) (h2 : Canon t U y) (hx : x ≤ 4000) (hy : y ≤ 4000) (h : dv s V x = dv t U y) : s = t ∧ V = U ∧ x = y := by
  obtain ⟨hm, hs⟩ := num_inj h
  have key : ∀ {V U x y : Nat}, x < y → y ≤ 4000 → (0 < y → U % 2 = 1) → V * tp (4000 - x) = U * tp (4000 - y) → False := by
    intro V U x y hxy hy hu h
    obtain ⟨d, rfl⟩ : ∃ d, y = x + d + 1 := ⟨y - x - 1, by omega⟩
    rw [show 4000 - x = (4000 - (x + d + 1)) + (d + 1) by omega, tp_add, tp_succ, Nat.mul_comm (tp (4000 - (x + d + 1))), ← Nat.mul_assoc] at h
    have h3 := Nat.eq_of_mul_eq_mul_right (tp_pos _) h
    have h4 := hu (by omega)
    rw [← h3, ← Nat.mul_assoc] at h4
    omega
  have hxy : x = y := by
    rcases Nat.lt_trichotomy x y with h | h | h
    · exact (key h hy h2.2 hm).elim
    · exact h
    · exact (key h hx h1.2 hm.symm).elim
  subst hxy
  have hV := Nat.eq_of_mul_eq_mul_right (tp_pos _) hm
  subst hV
  refine ⟨?_, rfl, rfl⟩
  rcases Nat.eq_zero_or_pos V with h0 | h0
  · rw [(h1.1 h0).1, (h2.1 h0).1]
  · refine hs ?_
    have := Nat.mul_pos h0 (tp_pos (4000 - x))
    omega

/-- Some dyad that may be is M. -/
def Okay (M : Int) : Prop := ∃ s V x, Canon s V x ∧ V < pw 40 ∧ x ≤ 1024 ∧ dv s V x = M
/-- The error where M is to be told. -/
def Derr (M : Int) (er : Int) : Prop := (Okay M ∧ er = 0) ∨ (¬ Okay M ∧ er = 10)
theorem Derr.uniq {M a b : Int} (h : Derr M a) (k : Derr M b) : a = b := by
  rcases h with ⟨h, rfl⟩ | ⟨h, rfl⟩ <;> rcases k with ⟨k, rfl⟩ | ⟨k, rfl⟩
  · rfl
  · exact absurd h k
  · exact absurd k h
  · rfl
theorem not_okay {s : Bool} {V x : Nat} (hc : Canon s V x) (hx : x ≤ 4000) (h : pw 40 ≤ V ∨ 1024 < x) : ¬ Okay (dv s V x) := by
  rintro ⟨t, U, y, hu, hU, hy, he⟩
  obtain ⟨rfl, rfl, rfl⟩ := canon_uniq hu hc (by omega) hx he
  omega

theorem okay_zero : Okay 0 := ⟨false, 0, 0, ⟨fun _ => ⟨rfl, rfl⟩, fun h => absurd h (by omega)⟩, pw_pos 40, by omega, by simp [dv, num]⟩
theorem okay_neg {M : Int} (h : Okay M) : Okay (-M) := by
  obtain ⟨s, V, x, hc, hV, hx, rfl⟩ := h
  rcases Nat.eq_zero_or_pos V with h0 | h0
  · subst h0
    rw [show -(dv s 0 x) = 0 by simp [dv, num_zero]]
    exact okay_zero
  · exact ⟨!s, V, x, ⟨fun h => absurd h (by omega), hc.2⟩, hV, hx, num_neg s _⟩

end Go.Proofs.Ytdcolnipdipkhaa


namespace Go.Proofs.Ytdcolnipdipkhaa
open Go.RowKit

/-- Bits' answer: an error, and how many digits. -/
def BitsPost (w : World) (n : Nat) (f : Nat → Nat) (e : Ending) (w' : World) : Prop :=
  Below w.heap.size w w' ∧ ∃ s : Nat, e = .returned (.tuple #[.int .i64 (s : Int), .int .i64 (chk n f)]) ∧ (Fit n f → Size (vl f n) s) ∧ (¬ Fit n f → s = 0)

end Go.Proofs.Ytdcolnipdipkhaa


namespace Go.Proofs.Ytdcolnipdipkhaa
open Go.RowKit

/-- The slice v lies from block B on, or nowhere. -/
def New (B : Nat) (v : Value) : Prop := ∀ b off n c, v = .slice (some ⟨b, off, none⟩) n c → B ≤ b
theorem New.nil (B c n : Nat) : New B (.slice none n c) := fun b off n c h => by cases h
theorem New.mono {B B' : Nat} {v : Value} (h : New B v) (hB : B' ≤ B) : New B' v := fun b off n c hv => Nat.le_trans hB (h b off n c hv)
theorem Num.new {t : TypeId} {B V : Nat} {w : World} {v : Value} (h : Num t B w V v) : New B v := by
  obtain ⟨A, k, c, f, rfl, hm, _, _⟩ := h
  intro b off n c hv
  rcases hm.own with ⟨rfl, _, _⟩ | ⟨g, cs, rfl, hg, _⟩
  · cases hv
  · injection hv with h1
    injection h1 with h1
    injection h1 with h1
    omega
theorem Val.shape {w : World} {V : Nat} {v : Value} (h : Val w V v) : ∃ A n c, v = .slice A n c := by
  obtain ⟨A, n, c, _, rfl, _⟩ := h
  exact ⟨A, n, c, rfl⟩
/-- A store elsewhere. -/
theorem Val.set {w : World} {V g : Nat} {v : Value} (h : Val w V v) (hn : New (g + 1) v) (j : Nat) (u : Value) : Val (w.setCell ⟨g, j, none⟩ u) V v := by
  obtain ⟨A, n, c, f, rfl, hr, hf, hV⟩ := h
  refine ⟨A, n, c, f, rfl, ⟨hr.cap, hr.max, hr.lt, hr.out, fun hn0 => ?_⟩, hf, hV⟩
  obtain ⟨b, off, rfl, hB, hc⟩ := hr.at_ hn0
  have hb := hn b off n c rfl
  have hblk := Below.heap_setCell w ⟨g, j, none⟩ u b (by show b ≠ g; omega)
  refine ⟨b, off, rfl, by simpa [World.setCell] using hB, fun j hj => ?_⟩
  rw [← hc j hj]
  exact World.cell?_of_block hblk

theorem Num.shape {t : TypeId} {B V : Nat} {w : World} {v : Value} (h : Num t B w V v) : ∃ A n c, v = .slice A n c := by
  obtain ⟨A, n, c, _, rfl, _⟩ := h
  exact ⟨A, n, c, rfl⟩
theorem Num.set {t : TypeId} {B V g : Nat} {w : World} {v : Value} (h : Num t B w V v) (hg : g < B) (j : Nat) (u : Value) : Num t B (w.setCell ⟨g, j, none⟩ u) V v := by
  obtain ⟨A, n, c, f, rfl, hm, hf, hV⟩ := h
  refine ⟨A, n, c, f, rfl, ⟨hm.cap, hm.max, hm.lt, hm.out, ?_⟩, hf, hV⟩
  rcases hm.own with h0 | ⟨b, cs, rfl, hB, hh, hs, hc⟩
  · exact .inl h0
  · exact .inr ⟨b, cs, rfl, hB, (Below.heap_setCell w ⟨g, j, none⟩ u b (by show b ≠ g; omega)).trans hh, hs, hc⟩

/-- As Back, and the limbs lie in new memory. -/
def Backn (w : World) (E : Int → Prop) (V : Nat) (e : Ending) (w' : World) : Prop := ∃ v er, e = .returned (.tuple #[v, .int .i64 er]) ∧ Hid (E er) ∧ Hid (Num 70 w.heap.size w' (resV er V) v) ∧ Hid (Below w.heap.size w w')
theorem Ans.backn {w w' : World} {er : Int} {V : Nat} {e : Ending} {E : Int → Prop} (h : Ans 70 w er V e w') (hE : E er) : Backn w E V e w' := by
  obtain ⟨hb, v, rfl, hg, hn⟩ := h
  refine ⟨v, er, rfl, hE, ?_, hb⟩
  by_cases he : er = 0
  · rw [resV_ok he]; exact hg he
  · rw [resV_bad he, hn he]; exact Num.zero _ _ _

section
variable {V U : Nat} {w : World} {v1 v2 : Value}
end
theorem over_ok {V : Nat} (h : V < pw 40) : overErr V = 0 := if_pos h
theorem over_bad {V : Nat} (h : ¬ V < pw 40) : overErr V = 10 := if_neg h


end Go.Proofs.Ytdcolnipdipkhaa


namespace Go.Proofs.Ytdcolnipdipkhaa
set_option maxRecDepth 100000
open Go.RowKit Go.Shelf
attribute [local go_sem] Oper.semAt_some

def upto {α : Type} (f : Nat → α) (k : Nat) : List α := (List.range k).map f
theorem upto_succ {α : Type} (f : Nat → α) (k : Nat) : upto f (k + 1) = upto f k ++ [f k] := by simp [upto, List.range_succ]
theorem upto_length {α : Type} (f : Nat → α) (k : Nat) : (upto f k).length = k := by simp [upto]

/-- A place among m. -/
abbrev Idx (m : Nat) := { j : Nat // j < m }
/-- The place that comes at round k. -/
def bkw (m k : Nat) : Nat := m - 1 - k

end Go.Proofs.Ytdcolnipdipkhaa

