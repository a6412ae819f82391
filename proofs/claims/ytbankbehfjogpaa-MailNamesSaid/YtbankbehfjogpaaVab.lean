/- Contracts: compare, Cmp, slices.Equal, Same. -/
/- 'make' of limbs. -/
/- Contracts: Of, Len32, size, Bits. -/
/- A slice that reads as a number; what a call hands back beside an error. -/
/- Contract: Left. -/
/- Dyads as whole numbers of parts of 2^-4000. -/
/- Contract: limb.Bits. -/
/- The contracts of package limb that whatever asks dyads uses, for numbers that may be. -/
/- slices.Backward over limbs. -/
/- Package ratio: a number that is divided: double, takeOff. -/
/- A loop over an iterator that writes one block of cells between two rounds: what the loop's caller owes, and what it is told. -/
import Derived.Test.YtbankbehfjogpaaVaa
import Derived.Lib.Strings
import Derived.Lib.Slices
import Derived.Lib.Small
import Derived.Lib.Walk
import Derived.Lib.BitFns
import Derived.RangeFuncNested
import Derived.RangeFuncBound
import Derived.RangeFuncCalls
import Derived.RangeFuncLeaves
import Derived.RangeFuncBox
import Derived.Shelf.Abstract
import Derived.Shelf.RegionOpen
import Derived.WalkKit
import Derived.OwnWalkIn
import Derived.TacticsInMore
import Derived.LoopNIn
import Derived.LoopIn
import Derived.RegionTactic
import Derived.Deep.RegionHeld3

namespace Go.Proofs.Ytbankbehfjogpaa
set_option maxRecDepth 100000
open Go.RowKit

/-- A number is handed back, and memory has not turned (but for draws). -/
def Told (w : World) (r : Int) (e : Ending) (w' : World) : Prop := e = .returned (.int .i64 r) ∧ ∃ q, w.drewN q = w'

/-- Cmp's answer. -/
def cmpErr (n : Nat) (f : Nat → Nat) (m : Nat) (h : Nat → Nat) : Int := if Fit n f ∧ Fit m h then 0 else 8
def cmpRes (n : Nat) (f : Nat → Nat) (m : Nat) (h : Nat → Nat) : Int := if Fit n f ∧ Fit m h then cmpN (vl f n) (vl h m) else 0

def TwoInts (w : World) (a b : Int) (e : Ending) (w' : World) : Prop := e = .returned (.tuple #[.int .i64 a, .int .i64 b]) ∧ Below w.heap.size w w'

theorem cell_row2_0 (w : World) (a b : Value) (t : TypeId) : (w.alloc (.cells #[a, b] t)).cell? ⟨w.heap.size, 0, none⟩ = some a := by
  rw [World.cell?_alloc_at _ _ _ _ rfl]; rfl
theorem cell_row2_1 (w : World) (a b : Value) (t : TypeId) : (w.alloc (.cells #[a, b] t)).cell? ⟨w.heap.size, 1, none⟩ = some b := by
  rw [World.cell?_alloc_at _ _ _ _ rfl]; rfl
theorem cell_row1_0 (w : World) (a : Value) (t : TypeId) : (w.alloc (.cells #[a] t)).cell? ⟨w.heap.size, 0, none⟩ = some a := by
  rw [World.cell?_alloc_at _ _ _ _ rfl]; rfl

theorem below_told {w0 w w' : World} {r : Int} {e : Ending} (h : Told w r e w') (hb : Below w0.heap.size w0 w) : Below w0.heap.size w0 w' := by
  obtain ⟨_, q, rfl⟩ := h
  exact below_drewN hb q

set_option maxHeartbeats 400000 in
theorem equal_len (A B : Option Addr) (n c m d : Nat) (w : World) (hne : n ≠ m) :
    Calls Try.prog 36 #[.slice A n c, .slice B m d] w fun e w' => e = .returned (.bool false) ∧ w = w' := by
  have h : (((n : Nat) : Int) != ((m : Nat) : Int)) = true := by simp; omega
  go_enter Try.func36, Try.ntmps36
  go_wp2
  go_ret
  exact ⟨rfl, rfl⟩

theorem equal_nil (A B : Option Addr) (c d : Nat) (w : World) :
    Calls Try.prog 36 #[.slice A 0 c, .slice B 0 d] w fun e w' => e = .returned (.bool true) ∧ w = w' := by
  go_enter Try.func36, Try.ntmps36
  go_wp2
  refine wp_loop_rounds 1 ?_
  rw [rounds_succ]
  go_wp2
  go_ret
  exact ⟨rfl, rfl⟩

/-- A bool that tells p is handed back, and memory has not turned (but for draws). -/
def Tells (w : World) (p : Prop) (e : Ending) (w' : World) : Prop := ∃ r : Bool, e = .returned (.bool r) ∧ (r = true ↔ p) ∧ ∃ q, w.drewN q = w'

set_option maxHeartbeats 800000 in
theorem equal_same (b o b2 o2 n c d : Nat) (f g : Nat → Nat) (w : World) (_hc : n ≤ c) (_hm : n ≤ 140737488355328) (_hd : n ≤ d)
    (h1 : ∀ j, j < n → w.cell? ⟨b, o + j, none⟩ = some (.int .u32 (f j : Int))) (h2 : ∀ j, j < n → w.cell? ⟨b2, o2 + j, none⟩ = some (.int .u32 (g j : Int))) :
    Calls Try.prog 36 #[.slice (some ⟨b, o, none⟩) n c, .slice (some ⟨b2, o2, none⟩) n d] w (Tells w (∀ j, j < n → f j = g j)) := by
  go_enter Try.func36, Try.ntmps36
  go_wp2
  go_loopw [13] (fun i wr => ∃ k : Nat, k ≤ n ∧ i = .int .i64 k ∧ (∀ j, j < k → f j = g j) ∧ ∃ q, w.drewN q = wr) (fun i _ => n - (intOf i).toNat)
  case atStart => exact ⟨0, Nat.zero_le _, rfl, fun j h => by omega, 0, rfl⟩
  case round =>
    obtain ⟨k, hk, rfl, heq, q, rfl⟩ := hrel
    by_cases hkn : k < n
    · have c1 := h1 k hkn
      have c2 := h2 k hkn
      have i1 : (k : Int) < (n : Int) := by omega
      have Heq := hid heq
      clear heq h1 h2
      by_cases hfg : f k = g k
      · have hb : (((f k : Nat) : Int) != ((g k : Nat) : Int)) = false := by simp; omega
        have Hfg := hid hfg
        clear hfg
        go_wp2
        go_quiet (fail)
        go_wp2
        go_roundw
        case rel => exact ⟨k + 1, by omega, by go_num, fun j hj => by
          rcases Nat.lt_or_ge j k with h | h
          · exact Heq.out j h
          · obtain rfl : j = k := by omega
            exact Hfg.out, _, rfl⟩
        case measure => simp [intOf]; omega
      · have hb : (((f k : Nat) : Int) != ((g k : Nat) : Int)) = true := by simp; omega
        have Hfg := hid hfg
        clear hfg
        go_wp2
        go_quiet (fail)
        go_wp2
        go_ret
        exact ⟨_, rfl, ⟨(fun h => by cases h), (fun h => absurd (h k hkn) Hfg.out)⟩, _, drewN2 _ _ _⟩
    · obtain rfl : k = n := by omega
      have Heq := hid heq
      clear heq h1 h2
      go_wp2
      go_ret
      exact ⟨_, rfl, ⟨fun _ => Heq.out, fun _ => rfl⟩, _, rfl⟩

theorem Tells.of {w : World} {p q : Prop} {e : Ending} {w' : World} (h : Tells w p e w') (hpq : p ↔ q) : Tells w q e w' := by
  obtain ⟨r, he, hr, hw⟩ := h
  exact ⟨r, he, hr.trans hpq, hw⟩

theorem equal_any {B C : Nat} {A D : Option Addr} {n c m d : Nat} {f h : Nat → Nat} {w : World} (ha : Rd w B A n c f) (hb : Rd w C D m d h) :
    Calls Try.prog 36 #[.slice A n c, .slice D m d] w (Tells w (n = m ∧ ∀ j, f j = h j)) := by
  by_cases hnm : n = m
  · subst hnm
    rcases Nat.eq_zero_or_pos n with h0 | h0
    · subst h0
      refine (equal_nil A D c d w).mono ?_
      rintro e w' ⟨rfl, rfl⟩
      exact ⟨true, rfl, ⟨fun _ => ⟨rfl, fun j => by rw [ha.out j (by omega), hb.out j (by omega)]⟩, fun _ => rfl⟩, 0, rfl⟩
    · obtain ⟨b, o, rfl, _, h1⟩ := ha.at_ h0
      obtain ⟨b2, o2, rfl, _, h2⟩ := hb.at_ h0
      refine (equal_same b o b2 o2 n c d f h w ha.cap ha.max hb.cap h1 h2).mono ?_
      intro e w' ht
      refine ht.of ⟨fun hh => ⟨rfl, fun j => ?_⟩, fun hh j _ => hh.2 j⟩
      rcases Nat.lt_or_ge j n with hlt | hge
      · exact hh j hlt
      · rw [ha.out j hge, hb.out j hge]
  · refine (equal_len A D n c m d w hnm).mono ?_
    rintro e w' ⟨rfl, rfl⟩
    exact ⟨false, rfl, ⟨(fun h => by cases h), (fun h => absurd h.1 hnm)⟩, 0, rfl⟩

theorem same_any {B C : Nat} {A D : Option Addr} {n c m d : Nat} {f h : Nat → Nat} {w : World} (ha : Rd w B A n c f) (hb : Rd w C D m d h) :
    Calls Try.prog 77 #[.slice A n c, .slice D m d] w (Tells w (n = m ∧ ∀ j, f j = h j)) := by
  have Ce := hid (equal_any ha hb)
  clear ha hb
  go_enter Try.func77, Try.ntmps77
  go_wp2_with fail
  refine Ce.out.mono ?_
  rintro e w' ⟨r, rfl, hr, q, rfl⟩
  have Hr := hid hr
  clear hr
  go_wp2
  go_ret
  exact ⟨r, rfl, Hr.out, q, rfl⟩

end Go.Proofs.Ytbankbehfjogpaa


namespace Go.Proofs.Ytbankbehfjogpaa
open Go.RowKit

theorem info_u32 : (Try.prog.info? 34).map (fun i => (i.zero, i.size, i.bytes)) = some (some (.int .u32 0), 1, 4) := by kernel_rfl

theorem make_u32 (n : Nat) (hn : n ≤ 70368744177664) (w : World) :
    (Instr.makeSlice 22 (.int .i64 (n : Int)) (.int .i64 (n : Int))).run Try.prog w = .ok (.slice (some ⟨w.heap.size, 0, none⟩) n n) (w.alloc (.cells (madeCells #[.int .u32 0] n) 34)) := by
  obtain ⟨i, hi, hz, hs, hb⟩ := info_parts info_u32
  exact run_make_row1 22 34 i _ Try.underlying22 hi hz hs _ _ n (by rw [hb]; omega) (by omega) w

theorem Num.zero (t : TypeId) (B : Nat) (w : World) : Num t B w 0 (.slice none 0 0) :=
  ⟨none, 0, 0, fun _ => 0, rfl, Mk.nil _ _ _, ⟨by omega, fun h => absurd h (by omega)⟩, rfl⟩


end Go.Proofs.Ytbankbehfjogpaa


namespace Go.Proofs.Ytbankbehfjogpaa
set_option maxRecDepth 100000
open Go.RowKit

/-- A number's limbs are handed back, in new memory. -/
def Lone (t : TypeId) (w : World) (V : Nat) (e : Ending) (w' : World) : Prop := ∃ v, e = .returned v ∧ Num t w.heap.size w' V v ∧ Below w.heap.size w w'

theorem Blk.two (w : World) (e : TypeId) (a b : Nat) : Blk (w.alloc (.cells #[.int .u32 (a : Int), .int .u32 (b : Int)] e)) e w.heap.size 2 (fun j => if j = 0 then a else if j = 1 then b else 0) := by
  refine ⟨_, heap_alloc_new w _, rfl, fun j hj => ?_⟩
  rcases (show j = 0 ∨ j = 1 by omega) with rfl | rfl <;> rfl

set_option maxHeartbeats 400000 in
theorem of_any (x : Nat) (hx : x ≤ 18446744073709551615) (w : World) :
    Calls Try.prog 17 #[.int .u64 (x : Int)] w (Lone 34 w x) := by
  have hb := Blk.two w 34 (x % 4294967296) (x / 4294967296)
  have hz : ∀ j, (fun j => if j = 0 then x % 4294967296 else if j = 1 then x / 4294967296 else 0) j < 4294967296 := by
    intro j
    show (if j = 0 then x % 4294967296 else if j = 1 then x / 4294967296 else 0) < 4294967296
    split
    · omega
    · split <;> omega
  have hV : vl (fun j => if j = 0 then x % 4294967296 else if j = 1 then x / 4294967296 else 0) 2 = x := by
    simp [vl, pw]
    omega
  generalize (fun j => if j = 0 then x % 4294967296 else if j = 1 then x / 4294967296 else 0) = z at *
  have Cc := hid (cut_any w.heap.size 2 2 z _ (Nat.le_refl _) (by omega) (fun j hj => hb.cell hj))
  have R := cut_num (B := w.heap.size) hb (Nat.le_refl _) hz (by have := cutLen_le z 2; omega)
  rw [hV] at R
  have HR := hid R
  rw [show (((x % 4294967296 : Nat) : Int)) = (x : Int) % 4294967296 by omega, show (((x / 4294967296 : Nat) : Int)) = (x : Int) / 4294967296 by omega] at Cc HR
  clear hb hz hV R
  go_enter Try.func17, Try.ntmps17
  go_wp2_with fail
  refine Cc.out.mono ?_
  rintro e w' ⟨rfl, rfl⟩
  go_wp2
  go_ret
  exact ⟨_, rfl, HR.out, (Below.refl _ _).alloc (Nat.le_refl _) _⟩

theorem bitLen_8 (y : Nat) (hy : y < 256) : Lib.bitLen y ≤ 8 := Lib.bitLen_le8 ⟨y, hy⟩

theorem len8_get (y : Nat) (hy : y < 256) (h : y < Lib.len8tab.size) : (Lib.len8tab[y]'h).toNat = Lib.bitLen y := by
  have e := Lib.len8_of (y : Int) (by omega) (by omega)
  unfold Lib.len8 at e
  rw [Int.toNat_natCast, ByteArray.getElem?_lt' _ _ h, Option.getD_some] at e
  exact Int.ofNat.inj e

/-- s is how many binary digits V has. -/
def Size (V s : Nat) : Prop := V < 2 ^ s ∧ (0 < s → 2 ^ (s - 1) ≤ V)
theorem Size.zero : Size 0 0 := ⟨by decide, fun h => absurd h (by omega)⟩
theorem Size.uniq {V s t : Nat} (h : Size V s) (k : Size V t) : s = t := by
  rcases Nat.lt_trichotomy s t with hlt | he | hgt
  · have a := k.2 (by omega)
    have b : 2 ^ s ≤ 2 ^ (t - 1) := Nat.pow_le_pow_right (by omega) (by omega)
    have c := h.1
    omega
  · exact he
  · have a := h.2 (by omega)
    have b : 2 ^ t ≤ 2 ^ (s - 1) := Nat.pow_le_pow_right (by omega) (by omega)
    have c := k.1
    omega

theorem size_bitLen : ∀ (n x : Nat), x < 2 ^ n → n ≤ 64 → Size x (Lib.bitLen x)
  | 0, x, h, _ => by
    have : x = 0 := by simpa using h
    subst this
    exact Size.zero
  | n + 1, x, h, hn => by
    by_cases hx : x = 0
    · subst hx
      exact Size.zero
    · have h64 : x < 2 ^ 64 := Nat.lt_of_lt_of_le h (Nat.pow_le_pow_right (by omega) hn)
      rw [Lib.bitLen_half x hx h64]
      obtain ⟨a, b⟩ := size_bitLen n (x / 2) (by rw [Nat.pow_succ] at h; omega) (by omega)
      refine ⟨?_, fun _ => ?_⟩
      · rw [Nat.add_comm, Nat.pow_succ]; omega
      · rw [Nat.add_comm, Nat.add_sub_cancel]
        rcases Nat.eq_zero_or_pos (Lib.bitLen (x / 2)) with h0 | h0
        · rw [h0]; simp; omega
        · have := b h0
          obtain ⟨k, hk⟩ : ∃ k, Lib.bitLen (x / 2) = k + 1 := ⟨Lib.bitLen (x / 2) - 1, by omega⟩
          rw [hk, Nat.pow_succ]
          rw [hk, Nat.add_sub_cancel] at this
          omega

theorem pw_two (k : Nat) : pw k = 2 ^ (32 * k) := by unfold pw; rw [Nat.pow_mul]

theorem size_vl {f : Nat → Nat} {k s : Nat} (hf : ∀ j, f j < 4294967296) (h0 : f k ≠ 0) (h : Size (f k) s) : Size (vl f (k + 1)) (k * 32 + s) := by
  obtain ⟨a, b⟩ := h
  have hs : 0 < s := by
    rcases Nat.eq_zero_or_pos s with h | h
    · subst h; simp at a; omega
    · exact h
  have l := vl_lt (f := f) (k := k) (fun j _ => hf j)
  have e : 2 ^ (k * 32 + s) = 2 ^ s * pw k := by rw [pw_two, Nat.pow_add, Nat.mul_comm k, Nat.mul_comm]
  have e2 : 2 ^ (k * 32 + s - 1) = 2 ^ (s - 1) * pw k := by rw [pw_two, show k * 32 + s - 1 = (s - 1) + 32 * k by omega, Nat.pow_add]
  refine ⟨?_, fun _ => ?_⟩
  · have m : (f k + 1) * pw k ≤ 2 ^ s * pw k := Nat.mul_le_mul_right _ a
    rw [Nat.add_mul] at m
    rw [vl_succ, e]
    omega
  · have m : 2 ^ (s - 1) * pw k ≤ f k * pw k := Nat.mul_le_mul_right _ (b hs)
    rw [vl_succ, e2]
    omega

end Go.Proofs.Ytbankbehfjogpaa


namespace Go.Proofs.Ytbankbehfjogpaa
open Go.RowKit

theorem pw_le_two {j k : Nat} (h : 32 * j ≤ k) : pw j ≤ 2 ^ k := by
  rw [pw_two]
  exact Nat.pow_le_pow_right (by omega) h
theorem two_le_pw {j k : Nat} (h : k ≤ 32 * j) : 2 ^ k ≤ pw j := by
  rw [pw_two]
  exact Nat.pow_le_pow_right (by omega) h
theorem pw40_le {k : Nat} (h : 1280 ≤ k) : pw 40 ≤ 2 ^ k := pw_le_two (by omega)
theorem le_pw40 {k : Nat} (h : k ≤ 1280) : 2 ^ k ≤ pw 40 := two_le_pw (by omega)
theorem vl_pw40 {w : World} {B n c : Nat} {A : Option Addr} {f : Nat → Nat} (h : Rd w B A n c f) (hf : Fit n f) : vl f n < pw 40 :=
  Nat.lt_of_lt_of_le (vl_lt fun j _ => h.lt j) (pw_mono hf.1)
/-- The slice value v reads as the number V. -/
def Val (w : World) (V : Nat) (v : Value) : Prop := ∃ A k c f, v = .slice A k c ∧ Rd w w.heap.size A k c f ∧ Fit k f ∧ vl f k = V
theorem Num.val {t : TypeId} {B V : Nat} {w : World} {v : Value} (h : Num t B w V v) : Val w V v := by
  obtain ⟨A, k, c, f, hv, hm, hf, hV⟩ := h
  exact ⟨A, k, c, f, hv, hm.rd, hf, hV⟩
theorem Val.below {w w' : World} {V : Nat} {v : Value} (h : Val w V v) (hb : Below w.heap.size w w') : Val w' V v := by
  obtain ⟨A, k, c, f, hv, hr, hf, hV⟩ := h
  exact ⟨A, k, c, f, hv, (hr.below hb).mono hb.size, hf, hV⟩
theorem Rd.val {w : World} {B n c : Nat} {A : Option Addr} {f : Nat → Nat} (h : Rd w B A n c f) (hB : B ≤ w.heap.size) (hf : Fit n f) : Val w (vl f n) (.slice A n c) := ⟨A, n, c, f, rfl, h.mono hB, hf, rfl⟩
theorem Val.lt {w : World} {V : Nat} {v : Value} (h : Val w V v) : V < pw 40 := by
  obtain ⟨A, k, c, f, _, hr, hf, rfl⟩ := h
  exact vl_pw40 hr hf

theorem of_int (x : Int) (h0 : 0 ≤ x) (h1 : x ≤ 18446744073709551615) (w : World) :
    Calls Try.prog 17 #[.int .u64 x] w (Lone 34 w x.toNat) := by
  obtain ⟨y, rfl⟩ := Int.eq_ofNat_of_zero_le h0
  rw [Int.toNat_natCast]
  exact of_any y (by omega) w

theorem Rd.same {w : World} {B C : Nat} {A D : Option Addr} {n c m d : Nat} {f h : Nat → Nat} (ha : Rd w B A n c f) (hb : Rd w C D m d h) (h1 : 0 < n → f (n - 1) ≠ 0) (h2 : 0 < m → h (m - 1) ≠ 0) (hv : vl f n = vl h m) : n = m ∧ ∀ j, f j = h j :=
  same_of_vl ha.lt hb.lt ha.out hb.out h1 h2 hv

theorem Val.nil (w : World) : Val w 0 (.slice none 0 0) := ⟨none, 0, 0, fun _ => 0, rfl, Rd.nil w _, ⟨by omega, fun h => absurd h (by omega)⟩, rfl⟩

/-- The number that is handed back beside an error: none, which reads as 0, beside one that is not OK. -/
def resV (er : Int) (V : Nat) : Nat := if er = 0 then V else 0
theorem resV_ok {er : Int} {V : Nat} (h : er = 0) : resV er V = V := if_pos h
theorem resV_bad {er : Int} {V : Nat} (h : er ≠ 0) : resV er V = 0 := if_neg h

/-- What a call hands back that answers limbs and an error: E says of the error what it is. -/
def Back (w : World) (E : Int → Prop) (V : Nat) (e : Ending) (w' : World) : Prop := ∃ v er, e = .returned (.tuple #[v, .int .i64 er]) ∧ Hid (E er) ∧ Hid (Val w' (resV er V) v) ∧ Hid (Below w.heap.size w w')

theorem Ans.back {w w' : World} {er : Int} {V : Nat} {e : Ending} {E : Int → Prop} (h : Ans 34 w er V e w') (hE : E er) : Back w E V e w' := by
  obtain ⟨hb, v, rfl, hg, hn⟩ := h
  refine ⟨v, er, rfl, hE, ?_, hb⟩
  by_cases he : er = 0
  · rw [resV_ok he]; exact (hg he).val
  · rw [resV_bad he, hn he]; exact Val.nil w'


end Go.Proofs.Ytbankbehfjogpaa


namespace Go.Proofs.Ytbankbehfjogpaa
open Go.RowKit

/-- Left's error. -/
def leftErr (n : Nat) (f : Nat → Nat) (k : Int) : Int := if Fit n f then (if k < 0 then 2 else overErr (vl f n * 2 ^ k.toNat)) else 8

theorem over_size {V s k : Nat} (hs : Size V s) (h0 : 0 < s) : V * 2 ^ k < pw 40 ↔ s + k ≤ 1280 := by
  obtain ⟨a, b⟩ := hs
  have b := b h0
  constructor
  · intro h
    rcases Nat.lt_or_ge 1280 (s + k) with hlt | hge
    · have h1 : 2 ^ (s - 1) * 2 ^ k ≤ V * 2 ^ k := Nat.mul_le_mul_right _ b
      rw [← Nat.pow_add] at h1
      have h2 : pw 40 ≤ 2 ^ (s - 1 + k) := pw40_le (by omega)
      omega
    · exact hge
  · intro h
    have h1 : (V + 1) * 2 ^ k ≤ 2 ^ s * 2 ^ k := Nat.mul_le_mul_right _ a
    rw [← Nat.pow_add, Nat.add_mul] at h1
    have h2 : 2 ^ (s + k) ≤ pw 40 := le_pw40 h
    have h3 : 0 < 2 ^ k := Nat.pow_pos (by omega)
    omega

end Go.Proofs.Ytbankbehfjogpaa


namespace Go.Proofs.Ytbankbehfjogpaa

/-- Powers of two, kept shut. -/
def tp (k : Nat) : Nat := 2 ^ k
theorem tp_zero : tp 0 = 1 := rfl
theorem tp_one : tp 1 = 2 := rfl
theorem tp_pos (k : Nat) : 0 < tp k := by unfold tp; exact Nat.pow_pos (by omega)
theorem tp_add (j k : Nat) : tp (j + k) = tp j * tp k := by unfold tp; rw [Nat.pow_add]
theorem tp_succ (k : Nat) : tp (k + 1) = tp k * 2 := by unfold tp; rw [Nat.pow_succ]

/-- A number, below 0 if s. -/
def num (s : Bool) (n : Nat) : Int := if s then -(n : Int) else n
theorem num_zero (s : Bool) : num s 0 = 0 := by cases s <;> rfl
theorem num_neg (s : Bool) (n : Nat) : num (!s) n = - num s n := by cases s <;> simp [num]
theorem num_inj {s t : Bool} {n m : Nat} (h : num s n = num t m) : n = m ∧ (n ≠ 0 → s = t) := by
  cases s <;> cases t <;> simp [num] at h ⊢ <;> omega
theorem num_like (s : Bool) (n m : Nat) : num s (n + m) = num s n + num s m := by cases s <;> simp [num] <;> omega
theorem num_unlike {s t : Bool} (h : s ≠ t) {n m : Nat} (hm : m ≤ n) : num s (n - m) = num s n + num t m := by
  cases s <;> cases t <;> simp [num] at h ⊢ <;> omega
theorem num_mul (s : Bool) (n m : Nat) : num s (n * m) = num s n * (m : Int) := by cases s <;> simp [num, Int.neg_mul]

/-- The number of parts that a dyad is. -/
def dv (s : Bool) (V x : Nat) : Int := num s (V * tp (4000 - x))
/-- The one form. -/
def Canon (s : Bool) (V x : Nat) : Prop := (V = 0 → s = false ∧ x = 0) ∧ (0 < x → V % 2 = 1)

theorem canon_uniq {s t : Bool} {V U x y : Nat} (h1 : Canon s V x) (h2 : Canon t U y) (hx : x ≤ 4000) (hy : y ≤ 4000) (h : dv s V x = dv t U y) : s = t ∧ V = U ∧ x = y := by
  obtain ⟨hm, hs⟩ := num_inj h
  have key : ∀ {V U x y : Nat}, x < y → y ≤ 4000 → (0 < y → U % 2 = 1) → V * tp (4000 - x) = U * tp (4000 - y) → False := by
    intro V U x y hxy hy hu h
    obtain ⟨d, rfl⟩ : ∃ d, y = x + d + 1 := ⟨y - x - 1, by omega⟩
    rw [show 4000 - x = (4000 - (x + d + 1)) + (d + 1) by omega, tp_add, tp_succ, Nat.mul_comm (tp (4000 - (x + d + 1))), ← Nat.mul_assoc] at h
    have h3 := Nat.eq_of_mul_eq_mul_right (tp_pos _) h
    have h4 := hu (by omega)
    rw [← h3, ← Nat.mul_assoc] at h4
    omega
  have hxy : x = y := by
    rcases Nat.lt_trichotomy x y with h | h | h
    · exact (key h hy h2.2 hm).elim
    · exact h
    · exact (key h hx h1.2 hm.symm).elim
  subst hxy
  have hV := Nat.eq_of_mul_eq_mul_right (tp_pos _) hm
  subst hV
  refine ⟨?_, rfl, rfl⟩
  rcases Nat.eq_zero_or_pos V with h0 | h0
  · rw [(h1.1 h0).1, (h2.1 h0).1]
  · refine hs ?_
    have := Nat.mul_pos h0 (tp_pos (4000 - x))
    omega

/-- Some dyad that may be is M. -/
def Okay (M : Int) : Prop := ∃ s V x, Canon s V x ∧ V < pw 40 ∧ x ≤ 1024 ∧ dv s V x = M
/-- The error where M is to be told. -/
def Derr (M : Int) (er : Int) : Prop := (Okay M ∧ er = 0) ∨ (¬ Okay M ∧ er = 10)
theorem Derr.uniq {M a b : Int} (h : Derr M a) (k : Derr M b) : a = b := by
  rcases h with ⟨h, rfl⟩ | ⟨h, rfl⟩ <;> rcases k with ⟨k, rfl⟩ | ⟨k, rfl⟩
  · rfl
  · exact absurd h k
  · exact absurd k h
  · rfl
theorem not_okay {s : Bool} {V x : Nat} (hc : Canon s V x) (hx : x ≤ 4000) (h : pw 40 ≤ V ∨ 1024 < x) : ¬ Okay (dv s V x) := by
  rintro ⟨t, U, y, hu, hU, hy, he⟩
  obtain ⟨rfl, rfl, rfl⟩ := canon_uniq hu hc (by omega) hx he
  omega

theorem okay_zero : Okay 0 := ⟨false, 0, 0, ⟨fun _ => ⟨rfl, rfl⟩, fun h => absurd h (by omega)⟩, pw_pos 40, by omega, by simp [dv, num]⟩
theorem okay_neg {M : Int} (h : Okay M) : Okay (-M) := by
  obtain ⟨s, V, x, hc, hV, hx, rfl⟩ := h
  rcases Nat.eq_zero_or_pos V with h0 | h0
  · subst h0
    rw [show -(dv s 0 x) = 0 by simp [dv, num_zero]]
    exact okay_zero
  · exact ⟨!s, V, x, ⟨fun h => absurd h (by omega), hc.2⟩, hV, hx, num_neg s _⟩

end Go.Proofs.Ytbankbehfjogpaa


namespace Go.Proofs.Ytbankbehfjogpaa
open Go.RowKit

/-- Bits' answer: an error, and how many digits. -/
def BitsPost (w : World) (n : Nat) (f : Nat → Nat) (e : Ending) (w' : World) : Prop :=
  Below w.heap.size w w' ∧ ∃ s : Nat, e = .returned (.tuple #[.int .i64 (s : Int), .int .i64 (chk n f)]) ∧ (Fit n f → Size (vl f n) s) ∧ (¬ Fit n f → s = 0)

end Go.Proofs.Ytbankbehfjogpaa


namespace Go.Proofs.Ytbankbehfjogpaa
open Go.RowKit

/-- The slice v lies from block B on, or nowhere. -/
def New (B : Nat) (v : Value) : Prop := ∀ b off n c, v = .slice (some ⟨b, off, none⟩) n c → B ≤ b
theorem New.nil (B c n : Nat) : New B (.slice none n c) := fun b off n c h => by cases h
theorem New.mono {B B' : Nat} {v : Value} (h : New B v) (hB : B' ≤ B) : New B' v := fun b off n c hv => Nat.le_trans hB (h b off n c hv)
theorem Num.new {t : TypeId} {B V : Nat} {w : World} {v : Value} (h : Num t B w V v) : New B v := by
  obtain ⟨A, k, c, f, rfl, hm, _, _⟩ := h
  intro b off n c hv
  rcases hm.own with ⟨rfl, _, _⟩ | ⟨g, cs, rfl, hg, _⟩
  · cases hv
  · injection hv with h1
    injection h1 with h1
    injection h1 with h1
    omega
theorem Val.shape {w : World} {V : Nat} {v : Value} (h : Val w V v) : ∃ A n c, v = .slice A n c := by
  obtain ⟨A, n, c, _, rfl, _⟩ := h
  exact ⟨A, n, c, rfl⟩
/-- A store elsewhere. -/
theorem Val.set {w : World} {V g : Nat} {v : Value} (h : Val w V v) (hn : New (g + 1) v) (j : Nat) (u : Value) : Val (w.setCell ⟨g, j, none⟩ u) V v := by
  obtain ⟨A, n, c, f, rfl, hr, hf, hV⟩ := h
  refine ⟨A, n, c, f, rfl, ⟨hr.cap, hr.max, hr.lt, hr.out, fun hn0 => ?_⟩, hf, hV⟩
  obtain ⟨b, off, rfl, hB, hc⟩ := hr.at_ hn0
  have hb := hn b off n c rfl
  have hblk := Below.heap_setCell w ⟨g, j, none⟩ u b (by show b ≠ g; omega)
  refine ⟨b, off, rfl, by simpa [World.setCell] using hB, fun j hj => ?_⟩
  rw [← hc j hj]
  exact World.cell?_of_block hblk

theorem Num.shape {t : TypeId} {B V : Nat} {w : World} {v : Value} (h : Num t B w V v) : ∃ A n c, v = .slice A n c := by
  obtain ⟨A, n, c, _, rfl, _⟩ := h
  exact ⟨A, n, c, rfl⟩
theorem Num.set {t : TypeId} {B V g : Nat} {w : World} {v : Value} (h : Num t B w V v) (hg : g < B) (j : Nat) (u : Value) : Num t B (w.setCell ⟨g, j, none⟩ u) V v := by
  obtain ⟨A, n, c, f, rfl, hm, hf, hV⟩ := h
  refine ⟨A, n, c, f, rfl, ⟨hm.cap, hm.max, hm.lt, hm.out, ?_⟩, hf, hV⟩
  rcases hm.own with h0 | ⟨b, cs, rfl, hB, hh, hs, hc⟩
  · exact .inl h0
  · exact .inr ⟨b, cs, rfl, hB, (Below.heap_setCell w ⟨g, j, none⟩ u b (by show b ≠ g; omega)).trans hh, hs, hc⟩

/-- As Back, and the limbs lie in new memory. -/
def Backn (w : World) (E : Int → Prop) (V : Nat) (e : Ending) (w' : World) : Prop := ∃ v er, e = .returned (.tuple #[v, .int .i64 er]) ∧ Hid (E er) ∧ Hid (Num 34 w.heap.size w' (resV er V) v) ∧ Hid (Below w.heap.size w w')
theorem Ans.backn {w w' : World} {er : Int} {V : Nat} {e : Ending} {E : Int → Prop} (h : Ans 34 w er V e w') (hE : E er) : Backn w E V e w' := by
  obtain ⟨hb, v, rfl, hg, hn⟩ := h
  refine ⟨v, er, rfl, hE, ?_, hb⟩
  by_cases he : er = 0
  · rw [resV_ok he]; exact hg he
  · rw [resV_bad he, hn he]; exact Num.zero _ _ _

section
variable {V U : Nat} {w : World} {v1 v2 : Value}
theorem of_val (x : Nat) (hx : x ≤ 18446744073709551615) (w : World) : Calls Try.prog 17 #[.int .u64 (x : Int)] w fun e w' => ∃ v, e = .returned v ∧ Hid (Num 34 w.heap.size w' x v) ∧ Hid (Below w.heap.size w w') := by
  refine (of_any x hx w).mono ?_
  rintro e w' ⟨v, rfl, hn, hb⟩
  exact ⟨v, rfl, hn, hb⟩
end
theorem over_ok {V : Nat} (h : V < pw 40) : overErr V = 0 := if_pos h
theorem over_bad {V : Nat} (h : ¬ V < pw 40) : overErr V = 10 := if_neg h


end Go.Proofs.Ytbankbehfjogpaa


namespace Go.Proofs.Ytbankbehfjogpaa
set_option maxRecDepth 100000
open Go.RowKit Go.Shelf
attribute [local go_sem] Oper.semAt_some

def upto {α : Type} (f : Nat → α) (k : Nat) : List α := (List.range k).map f
theorem upto_succ {α : Type} (f : Nat → α) (k : Nat) : upto f (k + 1) = upto f k ++ [f k] := by simp [upto, List.range_succ]
theorem upto_length {α : Type} (f : Nat → α) (k : Nat) : (upto f k).length = k := by simp [upto]

/-- A place among m. -/
abbrev Idx (m : Nat) := { j : Nat // j < m }
/-- The place that comes at round k. -/
def bkw (m k : Nat) : Nat := m - 1 - k

end Go.Proofs.Ytbankbehfjogpaa


namespace Go.Proofs.Ytbankbehfjogpaa
open Go.RowKit

/-- Limbs, doubled. -/
def dbl (f : Nat → Nat) (j : Nat) : Nat := f j * 2 % 4294967296 + (if j = 0 then 0 else f (j - 1) / 2147483648)
theorem dbl_lt {f : Nat → Nat} (hf : ∀ j, f j < 4294967296) (j : Nat) : dbl f j < 4294967296 := by
  unfold dbl
  have h1 := hf j
  have h2 := hf (j - 1)
  split <;> omega
theorem vl_dbl {f : Nat → Nat} (hf : ∀ j, f j < 4294967296) : ∀ k, vl (dbl f) (k + 1) + f k / 2147483648 * pw (k + 1) = 2 * vl f (k + 1)
  | 0 => by
    have h := hf 0
    simp [vl, pw, dbl]
    omega
  | k + 1 => by
    have ih := vl_dbl hf k
    have h := hf (k + 1)
    rw [vl_succ, vl_succ f (k + 1), pw_succ (k + 1)]
    have e : dbl f (k + 1) = f (k + 1) * 2 % 4294967296 + f k / 2147483648 := by
      unfold dbl
      rw [if_neg (by omega), Nat.add_sub_cancel]
    rw [e, Nat.add_mul]
    have e2 : f (k + 1) * 2 % 4294967296 * pw (k + 1) + f (k + 1) / 2147483648 * (pw (k + 1) * 4294967296) = 2 * (f (k + 1) * pw (k + 1)) := by
      have e3 : f (k + 1) * 2 % 4294967296 + f (k + 1) / 2147483648 * 4294967296 = 2 * f (k + 1) := by omega
      rw [Nat.mul_comm (pw (k + 1)) 4294967296, ← Nat.mul_assoc (f (k + 1) / 2147483648), ← Nat.add_mul, e3, Nat.mul_assoc]
    generalize f (k + 1) * 2 % 4294967296 * pw (k + 1) = x1 at *
    generalize f (k + 1) / 2147483648 * (pw (k + 1) * 4294967296) = x2 at *
    generalize f k / 2147483648 * pw (k + 1) = x3 at *
    generalize f (k + 1) * pw (k + 1) = x4 at *
    omega
theorem or_low (x y : Nat) (hy : y ≤ 1) (hx : x % 2 = 0) (hx2 : x < 4294967296) : bits BinOp.or IntKind.u32 (x : Int) (y : Int) = ((x + y : Nat) : Int) := by
  rw [u32_or_nat x y hx2 (by omega), nat_join1 x y hx (by omega)]

theorem gset {w w' : World} {g : Nat} (h : w.grownBy w' (some g)) (j : Nat) (u : Value) : w.grownBy (w'.setCell ⟨g, j, none⟩ u).drew (some g) :=
  ⟨h.os, h.tape, h.output, by simpa [World.setCell, World.drew] using h.size, fun i hi hne => (Below.heap_setCell w' ⟨g, j, none⟩ u i (by rintro rfl; exact hne rfl)).trans (h.block i hi hne)⟩
theorem gset0 {w w' : World} {g : Nat} (h : w.grownBy w' (some g)) (j : Nat) (u : Value) : w.grownBy (w'.setCell ⟨g, j, none⟩ u) (some g) :=
  ⟨h.os, h.tape, h.output, by simpa [World.setCell] using h.size, fun i hi hne => (Below.heap_setCell w' ⟨g, j, none⟩ u i (by rintro rfl; exact hne rfl)).trans (h.block i hi hne)⟩
theorem grefl (w : World) (g : Nat) : w.grownBy w (some g) := ⟨rfl, rfl, rfl, Nat.le_refl _, fun _ _ _ => rfl⟩

end Go.Proofs.Ytbankbehfjogpaa


namespace Go.Proofs.Ytbankbehfjogpaa
set_option maxRecDepth 100000
open Go.RowKit

/-- The blocks of K lie as they lay. -/
structure Kb (K : Nat → Prop) (W W' : World) : Prop where
  size : W.heap.size ≤ W'.heap.size
  block : ∀ b, K b → W'.heap[b]? = W.heap[b]?
theorem Kb.trans {K : Nat → Prop} {A B C : World} (h : Kb K A B) (k : Kb K B C) : Kb K A C := ⟨Nat.le_trans h.size k.size, fun b hb => (k.block b hb).trans (h.block b hb)⟩
theorem Kb.refl (K : Nat → Prop) (W : World) : Kb K W W := ⟨Nat.le_refl _, fun _ _ => rfl⟩
theorem Kb.putObj {K : Nat → Prop} {W : World} {l : Nat} (o : Obj) (hl : ¬ K l) : Kb K W (W.putObj l o) := ⟨by simp, fun b hb => World.putObj_heap_other (by rintro rfl; exact hl hb)⟩
theorem Kb.setCell {K : Nat → Prop} {A W : World} (h : Kb K A W) {p : Addr} (hl : ¬ K p.block) (v : Value) : Kb K A (W.setCell p v) := ⟨by simpa [World.setCell] using h.size, fun b hb => (Below.heap_setCell W p v b (by rintro rfl; exact hl hb)).trans (h.block b hb)⟩
theorem Kb.drew {K : Nat → Prop} {A W : World} (h : Kb K A W) : Kb K A W.drew := ⟨h.size, h.block⟩
theorem cell_of_block' {W W' : World} {b : Nat} (h : W'.heap[b]? = W.heap[b]?) (j : Nat) : W'.cell? ⟨b, j, none⟩ = W.cell? ⟨b, j, none⟩ := World.cell?_of_block h

/-- How the body of a round may be left: it goes on, or returns. -/
def outOf {α : Type} (k : Nat) (K : Nat → Prop) (I Ix : List α → World → Prop) (xs : List α) (W : World) : Exit → Act → World → Prop
  | .normal, _, W' => KeepsFrom k W W' ∧ Kb K W W' ∧ I xs W'
  | .ret, _, W' => KeepsFrom k W W' ∧ Ix xs W'
  | _, _, _ => False

/-- What the iterator keeps to: what it is asked between two rounds may be told again when its own block g has been written. -/
def Comes {α : Type} (F : Fence) (n : Nat) (P : Program) (gf : Nat) (lb : Array Value) (encs : α → Array Value) (K : Nat → Prop) (g : Nat) (S : List α → World → Prop) (Sp : List α → Prop) (w : World) : Prop :=
  ∀ (l : Nat) (J Jx : List α → World → Prop) (W : World), Below w.heap.size w W → (∀ s X Y, J s X → X.grownBy Y (some g) → J s Y) →
    (∀ pre x X, J pre X → YieldAt F (n - 1) P l (encs x) X fun e Y => (e = .returned (.bool true) ∧ J (pre ++ [x]) Y ∧ Kb K X Y) ∨ (e = .returned (.bool false) ∧ Jx (pre ++ [x]) Y)) →
    J [] W → CallsIn F n P gf (#[.func (.yield l) #[] #[]] ++ lb) W fun e Y => (∃ v, e = .returned v) ∧ ((∃ xs, S xs Y ∧ J xs Y) ∨ ∃ pre, Sp pre ∧ Jx pre Y)

/-- The loop's two blocks lie as the loop wants them. -/
def Kept (k : Nat) (r : Loop) (W : World) : Prop := W.heap[k + 1]? = some (.loop r) ∧ W.heap[k]? = some (.deferred (some []))

theorem Kept.grown {k : Nat} {r : Loop} {X Y : World} (h : Kept k r X) {j : Nat} (hg : X.grownBy Y (some j)) (hj : j < k) : Kept k r Y :=
  ⟨(hg.block _ (Array.getElem?_eq_some_iff.1 h.1).1 (by intro e; injection e with e; omega)).trans h.1, (hg.block _ (Array.getElem?_eq_some_iff.1 h.2).1 (by intro e; injection e with e; omega)).trans h.2⟩
theorem Kept.keeps {k : Nat} {r : Loop} {X Y : World} (h : Kept k r X) (hk : KeepsFrom k X Y) : Kept k r Y := ⟨hk.same _ _ (by omega) h.1 rfl, hk.same _ _ (Nat.le_refl _) h.2 rfl⟩
theorem Kept.put {k : Nat} {r : Loop} {X : World} (h : Kept k r X) (r' : Loop) : Kept k r' (X.putObj (k + 1) (.loop r')) :=
  ⟨World.putObj_heap_same (Array.getElem?_eq_some_iff.1 h.1).1, (World.putObj_heap_other (by omega)).trans h.2⟩

set_option maxHeartbeats 1000000 in
theorem range_over {F : Fence} {n : Nat} {P : Program} {α : Type} {gop : Operand} {ps : Array Tmp} {assign body : Code} {Q : Exit → Act → World → Prop} {a : Act} {w : World}
    (hro : F.round = none) (h1 : 1 ≤ n) {gf : Nat} {lb : Array Value} (hv : a.eval gop = .func (.func gf) #[] lb) (hF : F.fn gf) (en : ∀ args w, (callFunc gf args).run P w = .ok (.enter gf args) w)
    {encs : α → Array Value} {K : Nat → Prop} {g : Nat} (hgn : K g) (hnw : ∀ b, K b → b < w.heap.size) {S : List α → World → Prop} {Sp : List α → Prop} (hseq : Comes F (n - 1) P gf lb encs K g S Sp w) (hps : ∀ x, (encs x).size = ps.size)
    (I Ix : List α → World → Prop) (hI : ∀ s X Y r, I s X → X.grownBy Y (some r) → (w.heap.size ≤ r ∨ r = g) → I s Y)
    (hIx : ∀ s X Y r, Ix s X → X.grownBy Y (some r) → w.heap.size ≤ r → Ix s Y) (hS : ∀ s X Y r, S s X → X.grownBy Y (some r) → w.heap.size ≤ r → S s Y) (h0 : I [] w) (a₁ : α → Act)
    (hassign : ∀ (l : Nat) (x : α) (W : World) (K : Act → World → Prop), K (a₁ x) W →
      assign.wpIn (F.inRound l) (n - 1 - 1) P (Exit.then K (fun _ _ _ => False)) { tmps := (ps.zip (encs x)).foldl (fun t (p, v) => t.setIfInBounds p v) a.tmps, defers := [] } W)
    (hbody : ∀ (l : Nat) (pre : List α) (x : α) (W : World), I pre W → body.wpIn (F.inRound l) (n - 1 - 1) P (outOf w.heap.size K I Ix (pre ++ [x]) W) (a₁ x) W)
    (hdone : ∀ (D : Nat) (xs : List α) (W : World), w.heap.size ≤ D → S xs W → I xs W → W.heap[D]? = some (.deferred (some [])) → Q .normal { a with defers := { target := .collected D, args := #[] } :: a.defers } W)
    (hstop : ∀ (D : Nat) (pre : List α) (W : World), w.heap.size ≤ D → Sp pre → Ix pre W → W.heap[D]? = some (.deferred (some [])) → Code.ret.wpIn F n P Q { a with defers := { target := .collected D, args := #[] } :: a.defers } W) :
    (Code.rangeFunc gop ps assign body).wpIn F n P Q a w := by
  refine wpIn_rangeFunc fun fn hfn => ?_
  rw [hro]
  let rec0 (st : LoopState) (pe : Option Code) : Loop := { state := st, pending := pe, fn, tmps := a.tmps, params := ps, assign, body, defers := w.heap.size }
  have hsz1 : (w.alloc (.deferred (some []))).heap.size = w.heap.size + 1 := by simp
  have hkept : Kept w.heap.size (rec0 .ready none) ((w.alloc (.deferred (some []))).alloc (.loop (rec0 .ready none))) := by
    refine ⟨?_, (Below.heap_alloc _ _ _ (by simp)).trans (World.alloc_heap_new w _)⟩
    have := World.alloc_heap_new (w.alloc (.deferred (some []))) (.loop (rec0 .ready none))
    rwa [hsz1] at this
  have hI1 : I [] ((w.alloc (.deferred (some []))).alloc (.loop (rec0 .ready none))) :=
    hI _ _ _ _ (hI _ _ _ _ h0 (World.grownBy_alloc w _ (some w.heap.size)) (.inl (Nat.le_refl _))) (World.grownBy_alloc _ _ (some w.heap.size)) (.inl (Nat.le_refl _))
  have hb1 : Below w.heap.size w ((w.alloc (.deferred (some []))).alloc (.loop (rec0 .ready none))) := ((Below.refl _ w).alloc (Nat.le_refl _) _).alloc (by simp) _
  generalize hW1 : (w.alloc (.deferred (some []))).alloc (.loop (rec0 .ready none)) = W1 at hkept hI1 hb1
  refine ⟨w.heap.size + 1, [{ target := .collected w.heap.size, args := #[] }], W1, { target := .fn (.func gf) lb, args := #[.func (.yield (w.heap.size + 1)) #[] #[]] }, W1, gf,
    #[.func (.yield (w.heap.size + 1)) #[] #[]] ++ lb, W1, ?_, ?_, ?_, ?_, fun _ => h1, ?_⟩
  · rw [← hW1]; exact run_enterLoop_outer _ _ _ _ _
  · simp only [resolve, hv]
    simp [go_sem]
  · intro f hf; simp [Target.leads] at hf; exact hf ▸ hF
  · simp [invoke, go_sem, en]
  have hround : ∀ (pre : List α) (x : α) (X : World), (I pre X ∧ Kept w.heap.size (rec0 .ready none) X) →
      YieldAt F (n - 1 - 1) P (w.heap.size + 1) (encs x) X fun e Y =>
        (e = .returned (.bool true) ∧ (I (pre ++ [x]) Y ∧ Kept w.heap.size (rec0 .ready none) Y) ∧ Kb K X Y) ∨
        (e = .returned (.bool false) ∧ (Ix (pre ++ [x]) Y ∧ Kept w.heap.size (rec0 .done (some .ret)) Y)) := by
    rintro pre x X ⟨hi, hk⟩
    refine ⟨fn, _, assign, body, run_yield (P := P) (args := encs x) hk.1 (hps x), roundIn_of_wpIn hfn (hassign _ x X _ ⟨_, run_beginRound hk.1 rfl, ?_⟩)⟩
    have hnK : ¬ K (w.heap.size + 1) := fun h => by have := hnw _ h; omega
    have hbz : Kb K X (X.putObj (w.heap.size + 1) (.loop { rec0 .ready none with state := .busy })) := Kb.putObj _ hnK
    have hkz := hk.put (rec0 .busy none)
    refine wpIn_mono (hbody _ pre x _ (hI _ _ _ _ hi (grownBy_putObj' X (w.heap.size + 1) _) (.inl (by omega)))) ?_
    rintro e a3 Z hp
    cases e with
    | normal =>
      obtain ⟨hkp, hbl, hi3⟩ := hp
      have hkZ := hkz.keeps hkp
      exact ⟨_, _, run_endRound (P := P) none hkZ.1, .inl ⟨rfl, ⟨hI _ _ _ _ hi3 (grownBy_putObj' Z (w.heap.size + 1) _) (.inl (by omega)), hkZ.put _⟩, (hbz.trans hbl).trans (Kb.putObj _ hnK)⟩⟩
    | ret =>
      obtain ⟨hkp, hi3⟩ := hp
      have hkZ := hkz.keeps hkp
      exact ⟨_, _, run_endRound (P := P) (some .ret) hkZ.1, .inr ⟨rfl, hIx _ _ _ _ hi3 (grownBy_putObj' Z (w.heap.size + 1) _) (by omega), hkZ.put _⟩⟩
    | exit _ => exact hp.elim
    | goto _ => exact hp.elim
    | panic _ => exact hp.elim
    | outgrown => exact hp.elim
  refine (hseq (w.heap.size + 1) (fun pre X => I pre X ∧ Kept w.heap.size (rec0 .ready none) X) (fun pre X => Ix pre X ∧ Kept w.heap.size (rec0 .done (some .ret)) X) W1 hb1
    (fun s X Y h hg => ⟨hI _ _ _ _ h.1 hg (.inr rfl), h.2.grown hg (hnw _ hgn)⟩) hround ⟨hI1, hkept⟩).mono ?_
  rintro e Y ⟨⟨v, rfl⟩, (⟨xs, hs, hi, hk⟩ | ⟨pre, hs, hi, hk⟩)⟩
  · exact ⟨none, _, run_endLoop (P := P) hk.1 (by simp [rec0]), hdone _ xs _ (Nat.le_refl _) (hS _ _ _ _ hs (grownBy_putObj' Y (w.heap.size + 1) _) (by omega)) (hI _ _ _ _ hi (grownBy_putObj' Y (w.heap.size + 1) _) (.inl (by omega))) (hk.put { rec0 .ready none with state := .exhausted }).2⟩
  · exact ⟨some .ret, _, run_endLoop (P := P) hk.1 (by simp [rec0]), hstop _ pre _ (Nat.le_refl _) hs (hIx _ _ _ _ hi (grownBy_putObj' Y (w.heap.size + 1) _) (by omega)) (hk.put { rec0 .done (some .ret) with state := .exhausted }).2⟩

end Go.Proofs.Ytbankbehfjogpaa

