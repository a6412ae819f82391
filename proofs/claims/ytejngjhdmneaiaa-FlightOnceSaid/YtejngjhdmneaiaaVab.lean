/- Contracts: cut, bounded. -/
/- Contracts: compare, Cmp, slices.Equal, Same. -/
/- 'make' of limbs. -/
/- Contracts: Of, Len32, size, Bits. -/
/- A slice that reads as a number; what a call hands back beside an error. -/
/- Contract: Left. -/
import Derived.Test.YtejngjhdmneaiaaVaa
import Derived.Lib.Strings
import Derived.Lib.Slices
import Derived.Lib.Small
import Derived.Lib.Walk
import Derived.Lib.BitFns

namespace Go.Proofs.Ytejngjhdmneaiaa
set_option maxRecDepth 100000
open Go.RowKit

/-- How many limbs are left of n, without those that are 0 at the end. -/
def cutLen (f : Nat → Nat) : Nat → Nat
  | 0 => 0
  | n + 1 => if f n = 0 then cutLen f n else n + 1
theorem cutLen_le (f : Nat → Nat) : ∀ n, cutLen f n ≤ n
  | 0 => Nat.le_refl _
  | n + 1 => by unfold cutLen; split <;> have := cutLen_le f n <;> omega
theorem cutLen_last (f : Nat → Nat) : ∀ n, 0 < cutLen f n → f (cutLen f n - 1) ≠ 0
  | 0, h => by simp [cutLen] at h
  | n + 1, h => by
    unfold cutLen at h ⊢
    by_cases hz : f n = 0
    · rw [if_pos hz] at h ⊢
      exact cutLen_last f n h
    · rw [if_neg hz]
      simpa using hz
theorem cutLen_zero (f : Nat → Nat) : ∀ n j, cutLen f n ≤ j → j < n → f j = 0
  | 0, j, _, h => by omega
  | n + 1, j, h1, h2 => by
    unfold cutLen at h1
    by_cases hz : f n = 0
    · rw [if_pos hz] at h1
      rcases Nat.lt_or_ge j n with h | h
      · exact cutLen_zero f n j h1 h
      · obtain rfl : j = n := by omega
        exact hz
    · rw [if_neg hz] at h1
      omega
theorem cutLen_vl (f : Nat → Nat) (n : Nat) : vl f n = vl f (cutLen f n) := vl_above (cutLen_le f n) (fun j h1 h2 => cutLen_zero f n j h1 h2)

set_option maxHeartbeats 800000 in
theorem cut_any (g n c : Nat) (f : Nat → Nat) (w : World) (hn : n ≤ c) (hm : n ≤ 140737488355328) (h : ∀ j, j < n → w.cell? ⟨g, j, none⟩ = some (.int .u32 (f j : Int))) :
    Calls Try.prog 76 #[.slice (some ⟨g, 0, none⟩) n c] w fun e w' => e = .returned (.slice (some ⟨g, 0, none⟩) (cutLen f n) (cutLen f n)) ∧ w = w' := by
  go_enter Try.func76, Try.ntmps76
  go_wp2
  go_loop [3] (fun i => ∃ k : Nat, k ≤ n ∧ i = .int .i64 k ∧ cutLen f n = cutLen f k) (fun i => (intOf i).toNat)
  case atStart => exact ⟨n, Nat.le_refl _, rfl, rfl⟩
  case round =>
    obtain ⟨k, hk, rfl, hcl⟩ := hrel
    have Hcl := hid hcl
    clear hcl
    rcases Nat.eq_zero_or_pos k with h0 | h0
    · subst h0
      go_wp2
      go_ret
      exact ⟨by rw [Hcl.out]; rfl, rfl⟩
    · obtain ⟨j, rfl⟩ : ∃ j, k = j + 1 := ⟨k - 1, by omega⟩
      have cj := h j (by omega)
      by_cases hz : f j = 0
      · rw [hz] at cj
        have Hz := hid hz
        clear hz h
        go_wp2
        go_round
        case rel => exact ⟨j, by omega, by go_num, Hcl.out.trans (if_pos Hz.out)⟩
        case measure => simp [intOf]
      · have hz2 : (((f j : Nat) : Int) == 0) = false := by simp; omega
        have Hz := hid hz
        clear hz h
        go_wp2
        go_ret
        exact ⟨by rw [Hcl.out.trans (if_neg Hz.out)]; rfl, rfl⟩

/-- cut, where what came in is a block of the call's own, or nothing at all. -/
theorem cut_nil (c : Nat) (w : World) (_hm : c ≤ 140737488355328) :
    Calls Try.prog 76 #[.slice none 0 c] w fun e w' => e = .returned (.slice none 0 0) ∧ w = w' := by
  go_enter Try.func76, Try.ntmps76
  go_wp2
  refine wp_loop_rounds 1 ?_
  rw [rounds_succ]
  go_wp2
  go_ret
  exact ⟨rfl, rfl⟩

/-- The limbs f 0 .. f (k - 1), and 0 above. -/
def trim (k : Nat) (f : Nat → Nat) (j : Nat) : Nat := if j < k then f j else 0
theorem trim_in {k j : Nat} {f : Nat → Nat} (h : j < k) : trim k f j = f j := if_pos h
theorem trim_out {k j : Nat} {f : Nat → Nat} (h : k ≤ j) : trim k f j = 0 := if_neg (by omega)
theorem trim_lt {k : Nat} {f : Nat → Nat} (h : ∀ j, j < k → f j < 4294967296) (j : Nat) : trim k f j < 4294967296 := by
  unfold trim
  split
  · exact h j ‹_›
  · omega

/-- What is left of a row of the call's own, cut, is a number. -/
theorem cut_num {w : World} {e : TypeId} {B g N : Nat} {z : Nat → Nat} (h : Blk w e g N z) (hg : B ≤ g) (hz : ∀ j, z j < 4294967296) (h40 : cutLen z N ≤ 40) :
    Num e B w (vl z N) (.slice (some ⟨g, 0, none⟩) (cutLen z N) (cutLen z N)) := by
  have hle := cutLen_le z N
  refine ⟨_, _, _, trim (cutLen z N) z, rfl, Mk.of_blk h hg (Nat.le_refl _) hle (by omega) (trim_lt fun j _ => hz j) (fun j hj => trim_out hj) (fun j hj => (trim_in hj).symm), ⟨h40, fun hp => ?_⟩, ?_⟩
  · rw [trim_in (by omega)]
    exact cutLen_last z N hp
  · rw [cutLen_vl z N]
    exact vl_congr fun j hj => trim_in hj

theorem cutLen_40 {z : Nat → Nat} {N : Nat} (hz : ∀ j, z j < 4294967296) : cutLen z N ≤ 40 ↔ vl z N < pw 40 := by
  rw [cutLen_vl z N]
  constructor
  · intro h
    have a := vl_lt (f := z) (k := cutLen z N) (fun j _ => hz j)
    have b := pw_mono h
    omega
  · intro h
    rcases Nat.lt_or_ge 40 (cutLen z N) with hlt | hge
    · have a := vl_ge (f := z) (k := cutLen z N) (by omega) (cutLen_last z N (by omega))
      have b : pw 40 ≤ pw (cutLen z N - 1) := pw_mono (by omega)
      omega
    · exact hge

/-- The error of a number that is told in limbs. -/
def overErr (V : Nat) : Int := if V < pw 40 then 0 else 10

end Go.Proofs.Ytejngjhdmneaiaa


namespace Go.Proofs.Ytejngjhdmneaiaa
set_option maxRecDepth 100000
open Go.RowKit

/-- A number is handed back, and memory has not turned (but for draws). -/
def Told (w : World) (r : Int) (e : Ending) (w' : World) : Prop := e = .returned (.int .i64 r) ∧ ∃ q, w.drewN q = w'

/-- Cmp's answer. -/
def cmpErr (n : Nat) (f : Nat → Nat) (m : Nat) (h : Nat → Nat) : Int := if Fit n f ∧ Fit m h then 0 else 8
def cmpRes (n : Nat) (f : Nat → Nat) (m : Nat) (h : Nat → Nat) : Int := if Fit n f ∧ Fit m h then cmpN (vl f n) (vl h m) else 0

def TwoInts (w : World) (a b : Int) (e : Ending) (w' : World) : Prop := e = .returned (.tuple #[.int .i64 a, .int .i64 b]) ∧ Below w.heap.size w w'

theorem cell_row2_0 (w : World) (a b : Value) (t : TypeId) : (w.alloc (.cells #[a, b] t)).cell? ⟨w.heap.size, 0, none⟩ = some a := by
  rw [World.cell?_alloc_at _ _ _ _ rfl]; rfl
theorem cell_row2_1 (w : World) (a b : Value) (t : TypeId) : (w.alloc (.cells #[a, b] t)).cell? ⟨w.heap.size, 1, none⟩ = some b := by
  rw [World.cell?_alloc_at _ _ _ _ rfl]; rfl
theorem cell_row1_0 (w : World) (a : Value) (t : TypeId) : (w.alloc (.cells #[a] t)).cell? ⟨w.heap.size, 0, none⟩ = some a := by
  rw [World.cell?_alloc_at _ _ _ _ rfl]; rfl

theorem below_told {w0 w w' : World} {r : Int} {e : Ending} (h : Told w r e w') (hb : Below w0.heap.size w0 w) : Below w0.heap.size w0 w' := by
  obtain ⟨_, q, rfl⟩ := h
  exact below_drewN hb q

set_option maxHeartbeats 400000 in
theorem equal_len (A B : Option Addr) (n c m d : Nat) (w : World) (hne : n ≠ m) :
    Calls Try.prog 74 #[.slice A n c, .slice B m d] w fun e w' => e = .returned (.bool false) ∧ w = w' := by
  have h : (((n : Nat) : Int) != ((m : Nat) : Int)) = true := by simp; omega
  go_enter Try.func74, Try.ntmps74
  go_wp2
  go_ret
  exact ⟨rfl, rfl⟩

theorem equal_nil (A B : Option Addr) (c d : Nat) (w : World) :
    Calls Try.prog 74 #[.slice A 0 c, .slice B 0 d] w fun e w' => e = .returned (.bool true) ∧ w = w' := by
  go_enter Try.func74, Try.ntmps74
  go_wp2
  refine wp_loop_rounds 1 ?_
  rw [rounds_succ]
  go_wp2
  go_ret
  exact ⟨rfl, rfl⟩

/-- A bool that tells p is handed back, and memory has not turned (but for draws). -/
def Tells (w : World) (p : Prop) (e : Ending) (w' : World) : Prop := ∃ r : Bool, e = .returned (.bool r) ∧ (r = true ↔ p) ∧ ∃ q, w.drewN q = w'

set_option maxHeartbeats 800000 in
theorem equal_same (b o b2 o2 n c d : Nat) (f g : Nat → Nat) (w : World) (_hc : n ≤ c) (_hm : n ≤ 140737488355328) (_hd : n ≤ d)
    (h1 : ∀ j, j < n → w.cell? ⟨b, o + j, none⟩ = some (.int .u32 (f j : Int))) (h2 : ∀ j, j < n → w.cell? ⟨b2, o2 + j, none⟩ = some (.int .u32 (g j : Int))) :
    Calls Try.prog 74 #[.slice (some ⟨b, o, none⟩) n c, .slice (some ⟨b2, o2, none⟩) n d] w (Tells w (∀ j, j < n → f j = g j)) := by
  go_enter Try.func74, Try.ntmps74
  go_wp2
  go_loopw [13] (fun i wr => ∃ k : Nat, k ≤ n ∧ i = .int .i64 k ∧ (∀ j, j < k → f j = g j) ∧ ∃ q, w.drewN q = wr) (fun i _ => n - (intOf i).toNat)
  case atStart => exact ⟨0, Nat.zero_le _, rfl, fun j h => by omega, 0, rfl⟩
  case round =>
    obtain ⟨k, hk, rfl, heq, q, rfl⟩ := hrel
    by_cases hkn : k < n
    · have c1 := h1 k hkn
      have c2 := h2 k hkn
      have i1 : (k : Int) < (n : Int) := by omega
      have Heq := hid heq
      clear heq h1 h2
      by_cases hfg : f k = g k
      · have hb : (((f k : Nat) : Int) != ((g k : Nat) : Int)) = false := by simp; omega
        have Hfg := hid hfg
        clear hfg
        go_wp2
        go_quiet (fail)
        go_wp2
        go_roundw
        case rel => exact ⟨k + 1, by omega, by go_num, fun j hj => by
          rcases Nat.lt_or_ge j k with h | h
          · exact Heq.out j h
          · obtain rfl : j = k := by omega
            exact Hfg.out, _, rfl⟩
        case measure => simp [intOf]; omega
      · have hb : (((f k : Nat) : Int) != ((g k : Nat) : Int)) = true := by simp; omega
        have Hfg := hid hfg
        clear hfg
        go_wp2
        go_quiet (fail)
        go_wp2
        go_ret
        exact ⟨_, rfl, ⟨(fun h => by cases h), (fun h => absurd (h k hkn) Hfg.out)⟩, _, drewN2 _ _ _⟩
    · obtain rfl : k = n := by omega
      have Heq := hid heq
      clear heq h1 h2
      go_wp2
      go_ret
      exact ⟨_, rfl, ⟨fun _ => Heq.out, fun _ => rfl⟩, _, rfl⟩

theorem Tells.of {w : World} {p q : Prop} {e : Ending} {w' : World} (h : Tells w p e w') (hpq : p ↔ q) : Tells w q e w' := by
  obtain ⟨r, he, hr, hw⟩ := h
  exact ⟨r, he, hr.trans hpq, hw⟩

theorem equal_any {B C : Nat} {A D : Option Addr} {n c m d : Nat} {f h : Nat → Nat} {w : World} (ha : Rd w B A n c f) (hb : Rd w C D m d h) :
    Calls Try.prog 74 #[.slice A n c, .slice D m d] w (Tells w (n = m ∧ ∀ j, f j = h j)) := by
  by_cases hnm : n = m
  · subst hnm
    rcases Nat.eq_zero_or_pos n with h0 | h0
    · subst h0
      refine (equal_nil A D c d w).mono ?_
      rintro e w' ⟨rfl, rfl⟩
      exact ⟨true, rfl, ⟨fun _ => ⟨rfl, fun j => by rw [ha.out j (by omega), hb.out j (by omega)]⟩, fun _ => rfl⟩, 0, rfl⟩
    · obtain ⟨b, o, rfl, _, h1⟩ := ha.at_ h0
      obtain ⟨b2, o2, rfl, _, h2⟩ := hb.at_ h0
      refine (equal_same b o b2 o2 n c d f h w ha.cap ha.max hb.cap h1 h2).mono ?_
      intro e w' ht
      refine ht.of ⟨fun hh => ⟨rfl, fun j => ?_⟩, fun hh j _ => hh.2 j⟩
      rcases Nat.lt_or_ge j n with hlt | hge
      · exact hh j hlt
      · rw [ha.out j hge, hb.out j hge]
  · refine (equal_len A D n c m d w hnm).mono ?_
    rintro e w' ⟨rfl, rfl⟩
    exact ⟨false, rfl, ⟨(fun h => by cases h), (fun h => absurd h.1 hnm)⟩, 0, rfl⟩

theorem same_any {B C : Nat} {A D : Option Addr} {n c m d : Nat} {f h : Nat → Nat} {w : World} (ha : Rd w B A n c f) (hb : Rd w C D m d h) :
    Calls Try.prog 66 #[.slice A n c, .slice D m d] w (Tells w (n = m ∧ ∀ j, f j = h j)) := by
  have Ce := hid (equal_any ha hb)
  clear ha hb
  go_enter Try.func66, Try.ntmps66
  go_wp2_with fail
  refine Ce.out.mono ?_
  rintro e w' ⟨r, rfl, hr, q, rfl⟩
  have Hr := hid hr
  clear hr
  go_wp2
  go_ret
  exact ⟨r, rfl, Hr.out, q, rfl⟩

end Go.Proofs.Ytejngjhdmneaiaa


namespace Go.Proofs.Ytejngjhdmneaiaa
open Go.RowKit

theorem info_u32 : (Try.prog.info? 75).map (fun i => (i.zero, i.size, i.bytes)) = some (some (.int .u32 0), 1, 4) := by kernel_rfl

theorem make_u32 (n : Nat) (hn : n ≤ 70368744177664) (w : World) :
    (Instr.makeSlice 23 (.int .i64 (n : Int)) (.int .i64 (n : Int))).run Try.prog w = .ok (.slice (some ⟨w.heap.size, 0, none⟩) n n) (w.alloc (.cells (madeCells #[.int .u32 0] n) 75)) := by
  obtain ⟨i, hi, hz, hs, hb⟩ := info_parts info_u32
  exact run_make_row1 23 75 i _ Try.underlying23 hi hz hs _ _ n (by rw [hb]; omega) (by omega) w

theorem Num.zero (t : TypeId) (B : Nat) (w : World) : Num t B w 0 (.slice none 0 0) :=
  ⟨none, 0, 0, fun _ => 0, rfl, Mk.nil _ _ _, ⟨by omega, fun h => absurd h (by omega)⟩, rfl⟩


end Go.Proofs.Ytejngjhdmneaiaa


namespace Go.Proofs.Ytejngjhdmneaiaa
set_option maxRecDepth 100000
open Go.RowKit

/-- A number's limbs are handed back, in new memory. -/
def Lone (t : TypeId) (w : World) (V : Nat) (e : Ending) (w' : World) : Prop := ∃ v, e = .returned v ∧ Num t w.heap.size w' V v ∧ Below w.heap.size w w'

theorem Blk.two (w : World) (e : TypeId) (a b : Nat) : Blk (w.alloc (.cells #[.int .u32 (a : Int), .int .u32 (b : Int)] e)) e w.heap.size 2 (fun j => if j = 0 then a else if j = 1 then b else 0) := by
  refine ⟨_, heap_alloc_new w _, rfl, fun j hj => ?_⟩
  rcases (show j = 0 ∨ j = 1 by omega) with rfl | rfl <;> rfl

set_option maxHeartbeats 400000 in
theorem of_any (x : Nat) (hx : x ≤ 18446744073709551615) (w : World) :
    Calls Try.prog 73 #[.int .u64 (x : Int)] w (Lone 75 w x) := by
  have hb := Blk.two w 75 (x % 4294967296) (x / 4294967296)
  have hz : ∀ j, (fun j => if j = 0 then x % 4294967296 else if j = 1 then x / 4294967296 else 0) j < 4294967296 := by
    intro j
    show (if j = 0 then x % 4294967296 else if j = 1 then x / 4294967296 else 0) < 4294967296
    split
    · omega
    · split <;> omega
  have hV : vl (fun j => if j = 0 then x % 4294967296 else if j = 1 then x / 4294967296 else 0) 2 = x := by
    simp [vl, pw]
    omega
  generalize (fun j => if j = 0 then x % 4294967296 else if j = 1 then x / 4294967296 else 0) = z at *
  have Cc := hid (cut_any w.heap.size 2 2 z _ (Nat.le_refl _) (by omega) (fun j hj => hb.cell hj))
  have R := cut_num (B := w.heap.size) hb (Nat.le_refl _) hz (by have := cutLen_le z 2; omega)
  rw [hV] at R
  have HR := hid R
  rw [show (((x % 4294967296 : Nat) : Int)) = (x : Int) % 4294967296 by omega, show (((x / 4294967296 : Nat) : Int)) = (x : Int) / 4294967296 by omega] at Cc HR
  clear hb hz hV R
  go_enter Try.func73, Try.ntmps73
  go_wp2_with fail
  refine Cc.out.mono ?_
  rintro e w' ⟨rfl, rfl⟩
  go_wp2
  go_ret
  exact ⟨_, rfl, HR.out, (Below.refl _ _).alloc (Nat.le_refl _) _⟩

theorem bitLen_8 (y : Nat) (hy : y < 256) : Lib.bitLen y ≤ 8 := Lib.bitLen_le8 ⟨y, hy⟩

theorem len8_get (y : Nat) (hy : y < 256) (h : y < Lib.len8tab.size) : (Lib.len8tab[y]'h).toNat = Lib.bitLen y := by
  have e := Lib.len8_of (y : Int) (by omega) (by omega)
  unfold Lib.len8 at e
  rw [Int.toNat_natCast, ByteArray.getElem?_lt' _ _ h, Option.getD_some] at e
  exact Int.ofNat.inj e

/-- s is how many binary digits V has. -/
def Size (V s : Nat) : Prop := V < 2 ^ s ∧ (0 < s → 2 ^ (s - 1) ≤ V)
theorem Size.zero : Size 0 0 := ⟨by decide, fun h => absurd h (by omega)⟩
theorem Size.uniq {V s t : Nat} (h : Size V s) (k : Size V t) : s = t := by
  rcases Nat.lt_trichotomy s t with hlt | he | hgt
  · have a := k.2 (by omega)
    have b : 2 ^ s ≤ 2 ^ (t - 1) := Nat.pow_le_pow_right (by omega) (by omega)
    have c := h.1
    omega
  · exact he
  · have a := h.2 (by omega)
    have b : 2 ^ t ≤ 2 ^ (s - 1) := Nat.pow_le_pow_right (by omega) (by omega)
    have c := k.1
    omega

theorem size_bitLen : ∀ (n x : Nat), x < 2 ^ n → n ≤ 64 → Size x (Lib.bitLen x)
  | 0, x, h, _ => by
    have : x = 0 := by simpa using h
    subst this
    exact Size.zero
  | n + 1, x, h, hn => by
    by_cases hx : x = 0
    · subst hx
      exact Size.zero
    · have h64 : x < 2 ^ 64 := Nat.lt_of_lt_of_le h (Nat.pow_le_pow_right (by omega) hn)
      rw [Lib.bitLen_half x hx h64]
      obtain ⟨a, b⟩ := size_bitLen n (x / 2) (by rw [Nat.pow_succ] at h; omega) (by omega)
      refine ⟨?_, fun _ => ?_⟩
      · rw [Nat.add_comm, Nat.pow_succ]; omega
      · rw [Nat.add_comm, Nat.add_sub_cancel]
        rcases Nat.eq_zero_or_pos (Lib.bitLen (x / 2)) with h0 | h0
        · rw [h0]; simp; omega
        · have := b h0
          obtain ⟨k, hk⟩ : ∃ k, Lib.bitLen (x / 2) = k + 1 := ⟨Lib.bitLen (x / 2) - 1, by omega⟩
          rw [hk, Nat.pow_succ]
          rw [hk, Nat.add_sub_cancel] at this
          omega

theorem pw_two (k : Nat) : pw k = 2 ^ (32 * k) := by unfold pw; rw [Nat.pow_mul]

theorem size_vl {f : Nat → Nat} {k s : Nat} (hf : ∀ j, f j < 4294967296) (h0 : f k ≠ 0) (h : Size (f k) s) : Size (vl f (k + 1)) (k * 32 + s) := by
  obtain ⟨a, b⟩ := h
  have hs : 0 < s := by
    rcases Nat.eq_zero_or_pos s with h | h
    · subst h; simp at a; omega
    · exact h
  have l := vl_lt (f := f) (k := k) (fun j _ => hf j)
  have e : 2 ^ (k * 32 + s) = 2 ^ s * pw k := by rw [pw_two, Nat.pow_add, Nat.mul_comm k, Nat.mul_comm]
  have e2 : 2 ^ (k * 32 + s - 1) = 2 ^ (s - 1) * pw k := by rw [pw_two, show k * 32 + s - 1 = (s - 1) + 32 * k by omega, Nat.pow_add]
  refine ⟨?_, fun _ => ?_⟩
  · have m : (f k + 1) * pw k ≤ 2 ^ s * pw k := Nat.mul_le_mul_right _ a
    rw [Nat.add_mul] at m
    rw [vl_succ, e]
    omega
  · have m : 2 ^ (s - 1) * pw k ≤ f k * pw k := Nat.mul_le_mul_right _ (b hs)
    rw [vl_succ, e2]
    omega

end Go.Proofs.Ytejngjhdmneaiaa


namespace Go.Proofs.Ytejngjhdmneaiaa
open Go.RowKit

theorem pw_le_two {j k : Nat} (h : 32 * j ≤ k) : pw j ≤ 2 ^ k := by
  rw [pw_two]
  exact Nat.pow_le_pow_right (by omega) h
theorem two_le_pw {j k : Nat} (h : k ≤ 32 * j) : 2 ^ k ≤ pw j := by
  rw [pw_two]
  exact Nat.pow_le_pow_right (by omega) h
theorem pw40_le {k : Nat} (h : 1280 ≤ k) : pw 40 ≤ 2 ^ k := pw_le_two (by omega)
theorem le_pw40 {k : Nat} (h : k ≤ 1280) : 2 ^ k ≤ pw 40 := two_le_pw (by omega)
theorem vl_pw40 {w : World} {B n c : Nat} {A : Option Addr} {f : Nat → Nat} (h : Rd w B A n c f) (hf : Fit n f) : vl f n < pw 40 :=
  Nat.lt_of_lt_of_le (vl_lt fun j _ => h.lt j) (pw_mono hf.1)
/-- The slice value v reads as the number V. -/
def Val (w : World) (V : Nat) (v : Value) : Prop := ∃ A k c f, v = .slice A k c ∧ Rd w w.heap.size A k c f ∧ Fit k f ∧ vl f k = V
theorem Num.val {t : TypeId} {B V : Nat} {w : World} {v : Value} (h : Num t B w V v) : Val w V v := by
  obtain ⟨A, k, c, f, hv, hm, hf, hV⟩ := h
  exact ⟨A, k, c, f, hv, hm.rd, hf, hV⟩
theorem Val.below {w w' : World} {V : Nat} {v : Value} (h : Val w V v) (hb : Below w.heap.size w w') : Val w' V v := by
  obtain ⟨A, k, c, f, hv, hr, hf, hV⟩ := h
  exact ⟨A, k, c, f, hv, (hr.below hb).mono hb.size, hf, hV⟩
theorem Rd.val {w : World} {B n c : Nat} {A : Option Addr} {f : Nat → Nat} (h : Rd w B A n c f) (hB : B ≤ w.heap.size) (hf : Fit n f) : Val w (vl f n) (.slice A n c) := ⟨A, n, c, f, rfl, h.mono hB, hf, rfl⟩
theorem Val.lt {w : World} {V : Nat} {v : Value} (h : Val w V v) : V < pw 40 := by
  obtain ⟨A, k, c, f, _, hr, hf, rfl⟩ := h
  exact vl_pw40 hr hf

theorem of_int (x : Int) (h0 : 0 ≤ x) (h1 : x ≤ 18446744073709551615) (w : World) :
    Calls Try.prog 73 #[.int .u64 x] w (Lone 75 w x.toNat) := by
  obtain ⟨y, rfl⟩ := Int.eq_ofNat_of_zero_le h0
  rw [Int.toNat_natCast]
  exact of_any y (by omega) w

theorem Rd.same {w : World} {B C : Nat} {A D : Option Addr} {n c m d : Nat} {f h : Nat → Nat} (ha : Rd w B A n c f) (hb : Rd w C D m d h) (h1 : 0 < n → f (n - 1) ≠ 0) (h2 : 0 < m → h (m - 1) ≠ 0) (hv : vl f n = vl h m) : n = m ∧ ∀ j, f j = h j :=
  same_of_vl ha.lt hb.lt ha.out hb.out h1 h2 hv

theorem Val.nil (w : World) : Val w 0 (.slice none 0 0) := ⟨none, 0, 0, fun _ => 0, rfl, Rd.nil w _, ⟨by omega, fun h => absurd h (by omega)⟩, rfl⟩

/-- The number that is handed back beside an error: none, which reads as 0, beside one that is not OK. -/
def resV (er : Int) (V : Nat) : Nat := if er = 0 then V else 0
theorem resV_ok {er : Int} {V : Nat} (h : er = 0) : resV er V = V := if_pos h
theorem resV_bad {er : Int} {V : Nat} (h : er ≠ 0) : resV er V = 0 := if_neg h

/-- What a call hands back that answers limbs and an error: E says of the error what it is. -/
def Back (w : World) (E : Int → Prop) (V : Nat) (e : Ending) (w' : World) : Prop := ∃ v er, e = .returned (.tuple #[v, .int .i64 er]) ∧ Hid (E er) ∧ Hid (Val w' (resV er V) v) ∧ Hid (Below w.heap.size w w')

theorem Ans.back {w w' : World} {er : Int} {V : Nat} {e : Ending} {E : Int → Prop} (h : Ans 75 w er V e w') (hE : E er) : Back w E V e w' := by
  obtain ⟨hb, v, rfl, hg, hn⟩ := h
  refine ⟨v, er, rfl, hE, ?_, hb⟩
  by_cases he : er = 0
  · rw [resV_ok he]; exact (hg he).val
  · rw [resV_bad he, hn he]; exact Val.nil w'


end Go.Proofs.Ytejngjhdmneaiaa


namespace Go.Proofs.Ytejngjhdmneaiaa
open Go.RowKit

/-- Left's error. -/
def leftErr (n : Nat) (f : Nat → Nat) (k : Int) : Int := if Fit n f then (if k < 0 then 2 else overErr (vl f n * 2 ^ k.toNat)) else 8

theorem over_size {V s k : Nat} (hs : Size V s) (h0 : 0 < s) : V * 2 ^ k < pw 40 ↔ s + k ≤ 1280 := by
  obtain ⟨a, b⟩ := hs
  have b := b h0
  constructor
  · intro h
    rcases Nat.lt_or_ge 1280 (s + k) with hlt | hge
    · have h1 : 2 ^ (s - 1) * 2 ^ k ≤ V * 2 ^ k := Nat.mul_le_mul_right _ b
      rw [← Nat.pow_add] at h1
      have h2 : pw 40 ≤ 2 ^ (s - 1 + k) := pw40_le (by omega)
      omega
    · exact hge
  · intro h
    have h1 : (V + 1) * 2 ^ k ≤ 2 ^ s * 2 ^ k := Nat.mul_le_mul_right _ a
    rw [← Nat.pow_add, Nat.add_mul] at h1
    have h2 : 2 ^ (s + k) ≤ pw 40 := le_pw40 h
    have h3 : 0 < 2 ^ k := Nat.pow_pos (by omega)
    omega

end Go.Proofs.Ytejngjhdmneaiaa

