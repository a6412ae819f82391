/- Contracts: Of, Len32, size, Bits. -/
/- A slice that reads as a number; what a call hands back beside an error. -/
/- Contracts: right, Right, Bits. -/
/- Contract: limb.Bits. -/
/- Contracts: limb.Right, limb.Bits. -/
/- Contract: Left. -/
/- Contracts: TrailingZeros32, Low. -/
import Derived.Test.YtnhnddhigbbleaaDoorRa
import Derived.Lib.Strings
import Derived.Lib.Slices
import Derived.Lib.Small
import Derived.Lib.Walk
import Derived.Lib.BitFns
import Derived.Lib.TrailingZeros
import Derived.Laws.Bits64b

namespace Go.Proofs.YtnhnddhigbbleaaDoor
open Go.RowKit

/-- A number's limbs are handed back, in new memory. -/
def Lone (t : TypeId) (w : World) (V : Nat) (e : Ending) (w' : World) : Prop := ∃ v, e = .returned v ∧ Num t w.heap.size w' V v ∧ Below w.heap.size w w'

theorem Blk.two (w : World) (e : TypeId) (a b : Nat) : Blk (w.alloc (.cells #[.int .u32 (a : Int), .int .u32 (b : Int)] e)) e w.heap.size 2 (fun j => if j = 0 then a else if j = 1 then b else 0) := by
  refine ⟨_, heap_alloc_new w _, rfl, fun j hj => ?_⟩
  rcases (show j = 0 ∨ j = 1 by omega) with rfl | rfl <;> rfl

set_option maxHeartbeats 400000 in
theorem of_any (x : Nat) (hx : x ≤ 18446744073709551615) (w : World) :
    Calls Tryd.prog 49 #[.int .u64 (x : Int)] w (Lone 63 w x) := by
  have hb := Blk.two w 63 (x % 4294967296) (x / 4294967296)
  have hz : ∀ j, (fun j => if j = 0 then x % 4294967296 else if j = 1 then x / 4294967296 else 0) j < 4294967296 := by
    intro j
    show (if j = 0 then x % 4294967296 else if j = 1 then x / 4294967296 else 0) < 4294967296
    split
    · omega
    · split <;> omega
  have hV : vl (fun j => if j = 0 then x % 4294967296 else if j = 1 then x / 4294967296 else 0) 2 = x := by
    simp [vl, pw]
    omega
  generalize (fun j => if j = 0 then x % 4294967296 else if j = 1 then x / 4294967296 else 0) = z at *
  have Cc := hid (cut_any w.heap.size 2 2 z _ (Nat.le_refl _) (by omega) (fun j hj => hb.cell hj))
  have R := cut_num (B := w.heap.size) hb (Nat.le_refl _) hz (by have := cutLen_le z 2; omega)
  rw [hV] at R
  have HR := hid R
  rw [show (((x % 4294967296 : Nat) : Int)) = (x : Int) % 4294967296 by omega, show (((x / 4294967296 : Nat) : Int)) = (x : Int) / 4294967296 by omega] at Cc HR
  clear hb hz hV R
  go_enter Tryd.func49, Tryd.ntmps49
  go_wp2_with fail
  refine Cc.out.mono ?_
  rintro e w' ⟨rfl, rfl⟩
  go_wp2
  go_ret
  exact ⟨_, rfl, HR.out, (Below.refl _ _).alloc (Nat.le_refl _) _⟩

theorem bitLen_8 (y : Nat) (hy : y < 256) : Lib.bitLen y ≤ 8 := Lib.bitLen_le8 ⟨y, hy⟩

theorem len8_get (y : Nat) (hy : y < 256) (h : y < Lib.len8tab.size) : (Lib.len8tab[y]'h).toNat = Lib.bitLen y := by
  have e := Lib.len8_of (y : Int) (by omega) (by omega)
  unfold Lib.len8 at e
  rw [Int.toNat_natCast, ByteArray.getElem?_lt' _ _ h, Option.getD_some] at e
  exact Int.ofNat.inj e

set_option maxHeartbeats 1000000 in
set_option maxRecDepth 100000 in
theorem len32_int (x : Int) (w : World) (h0 : 0 ≤ x) (h1 : x ≤ 4294967295) :
    Calls Tryd.prog 75 #[.int .u32 x] w fun e w' => e = .returned (.int .i64 (Lib.bitLen x.toNat)) ∧ w = w' := by
  go_enter Tryd.func75, Tryd.ntmps75
  go_wp2
  all_goals try (exfalso; simp only [Lib.len8tab_size] at *; omega)
  all_goals (go_ret; refine ⟨congrArg Ending.returned (congrArg (Value.int IntKind.i64) ?_), rfl⟩)
  · rw [len8_get _ (by omega)]
    have l := bitLen_8 (x / 65536 / 256).toNat (by omega)
    have s := Lib.bitLen_shift24 x.toNat (by omega) (by omega)
    rw [show x.toNat / 16777216 = (x / 65536 / 256).toNat by omega] at s
    unfold wrap64
    omega
  · rw [len8_get _ (by omega)]
    have l := bitLen_8 (x / 65536).toNat (by omega)
    have s := Lib.bitLen_shift16 x.toNat (by omega) (by omega)
    rw [show x.toNat / 65536 = (x / 65536).toNat by omega] at s
    unfold wrap64
    omega
  · rw [len8_get _ (by omega)]
    have l := bitLen_8 (x / 256).toNat (by omega)
    have s := Lib.bitLen_shift8 x.toNat (by omega) (by omega)
    rw [show x.toNat / 256 = (x / 256).toNat by omega] at s
    unfold wrap64
    omega
  · rw [len8_get _ (by omega)]
    have l := bitLen_8 x.toNat (by omega)
    unfold wrap64
    omega

theorem len32_any (x : Nat) (w : World) (h1 : x < 4294967296) :
    Calls Tryd.prog 75 #[.int .u32 (x : Int)] w fun e w' => e = .returned (.int .i64 (Lib.bitLen x)) ∧ w = w' := by
  have h := len32_int (x : Int) w (by omega) (by omega)
  rwa [Int.toNat_natCast] at h

/-- s is how many binary digits V has. -/
def Size (V s : Nat) : Prop := V < 2 ^ s ∧ (0 < s → 2 ^ (s - 1) ≤ V)
theorem Size.zero : Size 0 0 := ⟨by decide, fun h => absurd h (by omega)⟩
theorem Size.uniq {V s t : Nat} (h : Size V s) (k : Size V t) : s = t := by
  rcases Nat.lt_trichotomy s t with hlt | he | hgt
  · have a := k.2 (by omega)
    have b : 2 ^ s ≤ 2 ^ (t - 1) := Nat.pow_le_pow_right (by omega) (by omega)
    have c := h.1
    omega
  · exact he
  · have a := h.2 (by omega)
    have b : 2 ^ t ≤ 2 ^ (s - 1) := Nat.pow_le_pow_right (by omega) (by omega)
    have c := k.1
    omega

theorem size_bitLen : ∀ (n x : Nat), x < 2 ^ n → n ≤ 64 → Size x (Lib.bitLen x)
  | 0, x, h, _ => by
    have : x = 0 := by simpa using h
    subst this
    exact Size.zero
  | n + 1, x, h, hn => by
    by_cases hx : x = 0
    · subst hx
      exact Size.zero
    · have h64 : x < 2 ^ 64 := Nat.lt_of_lt_of_le h (Nat.pow_le_pow_right (by omega) hn)
      rw [Lib.bitLen_half x hx h64]
      obtain ⟨a, b⟩ := size_bitLen n (x / 2) (by rw [Nat.pow_succ] at h; omega) (by omega)
      refine ⟨?_, fun _ => ?_⟩
      · rw [Nat.add_comm, Nat.pow_succ]; omega
      · rw [Nat.add_comm, Nat.add_sub_cancel]
        rcases Nat.eq_zero_or_pos (Lib.bitLen (x / 2)) with h0 | h0
        · rw [h0]; simp; omega
        · have := b h0
          obtain ⟨k, hk⟩ : ∃ k, Lib.bitLen (x / 2) = k + 1 := ⟨Lib.bitLen (x / 2) - 1, by omega⟩
          rw [hk, Nat.pow_succ]
          rw [hk, Nat.add_sub_cancel] at this
          omega

theorem pw_two (k : Nat) : pw k = 2 ^ (32 * k) := by unfold pw; rw [Nat.pow_mul]

theorem size_vl {f : Nat → Nat} {k s : Nat} (hf : ∀ j, f j < 4294967296) (h0 : f k ≠ 0) (h : Size (f k) s) : Size (vl f (k + 1)) (k * 32 + s) := by
  obtain ⟨a, b⟩ := h
  have hs : 0 < s := by
    rcases Nat.eq_zero_or_pos s with h | h
    · subst h; simp at a; omega
    · exact h
  have l := vl_lt (f := f) (k := k) (fun j _ => hf j)
  have e : 2 ^ (k * 32 + s) = 2 ^ s * pw k := by rw [pw_two, Nat.pow_add, Nat.mul_comm k, Nat.mul_comm]
  have e2 : 2 ^ (k * 32 + s - 1) = 2 ^ (s - 1) * pw k := by rw [pw_two, show k * 32 + s - 1 = (s - 1) + 32 * k by omega, Nat.pow_add]
  refine ⟨?_, fun _ => ?_⟩
  · have m : (f k + 1) * pw k ≤ 2 ^ s * pw k := Nat.mul_le_mul_right _ a
    rw [Nat.add_mul] at m
    rw [vl_succ, e]
    omega
  · have m : 2 ^ (s - 1) * pw k ≤ f k * pw k := Nat.mul_le_mul_right _ (b hs)
    rw [vl_succ, e2]
    omega

set_option maxHeartbeats 400000 in
theorem size_nil (A : Option Addr) (c : Nat) (w : World) :
    Calls Tryd.prog 63 #[.slice A 0 c] w fun e w' => e = .returned (.int .i64 0) ∧ w = w' := by
  go_enter Tryd.func63, Tryd.ntmps63
  go_wp2
  go_ret
  exact ⟨rfl, rfl⟩

set_option maxHeartbeats 400000 in
theorem size_pos (b off n c x : Nat) (w : World) (hn : n ≤ 41) (_hc : n + 1 ≤ c) (_hm : n + 1 ≤ 140737488355328) (hx : w.cell? ⟨b, off + n, none⟩ = some (.int .u32 (x : Int))) (hl : x < 4294967296) :
    Calls Tryd.prog 63 #[.slice (some ⟨b, off, none⟩) (n + 1) c] w fun e w' => e = .returned (.int .i64 ((n * 32 + Lib.bitLen x : Nat) : Int)) ∧ w = w' := by
  have C := hid (len32_any x w hl)
  have hs : Lib.bitLen x ≤ 64 := by
    obtain ⟨_, h2⟩ := size_bitLen 32 x hl (by omega)
    rcases Nat.lt_or_ge 64 (Lib.bitLen x) with h | h
    · have a := h2 (by omega)
      have b : 2 ^ 64 ≤ 2 ^ (Lib.bitLen x - 1) := Nat.pow_le_pow_right (by omega) (by omega)
      have c : (4294967296 : Nat) ≤ 2 ^ 64 := by decide
      omega
    · exact h
  have hz : (((n + 1 : Nat) : Int) == 0) = false := by simp; omega
  clear hl
  generalize Lib.bitLen x = s at *
  go_enter Tryd.func63, Tryd.ntmps63
  go_wp2_with fail
  refine C.out.mono ?_
  rintro e w' ⟨rfl, rfl⟩
  go_wp2
  go_ret
  exact ⟨rfl, rfl⟩

theorem size_any {B : Nat} {A : Option Addr} {n c : Nat} {f : Nat → Nat} {w : World} (h : Rd w B A n c f) (hf : Fit n f) :
    Calls Tryd.prog 63 #[.slice A n c] w fun e w' => ∃ s : Nat, e = .returned (.int .i64 (s : Int)) ∧ w = w' ∧ Size (vl f n) s := by
  rcases Nat.eq_zero_or_pos n with h0 | h0
  · subst h0
    refine (size_nil A c w).mono ?_
    rintro e w' ⟨rfl, rfl⟩
    exact ⟨0, rfl, rfl, Size.zero⟩
  · obtain ⟨b, off, rfl, _, hc⟩ := h.at_ h0
    obtain ⟨k, rfl⟩ : ∃ k, n = k + 1 := ⟨n - 1, by omega⟩
    have hk : f k ≠ 0 := by simpa using hf.2 h0
    have h40 := hf.1
    refine (size_pos b off k c (f k) w (by omega) h.cap h.max (hc k (by omega)) (h.lt k)).mono ?_
    rintro e w' ⟨rfl, rfl⟩
    exact ⟨_, rfl, rfl, size_vl h.lt hk (size_bitLen 32 (f k) (h.lt k) (by omega))⟩

end Go.Proofs.YtnhnddhigbbleaaDoor


namespace Go.Proofs.YtnhnddhigbbleaaDoor
open Go.RowKit

theorem pw_le_two {j k : Nat} (h : 32 * j ≤ k) : pw j ≤ 2 ^ k := by
  rw [pw_two]
  exact Nat.pow_le_pow_right (by omega) h
theorem two_le_pw {j k : Nat} (h : k ≤ 32 * j) : 2 ^ k ≤ pw j := by
  rw [pw_two]
  exact Nat.pow_le_pow_right (by omega) h
theorem pw40_le {k : Nat} (h : 1280 ≤ k) : pw 40 ≤ 2 ^ k := pw_le_two (by omega)
theorem le_pw40 {k : Nat} (h : k ≤ 1280) : 2 ^ k ≤ pw 40 := two_le_pw (by omega)
theorem vl_pw40 {w : World} {B n c : Nat} {A : Option Addr} {f : Nat → Nat} (h : Rd w B A n c f) (hf : Fit n f) : vl f n < pw 40 :=
  Nat.lt_of_lt_of_le (vl_lt fun j _ => h.lt j) (pw_mono hf.1)
/-- The slice value v reads as the number V. -/
def Val (w : World) (V : Nat) (v : Value) : Prop := ∃ A k c f, v = .slice A k c ∧ Rd w w.heap.size A k c f ∧ Fit k f ∧ vl f k = V
theorem Num.val {t : TypeId} {B V : Nat} {w : World} {v : Value} (h : Num t B w V v) : Val w V v := by
  obtain ⟨A, k, c, f, hv, hm, hf, hV⟩ := h
  exact ⟨A, k, c, f, hv, hm.rd, hf, hV⟩
theorem Val.below {w w' : World} {V : Nat} {v : Value} (h : Val w V v) (hb : Below w.heap.size w w') : Val w' V v := by
  obtain ⟨A, k, c, f, hv, hr, hf, hV⟩ := h
  exact ⟨A, k, c, f, hv, (hr.below hb).mono hb.size, hf, hV⟩
theorem Rd.val {w : World} {B n c : Nat} {A : Option Addr} {f : Nat → Nat} (h : Rd w B A n c f) (hB : B ≤ w.heap.size) (hf : Fit n f) : Val w (vl f n) (.slice A n c) := ⟨A, n, c, f, rfl, h.mono hB, hf, rfl⟩
theorem Val.lt {w : World} {V : Nat} {v : Value} (h : Val w V v) : V < pw 40 := by
  obtain ⟨A, k, c, f, _, hr, hf, rfl⟩ := h
  exact vl_pw40 hr hf

theorem of_int (x : Int) (h0 : 0 ≤ x) (h1 : x ≤ 18446744073709551615) (w : World) :
    Calls Tryd.prog 49 #[.int .u64 x] w (Lone 63 w x.toNat) := by
  obtain ⟨y, rfl⟩ := Int.eq_ofNat_of_zero_le h0
  rw [Int.toNat_natCast]
  exact of_any y (by omega) w

theorem Rd.same {w : World} {B C : Nat} {A D : Option Addr} {n c m d : Nat} {f h : Nat → Nat} (ha : Rd w B A n c f) (hb : Rd w C D m d h) (h1 : 0 < n → f (n - 1) ≠ 0) (h2 : 0 < m → h (m - 1) ≠ 0) (hv : vl f n = vl h m) : n = m ∧ ∀ j, f j = h j :=
  same_of_vl ha.lt hb.lt ha.out hb.out h1 h2 hv

theorem Val.nil (w : World) : Val w 0 (.slice none 0 0) := ⟨none, 0, 0, fun _ => 0, rfl, Rd.nil w _, ⟨by omega, fun h => absurd h (by omega)⟩, rfl⟩

/-- The number that is handed back beside an error: none, which reads as 0, beside one that is not OK. -/
def resV (er : Int) (V : Nat) : Nat := if er = 0 then V else 0
theorem resV_ok {er : Int} {V : Nat} (h : er = 0) : resV er V = V := if_pos h
theorem resV_bad {er : Int} {V : Nat} (h : er ≠ 0) : resV er V = 0 := if_neg h

/-- What a call hands back that answers limbs and an error: E says of the error what it is. -/
def Back (w : World) (E : Int → Prop) (V : Nat) (e : Ending) (w' : World) : Prop := ∃ v er, e = .returned (.tuple #[v, .int .i64 er]) ∧ Hid (E er) ∧ Hid (Val w' (resV er V) v) ∧ Hid (Below w.heap.size w w')

theorem Ans.back {w w' : World} {er : Int} {V : Nat} {e : Ending} {E : Int → Prop} (h : Ans 63 w er V e w') (hE : E er) : Back w E V e w' := by
  obtain ⟨hb, v, rfl, hg, hn⟩ := h
  refine ⟨v, er, rfl, hE, ?_, hb⟩
  by_cases he : er = 0
  · rw [resV_ok he]; exact (hg he).val
  · rw [resV_bad he, hn he]; exact Val.nil w'


end Go.Proofs.YtnhnddhigbbleaaDoor


namespace Go.Proofs.YtnhnddhigbbleaaDoor
open Go.RowKit

theorem join_u64 (x y : Nat) (hx : x < 4294967296) (hy : y < 4294967296) : bits BinOp.or IntKind.u64 ((x : Int) * 4294967296) (y : Int) = ((x * 4294967296 + y : Nat) : Int) := by
  have h := u64_or_nat (x * 4294967296) y (by omega) (by omega)
  rw [nat_join 32 (x * 4294967296) y (by omega) (by omega)] at h
  rw [← h, Int.natCast_mul]
  rfl

set_option maxHeartbeats 1600000 in
theorem right_any {A : Option Addr} {n c : Nat} {f : Nat → Nat} {w : World} (ha : Rd w w.heap.size A n c f) (hf : Fit n f) (k : Nat) (hk : k ≤ 9223372036854775807) :
    Calls Tryd.prog 79 #[.slice A n c, .int .i64 (k : Int)] w (Lone 63 w (vl f n / 2 ^ k)) := by
  have Cs := hid (size_any ha hf)
  have n40 := hf.1
  have hac := ha.cap
  have ham := ha.max
  have Ha := hid ha
  have Hf := hid hf
  clear ha hf
  have Hk := hid hk
  go_enter Tryd.func79, Tryd.ntmps79
  go_wp2_with fail
  refine Cs.out.mono ?_
  rintro e w' ⟨s, rfl, rfl, hs⟩
  by_cases hks : s ≤ k
  · have e : vl f n / 2 ^ k = 0 := Nat.div_eq_of_lt (Nat.lt_of_lt_of_le hs.1 (Nat.pow_le_pow_right (by omega) hks))
    have E := hid e
    clear hs e hk
    go_wp2
    go_ret
    rw [E.out]
    exact ⟨_, rfl, Num.zero _ _ _, Below.refl _ _⟩
  · have hs40 : s ≤ 32 * n := by
      rcases Nat.lt_or_ge (32 * n) s with h | h
      · have l := vl_lt (f := f) (k := n) (fun j _ => Ha.out.lt j)
        rw [pw_two] at l
        have a := hs.2 (by omega)
        have b : 2 ^ (32 * n) ≤ 2 ^ (s - 1) := Nat.pow_le_pow_right (by omega) (by omega)
        omega
      · exact h
    clear hs hk
    have hk : k ≤ 1280 := by omega
    obtain ⟨q, hq⟩ : ∃ q, q = k / 32 := ⟨_, rfl⟩
    obtain ⟨p, hp⟩ : ∃ p, p = k % 32 := ⟨_, rfl⟩
    have hqn : q < n := by omega
    have hp32 : p < 32 := by omega
    obtain ⟨L, hL⟩ : ∃ L, L = n - q := ⟨_, rfl⟩
    have hmk : ∀ w, (Instr.makeSlice 22 (.int .i64 ((n : Int) - (k : Int) / 32)) (.int .i64 ((n : Int) - (k : Int) / 32))).run Tryd.prog w = .ok (.slice (some ⟨w.heap.size, 0, none⟩) L L) (w.alloc (.cells (madeCells #[.int .u32 0] L) 63)) := by
      intro w
      have h := make_u32 L (by omega) w
      rw [show ((L : Nat) : Int) = (n : Int) - (k : Int) / 32 by omega] at h
      exact h
    have HL := hid hL
    have Hq := hid hq
    have Hp := hid hp
    clear hL hq hp
    go_wp2_with fail
    rw [show ((k : Int) / 32) = (q : Int) by have := Hq.out; omega, show ((k : Int) % 32) = (p : Int) by have := Hp.out; omega]
    clear hmk
    go_loopw [25] (fun i wr => ∃ i' : Nat, i' ≤ L ∧ i = .int .i64 i' ∧ ∃ (z : Nat → Nat), Blk wr 63 w.heap.size L z ∧ Below w.heap.size w wr ∧
        2 ^ p * vl z i' + f q % 2 ^ p = vl (fun j => f (q + j)) i' + f (q + i') % 2 ^ p * pw i' ∧ (∀ j, z j < 4294967296)) (fun i _ => L - (intOf i).toNat)
    case atStart => exact ⟨0, by omega, rfl, fun _ => 0, Blk.zeros' rfl, (Below.refl _ _).alloc (Nat.le_refl _) _, by simp [vl, pw], fun _ => (by decide : 0 < 4294967296)⟩
    case round =>
      obtain ⟨i, hi, rfl, z, hblk, hbel, hsum, hz⟩ := hrel
      have hLn : L + q ≤ n := by have := HL.out; omega
      by_cases hiL : i < L
      · have pa : ∀ m, Calls Tryd.prog 80 #[.slice A n c, .int .i64 ((q : Int) + (i : Int) + 1)] (wr.drewN m) fun e w' => e = .returned (.int .u32 (f (q + i + 1) : Int)) ∧ w' = wr.drewN m := by
          intro m
          have h := at_any ((Ha.out.below hbel).drewN m) (q + i + 1)
          rw [show ((q + i + 1 : Nat) : Int) = (q : Int) + (i : Int) + 1 by omega] at h
          exact h.mono fun _ _ ⟨a, b⟩ => ⟨a, b.symm⟩
        obtain ⟨b, off, rfl, hbB, hc⟩ := Ha.out.at_ (by omega)
        have xa := (hbel.cell (p := ⟨b, off + (q + i), none⟩) hbB).trans (hc (q + i) (by omega))
        have y0 := Ha.out.lt (q + i)
        have y1 := Ha.out.lt (q + i + 1)
        have xo := hblk.cell hiL
        have xg := hblk.frozen i
        have Ca := hid pa
        have Hblk := hid hblk
        have Hbel := hid hbel
        have Hsum := hid hsum
        have Hz := hid hz
        clear pa hc hblk hbel hsum hz
        generalize hg0 : f (q + i) = g0 at *
        generalize hg1 : f (q + i + 1) = g1 at *
        generalize z i = zi at *
        have Hg0 := hid hg0
        have Hg1 := hid hg1
        have hor := join_u64 g1 g0 y1 y0
        generalize hP : g1 * 4294967296 + g0 = P at *
        have hPl : P ≤ 18446744073709551615 := by omega
        have HP := hid hP
        clear hg0 hg1 hP
        go_wp2_with fail
        go_quiet ((go_at_call 80; exact Calls.quiet_of_same (Ca.out _)))
        go_wp2
        rw [show ((P : Int) / 2 ^ p % 4294967296) = ((P / 2 ^ p % 4294967296 : Nat) : Int) by simp]
        go_roundw
        case rel =>
          refine ⟨i + 1, by omega, by go_num, _, (Hblk.out.drewN _).set i _, (below_drewN Hbel.out _).setCell (p := ⟨w.heap.size, i, none⟩) (Nat.le_refl _) _, ?_, fun j => ?_⟩
          · rw [vl_put, ← HP.out, ← Hg0.out, ← Hg1.out]
            exact right_step (g := fun j => f (q + j)) hp32 (Ha.out.lt _) (by have h := Hsum.out; rw [← Hg0.out] at h; exact h)
          · show (if j = i then P / 2 ^ p % 4294967296 else z j) < _
            split
            · omega
            · exact Hz.out j
        case measure => simp [intOf]; omega
      · obtain rfl : i = L := by omega
        have eL : q + i = n := by have := HL.out; omega
        have hV := right_end eL (k := k) (by have := Hq.out; have := Hp.out; omega) Ha.out.lt (Ha.out.out n (Nat.le_refl _)) hsum
        have Cc := hid (cut_any w.heap.size i i z wr (Nat.le_refl _) (by omega) (fun j hj => hblk.cell hj))
        have hle := cutLen_le z i
        have R := cut_num (B := w.heap.size) hblk (Nat.le_refl _) hz (by omega)
        rw [hV] at R
        have HR := hid R
        have Hbel := hid hbel
        clear hblk hbel hsum hz hV R eL
        generalize cutLen z i = kk at *
        go_wp2_with fail
        refine Cc.out.mono ?_
        rintro e w' ⟨rfl, rfl⟩
        go_wp2
        go_ret
        exact ⟨_, rfl, HR.out, Hbel.out⟩

end Go.Proofs.YtnhnddhigbbleaaDoor


namespace Go.Proofs.YtnhnddhigbbleaaDoor
open Go.RowKit

/-- Bits' answer: an error, and how many digits. -/
def BitsPost (w : World) (n : Nat) (f : Nat → Nat) (e : Ending) (w' : World) : Prop :=
  Below w.heap.size w w' ∧ ∃ s : Nat, e = .returned (.tuple #[.int .i64 (s : Int), .int .i64 (chk n f)]) ∧ (Fit n f → Size (vl f n) s) ∧ (¬ Fit n f → s = 0)

set_option maxHeartbeats 800000 in
theorem Bits_any {A : Option Addr} {n c : Nat} {f : Nat → Nat} {w : World} (ha : Rd w w.heap.size A n c f) :
    Calls Tryd.prog 51 #[.slice A n c] w (BitsPost w n f) := by
  have cb := bad_lone ha 22
  have b0 : Below w.heap.size w (w.alloc (.cells #[.slice A n c] 22)) := (Below.refl _ w).alloc (Nat.le_refl _) _
  by_cases hf : Fit n f
  · rw [show decide (¬ Fit n f) = false by simp [hf]] at cb
    have Cs := hid (size_any (ha.below b0) hf)
    have Cb := hid cb
    have Hb0 := hid b0
    have Hf := hid hf
    clear cb hf ha b0
    go_enter Tryd.func51, Tryd.ntmps51
    go_wp2_with fail
    refine Cb.out.mono ?_
    rintro e w' ⟨rfl, rfl⟩
    go_wp2_with fail
    refine Cs.out.mono ?_
    rintro e w' ⟨s, rfl, rfl, hs⟩
    have Hs := hid hs
    clear hs
    go_wp2
    go_ret2
    exact ⟨Hb0.out, s, by rw [chk_fit Hf.out]; rfl, fun _ => Hs.out, fun h => absurd Hf.out h⟩
  · rw [show decide (¬ Fit n f) = true by simp [hf]] at cb
    have Cb := hid cb
    have Hb0 := hid b0
    have Hf := hid hf
    clear cb hf ha b0
    go_enter Tryd.func51, Tryd.ntmps51
    go_wp2_with fail
    refine Cb.out.mono ?_
    rintro e w' ⟨rfl, rfl⟩
    go_wp2
    go_ret2
    exact ⟨Hb0.out, 0, by rw [chk_bad Hf.out]; rfl, fun h => absurd h Hf.out, fun _ => rfl⟩

end Go.Proofs.YtnhnddhigbbleaaDoor


namespace Go.Proofs.YtnhnddhigbbleaaDoor
open Go.RowKit

/-- An error alone is handed back, or limbs. -/
def rightErr (n : Nat) (f : Nat → Nat) (k : Int) : Int := if Fit n f then (if k < 0 then 2 else 0) else 8

set_option maxHeartbeats 800000 in
theorem Right_any {A : Option Addr} {n c : Nat} {f : Nat → Nat} {w : World} (ha : Rd w w.heap.size A n c f) (k : Int) (hk : k ≤ 9223372036854775807) :
    Calls Tryd.prog 69 #[.slice A n c, .int .i64 k] w (Ans 63 w (rightErr n f k) (vl f n / 2 ^ k.toNat)) := by
  have cb := bad_lone ha 22
  have b0 : Below w.heap.size w (w.alloc (.cells #[.slice A n c] 22)) := (Below.refl _ w).alloc (Nat.le_refl _) _
  by_cases hf : Fit n f
  · rw [show decide (¬ Fit n f) = false by simp [hf]] at cb
    by_cases hk0 : k < 0
    · rw [show rightErr n f k = 2 by unfold rightErr; rw [if_pos hf, if_pos hk0]]
      have Cb := hid cb
      have Hb0 := hid b0
      clear cb hf ha b0 hk
      go_enter Tryd.func69, Tryd.ntmps69
      go_wp2_with fail
      refine Cb.out.mono ?_
      rintro e w' ⟨rfl, rfl⟩
      go_wp2
      go_ret2
      exact Ans.fail (by decide) Hb0.out
    · rw [show rightErr n f k = 0 by unfold rightErr; rw [if_pos hf, if_neg hk0]]
      obtain ⟨k, rfl⟩ := Int.eq_ofNat_of_zero_le (show 0 ≤ k by omega)
      rw [Int.toNat_natCast]
      have cr := right_any (w := w.alloc (.cells #[.slice A n c] 22)) ((ha.below b0).mono (by simp)) hf k (by omega)
      have Cr := hid cr
      have Cb := hid cb
      have Hb0 := hid b0
      clear cb hf ha b0 hk cr
      go_enter Tryd.func69, Tryd.ntmps69
      go_wp2_with fail
      refine Cb.out.mono ?_
      rintro e w' ⟨rfl, rfl⟩
      go_wp2_with fail
      refine Cr.out.mono ?_
      rintro e w' ⟨v, rfl, hnum, hbel⟩
      have R : Ans 63 w 0 (vl f n / 2 ^ k) (.returned (.tuple #[v, .int .i64 0])) w' := Ans.good (Num.mono hnum (by simp)) (Hb0.out.trans (hbel.mono (by simp)))
      have HR := hid R
      clear hnum hbel R
      go_wp2
      go_ret2
      exact HR.out
  · rw [show decide (¬ Fit n f) = true by simp [hf]] at cb
    rw [show rightErr n f k = 8 from if_neg hf]
    have Cb := hid cb
    have Hb0 := hid b0
    clear cb hf ha b0 hk
    go_enter Tryd.func69, Tryd.ntmps69
    go_wp2_with fail
    refine Cb.out.mono ?_
    rintro e w' ⟨rfl, rfl⟩
    go_wp2
    go_ret2
    exact Ans.fail (by decide) Hb0.out

end Go.Proofs.YtnhnddhigbbleaaDoor


namespace Go.Proofs.YtnhnddhigbbleaaDoor
open Go.RowKit

/-- Left's error. -/
def leftErr (n : Nat) (f : Nat → Nat) (k : Int) : Int := if Fit n f then (if k < 0 then 2 else overErr (vl f n * 2 ^ k.toNat)) else 8

theorem over_size {V s k : Nat} (hs : Size V s) (h0 : 0 < s) : V * 2 ^ k < pw 40 ↔ s + k ≤ 1280 := by
  obtain ⟨a, b⟩ := hs
  have b := b h0
  constructor
  · intro h
    rcases Nat.lt_or_ge 1280 (s + k) with hlt | hge
    · have h1 : 2 ^ (s - 1) * 2 ^ k ≤ V * 2 ^ k := Nat.mul_le_mul_right _ b
      rw [← Nat.pow_add] at h1
      have h2 : pw 40 ≤ 2 ^ (s - 1 + k) := pw40_le (by omega)
      omega
    · exact hge
  · intro h
    have h1 : (V + 1) * 2 ^ k ≤ 2 ^ s * 2 ^ k := Nat.mul_le_mul_right _ a
    rw [← Nat.pow_add, Nat.add_mul] at h1
    have h2 : 2 ^ (s + k) ≤ pw 40 := le_pw40 h
    have h3 : 0 < 2 ^ k := Nat.pow_pos (by omega)
    omega

set_option maxHeartbeats 1600000 in
theorem left_pos {A : Option Addr} {n c : Nat} {f : Nat → Nat} {w : World} (ha : Rd w w.heap.size A n c f) (hf : Fit n f) (h0 : 0 < n) (k : Nat) (hk : k ≤ 9223372036854775807) :
    Calls Tryd.prog 68 #[.slice A n c, .int .i64 (k : Int)] w (Ans 63 w (overErr (vl f n * 2 ^ k)) (vl f n * 2 ^ k)) := by
  have cb := bad_lone ha 22
  have b0 : Below w.heap.size w (w.alloc (.cells #[.slice A n c] 22)) := (Below.refl _ w).alloc (Nat.le_refl _) _
  rw [show decide (¬ Fit n f) = false by simp [hf]] at cb
  have Cs := hid (size_any (ha.below b0) hf)
  have Cb := hid cb
  have Hb0 := hid b0
  have Hf := hid hf
  have n40 := hf.1
  have hac := ha.cap
  have ham := ha.max
  have Ha := hid ha
  have Hk := hid hk
  have hnz : (((n : Nat) : Int) == 0) = false := by simp; omega
  clear cb hf ha b0
  go_enter Tryd.func68, Tryd.ntmps68
  go_wp2_with fail
  refine Cb.out.mono ?_
  rintro e w' ⟨rfl, rfl⟩
  go_wp2_with fail
  refine Cs.out.mono ?_
  rintro e w' ⟨s, rfl, rfl, hs⟩
  have hs40 : s ≤ 1280 := by
    rcases Nat.lt_or_ge 1280 s with h | h
    · have l := vl_lt (f := f) (k := n) (fun j _ => Ha.out.lt j)
      have l2 : pw n ≤ pw 40 := pw_mono n40
      have a := hs.2 (by omega)
      have b : pw 40 ≤ 2 ^ (s - 1) := pw40_le (by omega)
      omega
    · exact h
  have hs0 : 0 < s := by
    rcases Nat.eq_zero_or_pos s with h | h
    · subst h
      have a := hs.1
      have b := vl_ge h0 (Hf.out.2 h0)
      have c := pw_pos (n - 1)
      simp at a
      omega
    · exact h
  have ho := over_size (k := k) hs hs0
  by_cases hov : s + k ≤ 1280
  · have hlt := ho.2 hov
    have he : overErr (vl f n * 2 ^ k) = 0 := if_pos hlt
    have He := hid he
    obtain ⟨q, hq⟩ : ∃ q, q = k / 32 := ⟨_, rfl⟩
    obtain ⟨p, hp⟩ : ∃ p, p = k % 32 := ⟨_, rfl⟩
    have hp32 : p < 32 := by omega
    have hq40 : q ≤ 40 := by omega
    obtain ⟨N, hN⟩ : ∃ N, N = q + n + 1 := ⟨_, rfl⟩
    have hmk : ∀ w, (Instr.makeSlice 22 (.int .i64 ((k : Int) / 32 + (n : Int) + 1)) (.int .i64 ((k : Int) / 32 + (n : Int) + 1))).run Tryd.prog w = .ok (.slice (some ⟨w.heap.size, 0, none⟩) N N) (w.alloc (.cells (madeCells #[.int .u32 0] N) 63)) := by
      intro w
      have h := make_u32 N (by omega) w
      rw [show ((N : Nat) : Int) = (k : Int) / 32 + (n : Int) + 1 by omega] at h
      exact h
    have hkq : k = 32 * q + p := by omega
    have Hkq := hid hkq
    have hN1 : q + n + 1 ≤ N := by omega
    have hN2 : N ≤ q + n + 1 := by omega
    have Hlt := hid hlt
    have Hq := hid hq
    have Hp := hid hp
    clear hs ho he hlt hkq hq hp hN
    have hk2 : k ≤ 1280 := by omega
    clear hk
    go_wp2_with fail
    refine (places_any _ _).mono ?_
    rintro e w' ⟨rfl, rfl⟩
    go_wp2_with fail
    rw [show ((k : Int) / 32) = (q : Int) by have := Hq.out; omega, show ((k : Int) % 32) = (p : Int) by have := Hp.out; omega]
    clear hmk
    go_loopw [38] (fun i wr => ∃ i' : Nat, i' ≤ n ∧ i = .int .i64 i' ∧ ∃ (z : Nat → Nat) (r : Nat), Blk wr 63 (w.heap.size + 1) N z ∧ Box wr (w.heap.size + 1 + 1) 37 (.int .u64 (r : Int)) ∧ Below w.heap.size w wr ∧
        vl z (q + i') + r * pw (q + i') = vl f i' * 2 ^ p * pw q ∧ r ≤ 4294967295 ∧ (∀ j, z j < 4294967296)) (fun i _ => n - (intOf i).toNat)
    case atStart => exact ⟨0, by omega, rfl, fun _ => 0, 0, (Blk.zeros' (by simp)).alloc _, Box.new' (by simp), (((Below.refl _ _).alloc (Nat.le_refl _) _).alloc (by simp) _).alloc (by simp; omega) _, by
        rw [vl_above (k := 0) (Nat.zero_le _) (fun _ _ _ => rfl)]; simp [vl], by omega, fun _ => (by decide : 0 < 4294967296)⟩
    case round =>
      obtain ⟨i, hi, rfl, z, r, hblk, hbox, hbel, hsum, hr, hz⟩ := hrel
      have xc := hbox.cell
      have xf := hbox.frozen
      have Hblk := hid hblk
      have Hbox := hid hbox
      have Hbel := hid hbel
      have Hsum := hid hsum
      have Hz := hid hz
      clear hblk hbox hbel hsum hz
      by_cases hin : i < n
      · obtain ⟨b, off, rfl, hbB, hc⟩ := Ha.out.at_ (by omega)
        have xa := (Hbel.out.cell (p := ⟨b, off + i, none⟩) hbB).trans (hc i hin)
        have fk := Ha.out.lt i
        have xo := Hblk.out.cell (j := q + i) (by omega)
        have xg := Hblk.out.frozen (q + i)
        clear hc
        generalize hx : f i = x at *
        generalize z (q + i) = zi at *
        have Hx := hid hx
        have hy := shl_le fk hp32
        generalize hyy : x * 2 ^ p = y at *
        have hsh : (x : Int) * 2 ^ p = (y : Int) := by rw [← hyy]; simp
        have Hy := hid hyy
        clear hx hyy
        go_wp2_with fail
        refine (place_any _ r _ _ (by omega) (by omega) xc xf).mono ?_
        rintro e w' ⟨rfl, rfl⟩
        rw [Int.toNat_natCast]
        clear hsh
        generalize hq : (y + r) / 4294967296 = q'
        generalize hm : (y + r) % 4294967296 = l
        have Hq' := hid hq
        have Hl := hid hm
        clear hq hm
        go_wp2
        go_roundw
        case rel =>
          have R := place_round (q := q') (m := l) (k := q + i) Hblk.out Hbox.out Hbel.out (by omega) (by omega) (by omega)
          have hq := Hq'.out
          have hl := Hl.out
          refine ⟨i + 1, by omega, by go_num, _, q', R.1, R.2.1, R.2.2, ?_, by omega, fun j => ?_⟩
          · have st := left_step Hsum.out
            rw [Hx.out, Hy.out, hq, hl] at st
            rw [show q + (i + 1) = q + i + 1 by omega, vl_put]
            exact st
          · show (if j = q + i then l else z j) < _
            split
            · omega
            · exact Hz.out j
        case measure => simp [intOf]; omega
      · obtain rfl : i = n := by omega
        have xo := Hblk.out.cell (j := q + i) (by omega)
        have xg := Hblk.out.frozen (q + i)
        generalize z (q + i) = zc at *
        go_wp2_with fail
        refine (place_any _ r _ _ (by omega) (by omega) xc xf).mono ?_
        rintro e w' ⟨rfl, rfl⟩
        generalize hq : ((0 : Int).toNat + r) / 4294967296 = q'
        generalize hm : ((0 : Int).toNat + r) % 4294967296 = l
        have Hl := hid hm
        clear hq hm
        go_wp2_with fail
        have R := place_round (q := q') (m := l) (k := q + i) Hblk.out Hbox.out Hbel.out (by omega) (by omega) (by omega)
        have hl : l = r := by
          have := Hl.out
          simp at this
          omega
        have eN : N = q + i + 1 := by omega
        have hV : vl (fun j => if j = q + i then l else z j) N = vl f i * 2 ^ k := by
          rw [eN, vl_put, hl, Hsum.out, pow_split Hkq.out, Nat.mul_assoc]
        have hz2 : ∀ j, (fun j => if j = q + i then l else z j) j < 4294967296 := fun j => by
          show (if j = q + i then l else z j) < _
          split
          · omega
          · exact Hz.out j
        generalize (fun j => if j = q + i then l else z j) = zz at *
        have Cc := hid (cut_any (w.heap.size + 1) N N zz _ (Nat.le_refl _) (by omega) (fun j hj => R.1.cell hj))
        have h40 := (cutLen_40 (N := N) hz2).2 (by rw [hV]; exact Hlt.out)
        have Rn := cut_num (B := w.heap.size) R.1 (by omega) hz2 h40
        rw [hV] at Rn
        have HR := hid (Ans.good Rn R.2.2)
        clear hV hz2 R Rn eN hl
        generalize cutLen zz N = kk at *
        refine Cc.out.mono ?_
        rintro e w' ⟨rfl, rfl⟩
        go_wp2
        go_ret2
        rw [He.out]
        exact HR.out
  · have he : overErr (vl f n * 2 ^ k) = 10 := if_neg (fun h => hov (ho.1 h))
    have He := hid he
    clear hs ho he
    go_wp2
    go_ret2
    rw [He.out]
    exact Ans.fail (by decide) Hb0.out

set_option maxHeartbeats 800000 in
theorem Left_any {A : Option Addr} {n c : Nat} {f : Nat → Nat} {w : World} (ha : Rd w w.heap.size A n c f) (k : Int) (hk : k ≤ 9223372036854775807) :
    Calls Tryd.prog 68 #[.slice A n c, .int .i64 k] w (Ans 63 w (leftErr n f k) (vl f n * 2 ^ k.toNat)) := by
  have cb := bad_lone ha 22
  have b0 : Below w.heap.size w (w.alloc (.cells #[.slice A n c] 22)) := (Below.refl _ w).alloc (Nat.le_refl _) _
  by_cases hf : Fit n f
  · rw [show decide (¬ Fit n f) = false by simp [hf]] at cb
    by_cases hk0 : k < 0
    · rw [show leftErr n f k = 2 by unfold leftErr; rw [if_pos hf, if_pos hk0]]
      have Cb := hid cb
      have Hb0 := hid b0
      clear cb hf ha b0 hk
      go_enter Tryd.func68, Tryd.ntmps68
      go_wp2_with fail
      refine Cb.out.mono ?_
      rintro e w' ⟨rfl, rfl⟩
      go_wp2
      go_ret2
      exact Ans.fail (by decide) Hb0.out
    · rw [show leftErr n f k = overErr (vl f n * 2 ^ k.toNat) by unfold leftErr; rw [if_pos hf, if_neg hk0]]
      obtain ⟨k, rfl⟩ := Int.eq_ofNat_of_zero_le (show 0 ≤ k by omega)
      rw [Int.toNat_natCast]
      rcases Nat.eq_zero_or_pos n with h0 | h0
      · subst h0
        have hV : vl f 0 * 2 ^ k = 0 := by simp [vl]
        rw [hV, show overErr 0 = 0 from if_pos (pw_pos 40)]
        have Cb := hid cb
        have Hb0 := hid b0
        clear cb hf ha b0 hk hV
        go_enter Tryd.func68, Tryd.ntmps68
        go_wp2_with fail
        refine Cb.out.mono ?_
        rintro e w' ⟨rfl, rfl⟩
        go_wp2
        go_ret2
        exact Ans.good (Num.zero _ _ _) Hb0.out
      · exact left_pos ha hf h0 k (by omega)
  · rw [show decide (¬ Fit n f) = true by simp [hf]] at cb
    rw [show leftErr n f k = 8 from if_neg hf]
    have Cb := hid cb
    have Hb0 := hid b0
    clear cb hf ha b0 hk
    go_enter Tryd.func68, Tryd.ntmps68
    go_wp2_with fail
    refine Cb.out.mono ?_
    rintro e w' ⟨rfl, rfl⟩
    go_wp2
    go_ret2
    exact Ans.fail (by decide) Hb0.out

end Go.Proofs.YtnhnddhigbbleaaDoor


namespace Go.Proofs.YtnhnddhigbbleaaDoor
open Go.RowKit

/-- The library's table lies in its variable, as its initialiser lays it. -/
def Tab (w : World) : Prop := ∀ j, j < 32 → w.cell? ⟨1, j, none⟩ = some (.int .u8 (Lib.deBruijn32tab.getD j 0))

theorem Tab.below {w w' : World} {B : Nat} (h : Tab w) (hb : Below B w w') (hB : 1 < B) : Tab w' :=
  fun j hj => (hb.cell (p := ⟨1, j, none⟩) hB).trans (h j hj)

theorem tz32_key (x a : Nat) (hx : x < 4294967296) (hx0 : x ≠ 0) (hlow : x &&& (4294967296 - x) = a) :
    bits BinOp.and IntKind.u32 (x : Int) (-(x : Int) % 4294967296) * 125613361 % 4294967296 / 134217728 = ((a * 125613361 % 4294967296 / 134217728 : Nat) : Int) := by
  have e1 : -(x : Int) % 4294967296 = ((4294967296 - x : Nat) : Int) := by omega
  rw [e1, u32_and_nat x _ hx (by omega), hlow]
  omega

set_option maxHeartbeats 1000000 in
theorem tz32_core (x k idx : Nat) (w : World) (hx0 : ((x : Int) == 0) = false)
    (key : bits BinOp.and IntKind.u32 (x : Int) (-(x : Int) % 4294967296) * 125613361 % 4294967296 / 134217728 = (idx : Int))
    (hi : idx < 32) (hk : k < 32) (hcell : w.cell? ⟨1, idx, none⟩ = some (.int .u8 k)) :
    Calls Tryd.prog 87 #[.int .u32 (x : Int)] w fun e w' => e = .returned (.int .i64 (k : Int)) ∧ w = w' := by
  go_enter Tryd.func87, Tryd.ntmps87
  go_wp2_with (simp only [key])
  go_ret
  exact ⟨rfl, rfl⟩

theorem tz32_any (x : Nat) (hx : x < 4294967296) (h0 : x ≠ 0) (w : World) (hT : Tab w) :
    Calls Tryd.prog 87 #[.int .u32 (x : Int)] w fun e w' => e = .returned (.int .i64 ((Lib.ctz 32 x : Nat) : Int)) ∧ w = w' := by
  obtain ⟨hlow, hk⟩ := Lib.lowest_bit 32 x h0 hx
  obtain ⟨hi, htab⟩ := Lib.deBruijn32_at _ hk
  have hcell := hT _ hi
  rw [htab] at hcell
  exact tz32_core x _ _ w (by simp; omega) (tz32_key x _ hx h0 hlow) hi hk hcell

/-- 2^k is the greatest power of two in V; k is 0, of 0. -/
def LowOf (V k : Nat) : Prop := (V = 0 ∧ k = 0) ∨ ∃ m, V = 2 ^ k * (2 * m + 1)

theorem low_vl {f : Nat → Nat} {i n : Nat} (hi : i < n) (hz : ∀ j, j < i → f j = 0) (hx : f i < 4294967296) (h0 : f i ≠ 0) : LowOf (vl f n) (i * 32 + Lib.ctz 32 (f i)) := by
  obtain ⟨L, rfl⟩ : ∃ L, n = i + (1 + L) := ⟨n - i - 1, by omega⟩
  have e0 : vl f i = 0 := by
    rw [vl_above (k := 0) (Nat.zero_le _) (fun j _ h => hz j h)]; rfl
  obtain ⟨m, hm, hc⟩ := Lib.ctzFrom_spec 32 (f i) (by omega) hx
  have e : Lib.ctz 32 (f i) = Lib.ctzFrom 32 (f i) := by simp [Lib.ctz, h0]
  rw [e]
  generalize Lib.ctzFrom 32 (f i) = c at *
  obtain ⟨d, hd⟩ : ∃ d, 32 = c + (1 + d) := ⟨31 - c, by omega⟩
  have e1 : pw 1 = 2 ^ c * (2 * 2 ^ d) := by
    rw [pw_two, show 32 * 1 = c + (1 + d) by omega, Nat.pow_add, Nat.pow_add, Nat.pow_one]
  refine .inr ⟨m + 2 ^ d * vl (fun j => f (i + (1 + j))) L, ?_⟩
  rw [vl_shift, e0, Nat.zero_add, vl_shift, e1, show vl (fun j => f (i + j)) 1 = f i by simp [vl, pw], hm, show i * 32 + c = 32 * i + c by omega, Nat.pow_add, ← pw_two, Nat.mul_assoc (pw i)]
  congr 1
  rw [Nat.mul_assoc (2 ^ c), ← Nat.mul_add]
  congr 1
  rw [Nat.mul_add, Nat.mul_assoc 2]
  omega

def LowPost (w : World) (n : Nat) (f : Nat → Nat) (e : Ending) (w' : World) : Prop :=
  Below w.heap.size w w' ∧ ∃ k : Nat, e = .returned (.tuple #[.int .i64 (k : Int), .int .i64 (chk n f)]) ∧ (Fit n f → LowOf (vl f n) k) ∧ (¬ Fit n f → k = 0)

theorem Tab.lt {w : World} (h : Tab w) : 1 < w.heap.size := block_lt_of_cell (h 0 (by omega))

set_option maxHeartbeats 800000 in
theorem Low_any {A : Option Addr} {n c : Nat} {f : Nat → Nat} {w : World} (ha : Rd w w.heap.size A n c f) (hT : Tab w) :
    Calls Tryd.prog 85 #[.slice A n c] w (LowPost w n f) := by
  have cb := bad_lone ha 22
  have b0 : Below w.heap.size w (w.alloc (.cells #[.slice A n c] 22)) := (Below.refl _ w).alloc (Nat.le_refl _) _
  by_cases hf : Fit n f
  · rw [show decide (¬ Fit n f) = false by simp [hf]] at cb
    have hT1 := hT.below b0 hT.lt
    have Cb := hid cb
    have Hb0 := hid b0
    have Hf := hid hf
    have Ha := hid ha
    have HT := hid hT1
    have n40 := hf.1
    have hac := ha.cap
    have ham := ha.max
    clear cb hf ha b0 hT hT1
    go_enter Tryd.func85, Tryd.ntmps85
    go_wp2_with fail
    refine Cb.out.mono ?_
    rintro e w' ⟨rfl, rfl⟩
    go_wp2_with fail
    go_loop [11] (fun i => ∃ k : Nat, k ≤ n ∧ i = .int .i64 k ∧ (∀ j, j < k → f j = 0)) (fun i => n - (intOf i).toNat)
    case atStart => exact ⟨0, by omega, rfl, fun j h => by omega⟩
    case round =>
      obtain ⟨k, hk, rfl, hz⟩ := hrel
      have Hz := hid hz
      clear hz
      by_cases hkn : k < n
      · obtain ⟨b, off, rfl, hbB, hc⟩ := Ha.out.at_ (by omega)
        have xa := (Hb0.out.cell (p := ⟨b, off + k, none⟩) hbB).trans (hc k hkn)
        have fk := Ha.out.lt k
        clear hc
        generalize hx : f k = x at *
        have Hx := hid hx
        clear hx
        by_cases hx0 : x = 0
        · subst hx0
          go_wp2_with fail
          go_round
          case rel => exact ⟨k + 1, by omega, by go_num, fun j hj => by
            rcases Nat.lt_or_ge j k with h | h
            · exact Hz.out j h
            · obtain rfl : j = k := by omega
              exact Hx.out⟩
          case measure => simp [intOf]; omega
        · have hne : (((x : Nat) : Int) != 0) = true := by simp; omega
          have Ct := hid (tz32_any x fk hx0 _ HT.out)
          have hl := low_vl hkn Hz.out (by rw [Hx.out]; exact fk) (by rw [Hx.out]; exact hx0)
          rw [Hx.out] at hl
          have hc32 : Lib.ctz 32 x < 32 := (Lib.lowest_bit 32 x hx0 fk).2
          generalize Lib.ctz 32 x = t at *
          have Hl := hid hl
          clear hl hx0
          go_wp2_with fail
          refine Ct.out.mono ?_
          rintro e w' ⟨rfl, rfl⟩
          go_wp2
          go_ret2
          exact ⟨Hb0.out, k * 32 + t, by rw [chk_fit Hf.out, show ((k * 32 + t : Nat) : Int) = (k : Int) * 32 + (t : Int) by omega]; rfl, fun _ => Hl.out, fun h => absurd Hf.out h⟩
      · obtain rfl : k = n := by omega
        have hV : vl f k = 0 := by
          rw [vl_above (k := 0) (Nat.zero_le _) (fun j _ h => Hz.out j h)]; rfl
        have HV := hid hV
        clear hV
        go_wp2
        go_ret2
        exact ⟨Hb0.out, 0, by rw [chk_fit Hf.out]; rfl, fun _ => .inl ⟨HV.out, rfl⟩, fun h => absurd Hf.out h⟩
  · rw [show decide (¬ Fit n f) = true by simp [hf]] at cb
    have Cb := hid cb
    have Hb0 := hid b0
    have Hf := hid hf
    clear cb hf ha b0 hT
    go_enter Tryd.func85, Tryd.ntmps85
    go_wp2_with fail
    refine Cb.out.mono ?_
    rintro e w' ⟨rfl, rfl⟩
    go_wp2
    go_ret2
    exact ⟨Hb0.out, 0, by rw [chk_bad Hf.out]; rfl, fun h => absurd h Hf.out, fun _ => rfl⟩

end Go.Proofs.YtnhnddhigbbleaaDoor

