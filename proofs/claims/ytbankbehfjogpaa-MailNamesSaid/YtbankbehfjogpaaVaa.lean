/- Plain arithmetic: numbers by limbs to the base of 2^32, the lowest first. No program is named here. -/
/- Words for slices of uint32 in memory: what is read, and what a call made of its own. No program is named here. -/
/- Contracts: the small functions of package limb: at, Check, places, anyBad. -/
/- Contracts: cut, bounded. -/
import Derived.WalkKit
import Derived.Laws.BitsAllLaws
import Derived.Laws.BitsLemmas
import Derived.WalkSpells
import Derived.WalkLawsBesides
import Derived.BigQuiet
import Derived.Deep.QuietTactic
import Derived.Laws.CopyOwn
import Derived.Deep.DeepCutAuto
import Derived.Deep.LoopGhost
import Derived.Deep.CutBlock
import Derived.Test.YtbankbehfjogpaaProg

namespace Go.Proofs.Ytbankbehfjogpaa

/-- Powers of the base. -/
def pw (k : Nat) : Nat := 4294967296 ^ k
theorem pw_zero : pw 0 = 1 := rfl
theorem pw_succ (k : Nat) : pw (k + 1) = pw k * 4294967296 := by unfold pw; rw [Nat.pow_succ]
theorem pw_pos (k : Nat) : 0 < pw k := by unfold pw; exact Nat.pow_pos (by omega)
theorem pw_add (j k : Nat) : pw (j + k) = pw j * pw k := by unfold pw; rw [Nat.pow_add]
theorem pw_mono {j k : Nat} (h : j ≤ k) : pw j ≤ pw k := by unfold pw; exact Nat.pow_le_pow_right (by omega) h
theorem pw_lt {j k : Nat} (h : j < k) : pw j < pw k := by unfold pw; exact Nat.pow_lt_pow_right (by omega) h

/-- The number of the first k limbs. -/
def vl (f : Nat → Nat) : Nat → Nat
  | 0 => 0
  | k + 1 => vl f k + f k * pw k

theorem vl_succ (f : Nat → Nat) (k : Nat) : vl f (k + 1) = vl f k + f k * pw k := rfl

theorem vl_congr {f g : Nat → Nat} : ∀ {k : Nat}, (∀ j, j < k → f j = g j) → vl f k = vl g k
  | 0, _ => rfl
  | k + 1, h => by rw [vl_succ, vl_succ, vl_congr (fun j hj => h j (by omega)), h k (by omega)]

theorem vl_lt {f : Nat → Nat} : ∀ {k : Nat}, (∀ j, j < k → f j < 4294967296) → vl f k < pw k
  | 0, _ => by simp [vl, pw]
  | k + 1, h => by
    have h1 := vl_lt (f := f) (k := k) (fun j hj => h j (by omega))
    have h2 := h k (by omega)
    have h3 : (f k + 1) * pw k ≤ 4294967296 * pw k := Nat.mul_le_mul_right _ (by omega)
    rw [vl_succ, pw_succ, Nat.mul_comm (pw k)]
    rw [Nat.add_mul] at h3
    omega

theorem vl_above {f : Nat → Nat} {k : Nat} : ∀ {m : Nat}, k ≤ m → (∀ j, k ≤ j → j < m → f j = 0) → vl f m = vl f k
  | 0, h, _ => by have : k = 0 := by omega
                  rw [this]
  | m + 1, h, hz => by
    rcases Nat.lt_or_ge m k with hlt | hge
    · have : k = m + 1 := by omega
      rw [this]
    · rw [vl_succ, hz m hge (by omega), vl_above hge (fun j h1 h2 => hz j h1 (by omega))]
      omega

theorem vl_ge {f : Nat → Nat} {k : Nat} (hk : 0 < k) (h : f (k - 1) ≠ 0) : pw (k - 1) ≤ vl f k := by
  obtain ⟨j, rfl⟩ : ∃ j, k = j + 1 := ⟨k - 1, by omega⟩
  rw [vl_succ]
  simp only [Nat.add_sub_cancel] at h ⊢
  have : 1 * pw j ≤ f j * pw j := Nat.mul_le_mul_right _ (by omega)
  omega

theorem vl_inj {f g : Nat → Nat} : ∀ {k : Nat}, (∀ j, j < k → f j < 4294967296) → (∀ j, j < k → g j < 4294967296) → vl f k = vl g k → ∀ j, j < k → f j = g j
  | 0, _, _, _ => fun j hj => by omega
  | k + 1, hf, hg, h => by
    have h1 := vl_lt (f := f) (k := k) (fun j hj => hf j (by omega))
    have h2 := vl_lt (f := g) (k := k) (fun j hj => hg j (by omega))
    rw [vl_succ, vl_succ] at h
    have e : f k = g k := by
      have a : (vl f k + f k * pw k) / pw k = f k := by
        rw [Nat.add_mul_div_right _ _ (pw_pos k), Nat.div_eq_of_lt h1]; omega
      have b : (vl g k + g k * pw k) / pw k = g k := by
        rw [Nat.add_mul_div_right _ _ (pw_pos k), Nat.div_eq_of_lt h2]; omega
      rw [← a, ← b, h]
    have e2 : vl f k = vl g k := by rw [e] at h; omega
    intro j hj
    rcases Nat.lt_or_ge j k with hlt | hge
    · exact vl_inj (fun j hj => hf j (by omega)) (fun j hj => hg j (by omega)) e2 j hlt
    · obtain rfl : j = k := by omega
      exact e

/-- Limbs that may be: 40 at most, and the last one is not 0. -/
def Fit (n : Nat) (f : Nat → Nat) : Prop := n ≤ 40 ∧ (0 < n → f (n - 1) ≠ 0)
instance (n : Nat) (f : Nat → Nat) : Decidable (Fit n f) := by unfold Fit; exact inferInstance

theorem len_of_vl {n m : Nat} {f g : Nat → Nat} (hf : ∀ j, j < n → f j < 4294967296) (hg : ∀ j, j < m → g j < 4294967296) (h1 : 0 < n → f (n - 1) ≠ 0) (h2 : 0 < m → g (m - 1) ≠ 0)
    (h : vl f n = vl g m) : n = m := by
  rcases Nat.lt_trichotomy n m with hlt | he | hgt
  · have a := vl_ge (by omega) (h2 (by omega))
    have b := vl_lt hf
    have c : pw n ≤ pw (m - 1) := pw_mono (by omega)
    omega
  · exact he
  · have a := vl_ge (by omega) (h1 (by omega))
    have b := vl_lt hg
    have c : pw m ≤ pw (n - 1) := pw_mono (by omega)
    omega

theorem same_of_vl {n m : Nat} {f g : Nat → Nat} (hf : ∀ j, f j < 4294967296) (hg : ∀ j, g j < 4294967296) (of : ∀ j, n ≤ j → f j = 0) (og : ∀ j, m ≤ j → g j = 0)
    (h1 : 0 < n → f (n - 1) ≠ 0) (h2 : 0 < m → g (m - 1) ≠ 0) (h : vl f n = vl g m) : n = m ∧ ∀ j, f j = g j := by
  have e := len_of_vl (fun j _ => hf j) (fun j _ => hg j) h1 h2 h
  subst e
  refine ⟨rfl, fun j => ?_⟩
  rcases Nat.lt_or_ge j n with hlt | hge
  · exact vl_inj (fun j _ => hf j) (fun j _ => hg j) h j hlt
  · rw [of j hge, og j hge]

theorem split_mul (s P : Nat) : s % 4294967296 * P + s / 4294967296 * (P * 4294967296) = s * P := by
  have e : s / 4294967296 * (P * 4294967296) = (4294967296 * (s / 4294967296)) * P := by
    rw [Nat.mul_comm P, ← Nat.mul_assoc, Nat.mul_comm (s / 4294967296)]
  rw [e, ← Nat.add_mul]
  congr 1
  omega

/-- One place of a sum: the limb that stays, and the carry. -/
theorem add_step {h f g : Nat → Nat} {k c : Nat} (hi : vl h k + c * pw k = vl f k + vl g k) :
    vl h k + (f k + g k + c) % 4294967296 * pw k + (f k + g k + c) / 4294967296 * pw (k + 1) = vl f (k + 1) + vl g (k + 1) := by
  have s := split_mul (f k + g k + c) (pw k)
  rw [pw_succ, vl_succ, vl_succ]
  rw [Nat.add_mul, Nat.add_mul] at s
  omega

/-- A row of limbs, one of them written anew. -/
theorem vl_put (z : Nat → Nat) (k m : Nat) : vl (fun j => if j = k then m else z j) (k + 1) = vl z k + m * pw k := by
  rw [vl_succ, vl_congr (f := fun j => if j = k then m else z j) (g := z) (fun j hj => if_neg (by omega))]
  simp

theorem vl_less {f g : Nat → Nat} {k : Nat} (hf : ∀ j, f j < 4294967296) (h : f k < g k) : ∀ {n : Nat}, k < n → (∀ j, k < j → j < n → f j = g j) → vl f n < vl g n
  | 0, hk, _ => by omega
  | n + 1, hk, he => by
    rcases Nat.lt_or_ge k n with hlt | hge
    · have := vl_less hf h hlt (fun j h1 h2 => he j h1 (by omega))
      rw [vl_succ, vl_succ, he n hlt (by omega)]
      omega
    · obtain rfl : k = n := by omega
      have a := vl_lt (f := f) (k := k) (fun j _ => hf j)
      have b : (f k + 1) * pw k ≤ g k * pw k := Nat.mul_le_mul_right _ h
      rw [Nat.add_mul] at b
      rw [vl_succ, vl_succ]
      omega

/-- How two numbers stand. -/
def cmpN (a b : Nat) : Int := if a < b then -1 else if a = b then 0 else 1
theorem cmpN_lt {a b : Nat} (h : a < b) : cmpN a b = -1 := if_pos h
theorem cmpN_eq {a b : Nat} (h : a = b) : cmpN a b = 0 := by unfold cmpN; rw [if_neg (by omega), if_pos h]
theorem cmpN_gt {a b : Nat} (h : b < a) : cmpN a b = 1 := by unfold cmpN; rw [if_neg (by omega), if_neg (by omega)]

theorem vl_len_lt {n m : Nat} {f g : Nat → Nat} (hf : ∀ j, f j < 4294967296) (h2 : 0 < m → g (m - 1) ≠ 0) (h : n < m) : vl f n < vl g m := by
  have a := vl_ge (by omega) (h2 (by omega))
  have b := vl_lt (f := f) (k := n) (fun j _ => hf j)
  have c : pw n ≤ pw (m - 1) := pw_mono (by omega)
  omega

/-- One place of a difference: the limb that stays, and the carry. -/
theorem less_step {z f g : Nat → Nat} {k r : Nat} (hg : g k < 4294967296) (hi : vl z k + r * pw k + vl g k = vl f k + pw k) :
    vl z k + (f k + (4294967295 - g k) + r) % 4294967296 * pw k + (f k + (4294967295 - g k) + r) / 4294967296 * pw (k + 1) + vl g (k + 1) = vl f (k + 1) + pw (k + 1) := by
  have s := split_mul (f k + (4294967295 - g k) + r) (pw k)
  have e : (4294967295 - g k) * pw k + g k * pw k = 4294967295 * pw k := by rw [← Nat.add_mul]; congr 1; omega
  rw [pw_succ, vl_succ, vl_succ]
  rw [Nat.add_mul, Nat.add_mul] at s
  omega

theorem xor_max (b : Nat) (hb : b < 4294967296) : 4294967295 ^^^ b = 4294967295 - b := by
  have h1 : (~~~ (BitVec.ofNat 32 b)).toNat = 4294967295 - b := by
    rw [BitVec.toNat_not, BitVec.toNat_ofNat, Nat.mod_eq_of_lt hb]
  have h2 : (~~~ (BitVec.ofNat 32 b)) = BitVec.ofNat 32 4294967295 ^^^ BitVec.ofNat 32 b := by
    rw [BitVec.not_def]; rfl
  rw [h2, BitVec.toNat_xor, BitVec.toNat_ofNat, BitVec.toNat_ofNat, Nat.mod_eq_of_lt hb] at h1
  exact h1

/-- One place of a product by one limb, put onto what stands there. -/
theorem mul_step {z z0 h : Nat → Nat} {i j r x : Nat} (hi : vl z (i + j) + r * pw (i + j) = vl z0 (i + j) + x * vl h j * pw i) :
    vl z (i + j) + (x * h j + z0 (i + j) + r) % 4294967296 * pw (i + j) + (x * h j + z0 (i + j) + r) / 4294967296 * pw (i + j + 1) = vl z0 (i + j + 1) + x * vl h (j + 1) * pw i := by
  have s := split_mul (x * h j + z0 (i + j) + r) (pw (i + j))
  rw [Nat.add_mul, Nat.add_mul] at s
  have e : x * h j * pw (i + j) = x * (h j * pw j) * pw i := by
    rw [pw_add, Nat.mul_comm (pw i), Nat.mul_assoc x (h j * pw j), Nat.mul_assoc (h j), ← Nat.mul_assoc x]
  rw [pw_succ, vl_succ, vl_succ, Nat.mul_add, Nat.add_mul]
  omega

theorem mul_row {f h z : Nat → Nat} {i m r : Nat} {V : Nat} (hV : V = vl f i * vl h m) (hi : vl z (i + m) + r * pw (i + m) = V + f i * vl h m * pw i) :
    vl z (i + m) + r * pw (i + m) = vl f (i + 1) * vl h m := by
  rw [hi, hV, vl_succ, Nat.add_mul, Nat.mul_assoc (f i), Nat.mul_comm (vl h m) (pw i), ← Nat.mul_assoc (f i)]

theorem prod_le {x y : Nat} (hx : x < 4294967296) (hy : y < 4294967296) : x * y ≤ 18446744065119617025 := by
  have h := Nat.mul_le_mul (show x ≤ 4294967295 by omega) (show y ≤ 4294967295 by omega)
  omega

theorem vl_shift (f : Nat → Nat) (q : Nat) : ∀ L, vl f (q + L) = vl f q + pw q * vl (fun j => f (q + j)) L
  | 0 => by simp [vl]
  | L + 1 => by
    rw [← Nat.add_assoc, vl_succ, vl_succ, vl_shift f q L, pw_add, Nat.mul_add, Nat.mul_left_comm (pw q), Nat.add_assoc]

theorem shift_limb {p g0 g1 : Nat} (hp : p < 32) (h0 : g0 < 4294967296) :
    2 ^ p * ((g1 * 4294967296 + g0) / 2 ^ p % 4294967296) + g0 % 2 ^ p = g0 + g1 % 2 ^ p * 4294967296 := by
  have hd : 0 < 2 ^ p := Nat.pow_pos (by omega)
  have hde : 2 ^ p * 2 ^ (32 - p) = 4294967296 := by
    rw [← Nat.pow_add, show p + (32 - p) = 32 by omega]
  generalize 2 ^ p = d at *
  generalize 2 ^ (32 - p) = e at *
  have e1 : (g1 * 4294967296 + g0) / d = g1 * e + g0 / d := by
    rw [← hde, Nat.mul_left_comm, Nat.mul_add_div hd]
  have hg := Nat.div_add_mod g1 d
  have hb := Nat.mod_lt g1 hd
  generalize g1 / d = a at *
  generalize g1 % d = b at *
  have e2 : g1 * e = 4294967296 * a + b * e := by
    rw [← hg, Nat.add_mul, ← hde, Nat.mul_assoc, Nat.mul_assoc, Nat.mul_comm a e]
  have hbe : b * e + e ≤ 4294967296 := by
    rw [← hde, ← Nat.succ_mul]
    exact Nat.mul_le_mul_right _ hb
  have hq : g0 / d < e := Nat.div_lt_of_lt_mul (by rw [hde]; exact h0)
  rw [e1, e2, Nat.add_assoc, Nat.mul_add_mod, Nat.mod_eq_of_lt (by omega), Nat.mul_add]
  have hm := Nat.div_add_mod g0 d
  have e3 : d * (b * e) = b * 4294967296 := by rw [Nat.mul_left_comm, hde]
  omega

/-- One place of a shift to the right. -/
theorem right_step {z g : Nat → Nat} {p r i : Nat} (hp : p < 32) (hg : g i < 4294967296) (hi : 2 ^ p * vl z i + r = vl g i + g i % 2 ^ p * pw i) :
    2 ^ p * (vl z i + (g (i + 1) * 4294967296 + g i) / 2 ^ p % 4294967296 * pw i) + r = vl g (i + 1) + g (i + 1) % 2 ^ p * pw (i + 1) := by
  have h := shift_limb (p := p) (g0 := g i) (g1 := g (i + 1)) hp hg
  have h2 := congrArg (· * pw i) h
  simp only [Nat.add_mul] at h2
  rw [Nat.mul_add, ← Nat.mul_assoc, vl_succ, pw_succ]
  have e : g (i + 1) % 2 ^ p * (pw i * 4294967296) = g (i + 1) % 2 ^ p * 4294967296 * pw i := by
    rw [Nat.mul_comm (pw i), Nat.mul_assoc]
  rw [e]
  omega

theorem right_end {f z : Nat → Nat} {n q p L k : Nat} (hn : q + L = n) (hk : k = 32 * q + p) (hf : ∀ j, f j < 4294967296) (h0 : f n = 0) (hi : 2 ^ p * vl z L + f q % 2 ^ p = vl (fun j => f (q + j)) L + f (q + L) % 2 ^ p * pw L) :
    vl z L = vl f n / 2 ^ k := by
  have hd : 0 < 2 ^ p := Nat.pow_pos (by omega)
  have e1 : vl f n / pw q = vl (fun j => f (q + j)) L := by
    rw [← hn, vl_shift, Nat.add_mul_div_left _ _ (pw_pos q), Nat.div_eq_of_lt (vl_lt fun j _ => hf j), Nat.zero_add]
  have e2 : (2 : Nat) ^ k = pw q * 2 ^ p := by
    rw [hk, Nat.pow_add]; unfold pw; rw [Nat.pow_mul]
  rw [hn, h0, Nat.zero_mod, Nat.zero_mul, Nat.add_zero] at hi
  rw [e2, ← Nat.div_div_eq_div_mul, e1, ← hi, Nat.mul_add_div hd, Nat.div_eq_of_lt (Nat.mod_lt _ hd), Nat.add_zero]

/-- One place of a shift to the left. -/
theorem left_step {z f : Nat → Nat} {q i r p : Nat} (hi : vl z (q + i) + r * pw (q + i) = vl f i * 2 ^ p * pw q) :
    vl z (q + i) + (f i * 2 ^ p + r) % 4294967296 * pw (q + i) + (f i * 2 ^ p + r) / 4294967296 * pw (q + i + 1) = vl f (i + 1) * 2 ^ p * pw q := by
  have s := split_mul (f i * 2 ^ p + r) (pw (q + i))
  rw [Nat.add_mul] at s
  have e : f i * 2 ^ p * pw (q + i) = f i * pw i * 2 ^ p * pw q := by
    rw [pw_add, Nat.mul_right_comm (f i) (pw i), Nat.mul_comm (pw q), Nat.mul_assoc (f i * 2 ^ p)]
  rw [pw_succ, vl_succ, Nat.add_mul, Nat.add_mul]
  omega

theorem pow_split {k q p : Nat} (hk : k = 32 * q + p) : (2 : Nat) ^ k = 2 ^ p * pw q := by
  rw [hk, Nat.pow_add, Nat.mul_comm]; unfold pw; rw [Nat.pow_mul]

theorem shl_le {x p : Nat} (hx : x < 4294967296) (hp : p < 32) : x * 2 ^ p ≤ 9223372034707292160 := by
  have h1 : (2 : Nat) ^ p ≤ 2 ^ 31 := Nat.pow_le_pow_right (by omega) (by omega)
  have h := Nat.mul_le_mul (show x ≤ 4294967295 by omega) h1
  omega

/-- One place of a doubling. -/
theorem twice_step {y z : Nat → Nat} {k c b : Nat} (hi : vl y k + c * pw k = 2 * vl z k + b) :
    vl y k + (z k * 2 + c) % 4294967296 * pw k + (z k * 2 + c) / 4294967296 * pw (k + 1) = 2 * vl z (k + 1) + b := by
  have s := split_mul (z k * 2 + c) (pw k)
  rw [Nat.add_mul, Nat.mul_right_comm] at s
  rw [pw_succ, vl_succ]
  omega

/-- A number's bit t stands in limb t / 32. -/
theorem bit_at {f : Nat → Nat} {n t : Nat} (hf : ∀ j, f j < 4294967296) (ht : t < 32 * n) : f (t / 32) / 2 ^ (t % 32) % 2 = vl f n / 2 ^ t % 2 := by
  obtain ⟨L, hL⟩ : ∃ L, n = t / 32 + (1 + L) := ⟨n - t / 32 - 1, by omega⟩
  obtain ⟨d, hd⟩ : ∃ d, 32 = t % 32 + (1 + d) := ⟨31 - t % 32, by omega⟩
  have e2 : (2 : Nat) ^ t = pw (t / 32) * 2 ^ (t % 32) := by
    rw [Nat.mul_comm, ← pow_split (k := t) (by omega)]
  have e1 : pw 1 = 2 ^ (t % 32) * (2 * 2 ^ d) := by
    have : pw 1 = 2 ^ (t % 32 + (1 + d)) := by rw [← hd]; rfl
    rw [this, Nat.pow_add, Nat.pow_add, Nat.pow_one]
  have hp : 0 < 2 ^ (t % 32) := Nat.pow_pos (by omega)
  rw [e2, ← Nat.div_div_eq_div_mul, hL, vl_shift, Nat.add_mul_div_left _ _ (pw_pos _), Nat.div_eq_of_lt (vl_lt fun j _ => hf j), Nat.zero_add, vl_shift, e1, show vl (fun j => f (t / 32 + j)) 1 = f (t / 32) by simp [vl, pw],
    Nat.mul_assoc, Nat.add_mul_div_left _ _ hp, Nat.mul_assoc 2, Nat.add_mul_mod_self_left]

/-- '(x >> p) & 1', of a limb. -/
theorem bit_u32 (x p : Nat) (hx : x < 4294967296) : bits BinOp.and IntKind.u32 ((x : Int) / 2 ^ p) 1 = ((x / 2 ^ p % 2 : Nat) : Int) := by
  have hl : x / 2 ^ p < 4294967296 := Nat.lt_of_le_of_lt (Nat.div_le_self _ _) hx
  have h := u32_and_nat (x / 2 ^ p) 1 hl (by omega)
  rw [Nat.and_one_is_mod] at h
  rw [← h]
  simp

/-- 'x | 1 << p', of a limb whose bits 0 to p are 0. -/
theorem or_bit_u32 (x p : Nat) (hp : p < 32) (hx : x < 4294967296) (hd : x % 2 ^ (p + 1) = 0) : bits BinOp.or IntKind.u32 (x : Int) ((2 ^ p : Nat) : Int) = ((x + 2 ^ p : Nat) : Int) ∧ x + 2 ^ p < 4294967296 := by
  have h1 : (2 : Nat) ^ p < 2 ^ (p + 1) := Nat.pow_lt_pow_right (by omega) (by omega)
  have h2 : (2 : Nat) ^ p ≤ 2 ^ 31 := Nat.pow_le_pow_right (by omega) (by omega)
  have h := u32_or_nat x (2 ^ p) hx (by omega)
  rw [nat_join (p + 1) x (2 ^ p) hd h1] at h
  refine ⟨h, ?_⟩
  obtain ⟨d, hd2⟩ : ∃ d, 32 = (p + 1) + d := ⟨31 - p, by omega⟩
  have hB : (4294967296 : Nat) = 2 ^ (p + 1) * 2 ^ d := by rw [← Nat.pow_add, ← hd2]
  have hm := Nat.div_add_mod x (2 ^ (p + 1))
  rw [hd, Nat.add_zero] at hm
  have hq : x / 2 ^ (p + 1) < 2 ^ d := Nat.div_lt_of_lt_mul (by rw [← hB]; exact hx)
  have hk : 2 ^ (p + 1) * (x / 2 ^ (p + 1) + 1) ≤ 2 ^ (p + 1) * 2 ^ d := Nat.mul_le_mul_left _ hq
  rw [Nat.mul_add, hm, ← hB] at hk
  omega

/-- The bits below a power that divides a number are 0 in its limbs. -/
theorem limb_low {z : Nat → Nat} {N t Q : Nat} (hz : ∀ j, z j < 4294967296) (ht : t < 32 * N) (h : vl z N = Q * 2 ^ (t + 1)) : z (t / 32) % 2 ^ (t % 32 + 1) = 0 := by
  obtain ⟨L, hL⟩ : ∃ L, N = t / 32 + (1 + L) := ⟨N - t / 32 - 1, by omega⟩
  obtain ⟨d, hd⟩ : ∃ d, 32 = t % 32 + 1 + d := ⟨31 - t % 32, by omega⟩
  have e2 : (2 : Nat) ^ (t + 1) = pw (t / 32) * 2 ^ (t % 32 + 1) := by
    rw [show t + 1 = 32 * (t / 32) + (t % 32 + 1) by omega, Nat.pow_add]; unfold pw; rw [Nat.pow_mul]
  have e1 : pw 1 = 2 ^ (t % 32 + 1) * 2 ^ d := by
    rw [← Nat.pow_add, ← hd]; rfl
  rw [hL, vl_shift, vl_shift, e2, show vl (fun j => z (t / 32 + j)) 1 = z (t / 32) by simp [vl, pw], Nat.mul_left_comm] at h
  have h3 : z (t / 32) + pw 1 * vl (fun j => z (t / 32 + (1 + j))) L = Q * 2 ^ (t % 32 + 1) := by
    have a := congrArg (· / pw (t / 32)) h
    simp only [Nat.add_mul_div_left _ _ (pw_pos _), Nat.div_eq_of_lt (vl_lt fun j _ => hz j), Nat.zero_add, Nat.mul_div_cancel_left _ (pw_pos _)] at a
    exact a
  have h4 := congrArg (· % 2 ^ (t % 32 + 1)) h3
  simp only [e1, Nat.mul_assoc, Nat.add_mul_mod_self_left, Nat.mul_mod_left] at h4
  exact h4

/-- One limb of a row grows by a power: so does the number. -/
theorem vl_grow {z : Nat → Nat} {k x : Nat} : ∀ {N : Nat}, k < N → vl (fun j => if j = k then z k + x else z j) N = vl z N + x * pw k
  | 0, h => by omega
  | N + 1, h => by
    rcases Nat.lt_or_ge k N with hlt | hge
    · rw [vl_succ, vl_succ, vl_grow hlt, if_neg (by omega)]
      omega
    · obtain rfl : k = N := by omega
      rw [vl_put, vl_succ, Nat.add_mul]
      omega

/-- '^x', of a limb. -/
theorem not_u32 (b : Nat) (hb : b < 4294967296) : bits BinOp.xor IntKind.u32 IntKind.u32.max (b : Int) = 4294967295 - (b : Int) := by
  have h := u32_xor_nat 4294967295 b (by omega) hb
  rw [xor_max b hb] at h
  rw [show IntKind.u32.max = ((4294967295 : Nat) : Int) from rfl, h]
  omega

end Go.Proofs.Ytbankbehfjogpaa


namespace Go.Proofs.Ytbankbehfjogpaa
open Go.RowKit

/-- A fact laid away from the walk. -/
theorem hid {p : Prop} (h : p) : Hid p := h

theorem drewN2 (w : World) (a b : Nat) : w.drewN (a + b) = (w.drewN a).drewN b := (World.drewN_drewN _ _ _).symm
theorem drewN3 (w : World) (a b c : Nat) : w.drewN (a + b + c) = ((w.drewN a).drewN b).drewN c := by rw [drewN2, drewN2]
theorem info_one {P : Program} {e : TypeId} {z : Value} {size bytes : Nat} (h : (P.info? e).map (fun i => (i.zero, i.size, i.bytes)) = some (some z, size, bytes)) :
    ∃ i, P.info? e = some i ∧ i.zero = some z ∧ i.size = size ∧ i.bytes = bytes := info_parts h

/-- The slice value '.slice A n c' reads, in the world w, as the limbs f 0 .. f (n - 1), below block B. -/
structure Rd (w : World) (B : Nat) (A : Option Addr) (n c : Nat) (f : Nat → Nat) : Prop where
  cap : n ≤ c
  max : n ≤ 140737488355328
  lt : ∀ j, f j < 4294967296
  out : ∀ j, n ≤ j → f j = 0
  at_ : 0 < n → ∃ b off, A = some ⟨b, off, none⟩ ∧ b < B ∧ ∀ j, j < n → w.cell? ⟨b, off + j, none⟩ = some (.int .u32 (f j : Int))

theorem Rd.below {w w' : World} {B n c : Nat} {A : Option Addr} {f : Nat → Nat} (h : Rd w B A n c f) (hb : Below B w w') : Rd w' B A n c f :=
  ⟨h.cap, h.max, h.lt, h.out, fun hn => by
    obtain ⟨b, off, rfl, hB, hc⟩ := h.at_ hn
    exact ⟨b, off, rfl, hB, fun j hj => (hb.cell (p := ⟨b, off + j, none⟩) hB).trans (hc j hj)⟩⟩
theorem Rd.mono {w : World} {B B' n c : Nat} {A : Option Addr} {f : Nat → Nat} (h : Rd w B A n c f) (hb : B ≤ B') : Rd w B' A n c f :=
  ⟨h.cap, h.max, h.lt, h.out, fun hn => by
    obtain ⟨b, off, rfl, hB, hc⟩ := h.at_ hn
    exact ⟨b, off, rfl, by omega, hc⟩⟩
theorem Rd.drewN {w : World} {B n c : Nat} {A : Option Addr} {f : Nat → Nat} (h : Rd w B A n c f) (q : Nat) : Rd (w.drewN q) B A n c f :=
  h.below (below_drewN (Below.refl _ _) q)
theorem Rd.ne {w : World} {B n c g : Nat} {A : Option Addr} {f : Nat → Nat} (h : Rd w B A n c f) (hg : B ≤ g) (hn : 0 < n) (b off : Nat) (hA : A = some ⟨b, off, none⟩) : b ≠ g := by
  obtain ⟨b', off', rfl, hB, _⟩ := h.at_ hn
  injection hA with hA
  injection hA with h1
  omega
theorem Rd.nil (w : World) (B : Nat) : Rd w B none 0 0 (fun _ => 0) :=
  ⟨Nat.le_refl _, by omega, fun _ => by show 0 < 4294967296; omega, fun _ _ => rfl, fun h => absurd h (by omega)⟩

/-- Block g is a row of n cells of type e, the numbers f 0 .. f (n - 1). -/
def Blk (w : World) (e : TypeId) (g n : Nat) (f : Nat → Nat) : Prop :=
  ∃ cs : Array Value, w.heap[g]? = some (.cells cs e (0, 0)) ∧ cs.size = n ∧ ∀ j, j < n → cs[j]? = some (.int .u32 (f j : Int))

section
variable {w w' : World} {e : TypeId} {g n : Nat} {f : Nat → Nat}
theorem lt_of_heap {o : Obj} (h : w.heap[g]? = some o) : g < w.heap.size := by
  rcases Nat.lt_or_ge g w.heap.size with hlt | hge
  · exact hlt
  · rw [Array.getElem?_eq_none hge] at h; cases h
theorem Blk.lt (h : Blk w e g n f) : g < w.heap.size := by
  obtain ⟨cs, h, _⟩ := h
  exact lt_of_heap h
theorem Blk.cell (h : Blk w e g n f) {j : Nat} (hj : j < n) : w.cell? ⟨g, j, none⟩ = some (.int .u32 (f j : Int)) := by
  obtain ⟨cs, h, _, hc⟩ := h
  rw [cell_of_row w g j cs e (0, 0) h]
  exact hc j hj
theorem Blk.frozen (h : Blk w e g n f) (j : Nat) : w.frozen? ⟨g, j, none⟩ = false := by
  obtain ⟨cs, h, _⟩ := h
  exact frozen_of_row w g j cs e h
theorem Blk.drew (h : Blk w e g n f) : Blk w.drew e g n f := h
theorem Blk.drewN (h : Blk w e g n f) (q : Nat) : Blk (w.drewN q) e g n f := h
theorem Blk.alloc (h : Blk w e g n f) (o : Obj) : Blk (w.alloc o) e g n f := by
  have hl := h.lt
  obtain ⟨cs, h, h2⟩ := h
  exact ⟨cs, (Below.heap_alloc w o g hl).trans h, h2⟩
theorem Blk.far (h : Blk w e g n f) {p : Addr} (hp : g ≠ p.block) (v : Value) : Blk (w.setCell p v) e g n f := by
  obtain ⟨cs, h, h2⟩ := h
  exact ⟨cs, (Below.heap_setCell w p v g hp).trans h, h2⟩
theorem Blk.below {B : Nat} (h : Blk w e g n f) (hb : Below B w w') (hg : g < B) : Blk w' e g n f := by
  obtain ⟨cs, h, h2⟩ := h
  exact ⟨cs, (hb.block g hg).trans h, h2⟩
theorem Blk.grown {row : Option Nat} (h : Blk w e g n f) (hb : w.grownBy w' row) (hg : some g ≠ row) : Blk w' e g n f := by
  have hl := h.lt
  obtain ⟨cs, h, h2⟩ := h
  exact ⟨cs, (hb.block g hl hg).trans h, h2⟩
theorem Blk.set (h : Blk w e g n f) (i x : Nat) : Blk (w.setCell ⟨g, i, none⟩ (.int .u32 (x : Int))) e g n (fun j => if j = i then x else f j) := by
  obtain ⟨cs, h, hs, hc⟩ := h
  refine ⟨cs.setIfInBounds i (.int .u32 (x : Int)), heap_setCell_same w g i cs e _ h, by simpa using hs, fun j hj => ?_⟩
  rw [Array.getElem?_setIfInBounds]
  by_cases hji : i = j
  · subst hji
    simp [hs, hj]
  · rw [if_neg hji]
    have hji2 : ¬ j = i := by omega
    simp only [if_neg hji2]
    exact hc j hj
theorem Blk.congr {f' : Nat → Nat} (h : Blk w e g n f) (hf : ∀ j, j < n → f j = f' j) : Blk w e g n f' := by
  obtain ⟨cs, h, hs, hc⟩ := h
  exact ⟨cs, h, hs, fun j hj => by rw [← hf j hj]; exact hc j hj⟩
theorem Blk.zeros (w : World) (e : TypeId) (n : Nat) : Blk (w.alloc (.cells (madeCells #[.int .u32 0] n) e)) e w.heap.size n (fun _ => 0) := by
  refine ⟨_, heap_alloc_new w _, by simp [madeCells], fun j hj => ?_⟩
  have h := toList_madeCells_one (.int .u32 0) n
  rw [← Array.getElem?_toList, h]
  simp [hj]

theorem Blk.rd {B : Nat} (h : Blk w e g n f) (hg : g < B) (hn : n ≤ 140737488355328) (hlt : ∀ j, f j < 4294967296) (hout : ∀ j, n ≤ j → f j = 0) : Rd w B (some ⟨g, 0, none⟩) n n f :=
  ⟨Nat.le_refl _, hn, hlt, hout, fun _ => ⟨g, 0, rfl, hg, fun j hj => by rw [Nat.zero_add]; exact h.cell hj⟩⟩

/-- Block g is one cell. -/
def Box (w : World) (g : Nat) (t : TypeId) (v : Value) : Prop := w.heap[g]? = some (.cells #[v] t (0, 0))
variable {t : TypeId} {v : Value}
theorem Box.lt (h : Box w g t v) : g < w.heap.size := lt_of_heap h
theorem Box.cell (h : Box w g t v) : w.cell? ⟨g, 0, none⟩ = some v := by
  rw [cell_of_row w g 0 #[v] t (0, 0) h]; rfl
theorem Box.frozen (h : Box w g t v) : w.frozen? ⟨g, 0, none⟩ = false := frozen_of_row w g 0 #[v] t h
theorem Box.new (w : World) (t : TypeId) (v : Value) : Box (w.alloc (.cells #[v] t)) w.heap.size t v := heap_alloc_new w _
theorem Box.new' {w : World} {t : TypeId} {v : Value} {g : Nat} (hg : g = w.heap.size) : Box (w.alloc (.cells #[v] t)) g t v := by subst hg; exact Box.new w t v
theorem Blk.zeros' {w : World} {e : TypeId} {n g : Nat} (hg : g = w.heap.size) : Blk (w.alloc (.cells (madeCells #[.int .u32 0] n) e)) e g n (fun _ => 0) := by subst hg; exact Blk.zeros w e n
theorem Box.drew (h : Box w g t v) : Box w.drew g t v := h
theorem Box.drewN (h : Box w g t v) (q : Nat) : Box (w.drewN q) g t v := h
theorem Box.alloc (h : Box w g t v) (o : Obj) : Box (w.alloc o) g t v := (Below.heap_alloc w o g h.lt).trans h
theorem Box.far (h : Box w g t v) {p : Addr} (hp : g ≠ p.block) (x : Value) : Box (w.setCell p x) g t v := (Below.heap_setCell w p x g hp).trans h
theorem Box.set (h : Box w g t v) (x : Value) : Box (w.setCell ⟨g, 0, none⟩ x) g t x := heap_setCell_same w g 0 #[v] t x h
theorem Box.below {B : Nat} (h : Box w g t v) (hb : Below B w w') (hg : g < B) : Box w' g t v := (hb.block g hg).trans h
theorem Box.grown {row : Option Nat} (h : Box w g t v) (hb : w.grownBy w' row) (hg : some g ≠ row) : Box w' g t v := (hb.block g h.lt hg).trans h
theorem Box.ne {n : Nat} {f : Nat → Nat} (h : Box w g t v) {g' : Nat} (h' : Blk w e g' n f) (hne : e ≠ t) : g' ≠ g := by
  rintro rfl
  obtain ⟨cs, h', _⟩ := h'
  unfold Box at h
  rw [h] at h'
  injection h' with h'
  injection h' with _ ht
  exact hne ht.symm
end

/-- Behind stores into a new block and into block g, 'grownBy' g still holds. -/
theorem put_grown {w wr : World} {g gb : Nat} (h : w.grownBy wr (some g)) (hgb : w.heap.size ≤ gb) (u : Value) (k : Nat) (v : Value) : w.grownBy ((wr.setCell ⟨gb, 0, none⟩ u).setCell ⟨g, k, none⟩ v) (some g) :=
  ⟨h.os, h.tape, h.output, by simpa [World.setCell] using h.size, fun i hi hne => (Below.heap_setCell _ _ _ i (by rintro rfl; exact hne rfl)).trans ((Below.heap_setCell _ _ _ i (by show i ≠ gb; omega)).trans (h.block i hi hne))⟩

/-- What one place does: the carry's box is written, and one limb of the row. -/
theorem place_round {w wr : World} {e t : TypeId} {B g gb n k q m : Nat} {z : Nat → Nat} {v : Value} (h : Blk wr e g n z) (hb : Box wr gb t v) (hl : Below B w wr) (hne : g ≠ gb) (hg : B ≤ g) (hgb : B ≤ gb) :
    Blk ((wr.setCell ⟨gb, 0, none⟩ (.int .u64 (q : Int))).setCell ⟨g, k, none⟩ (.int .u32 (m : Int))) e g n (fun j => if j = k then m else z j) ∧
      Box ((wr.setCell ⟨gb, 0, none⟩ (.int .u64 (q : Int))).setCell ⟨g, k, none⟩ (.int .u32 (m : Int))) gb t (.int .u64 (q : Int)) ∧
      Below B w ((wr.setCell ⟨gb, 0, none⟩ (.int .u64 (q : Int))).setCell ⟨g, k, none⟩ (.int .u32 (m : Int))) :=
  ⟨(h.far (p := ⟨gb, 0, none⟩) hne _).set k m, (hb.set _).far (p := ⟨g, k, none⟩) (Ne.symm hne) _, (hl.setCell (p := ⟨gb, 0, none⟩) hgb _).setCell (p := ⟨g, k, none⟩) hg _⟩

/-- The slice value '.slice A n c' is of the call's own (from block B on), and holds the limbs f. -/
structure Mk (w : World) (e : TypeId) (B : Nat) (A : Option Addr) (n c : Nat) (f : Nat → Nat) : Prop where
  cap : n ≤ c
  max : n ≤ 140737488355328
  lt : ∀ j, f j < 4294967296
  out : ∀ j, n ≤ j → f j = 0
  own : (A = none ∧ n = 0 ∧ c = 0) ∨ ∃ g cs, A = some ⟨g, 0, none⟩ ∧ B ≤ g ∧ w.heap[g]? = some (.cells cs e (0, 0)) ∧ c ≤ cs.size ∧ ∀ j, j < n → cs[j]? = some (.int .u32 (f j : Int))

theorem Mk.nil (w : World) (e : TypeId) (B : Nat) : Mk w e B none 0 0 (fun _ => 0) :=
  ⟨Nat.le_refl _, by omega, fun _ => by show 0 < 4294967296; omega, fun _ _ => rfl, .inl ⟨rfl, rfl, rfl⟩⟩
theorem Mk.rd {w : World} {e : TypeId} {B : Nat} {A : Option Addr} {n c : Nat} {f : Nat → Nat} (h : Mk w e B A n c f) : Rd w w.heap.size A n c f :=
  ⟨h.cap, h.max, h.lt, h.out, fun hn => by
    rcases h.own with ⟨_, h0, _⟩ | ⟨g, cs, hA, _, hh, _, hc⟩
    · omega
    · exact ⟨g, 0, hA, lt_of_heap hh, fun j hj => by rw [Nat.zero_add, cell_of_row w g j cs e (0, 0) hh]; exact hc j hj⟩⟩
theorem Mk.below {w w' : World} {e : TypeId} {B B' : Nat} {A : Option Addr} {n c : Nat} {f : Nat → Nat} (h : Mk w e B A n c f) (hb : Below B' w w') (hB : w.heap.size ≤ B') : Mk w' e B A n c f :=
  ⟨h.cap, h.max, h.lt, h.out, by
    rcases h.own with h0 | ⟨g, cs, hA, hg, hh, hs, hc⟩
    · exact .inl h0
    · have := lt_of_heap hh
      exact .inr ⟨g, cs, hA, hg, (hb.block g (by omega)).trans hh, hs, hc⟩⟩
theorem Mk.mono {w : World} {e : TypeId} {B B' : Nat} {A : Option Addr} {n c : Nat} {f : Nat → Nat} (h : Mk w e B A n c f) (hB : B' ≤ B) : Mk w e B' A n c f :=
  ⟨h.cap, h.max, h.lt, h.out, by
    rcases h.own with h0 | ⟨g, cs, hA, hg, hh, hs, hc⟩
    · exact .inl h0
    · exact .inr ⟨g, cs, hA, by omega, hh, hs, hc⟩⟩
theorem Mk.of_blk {w : World} {e : TypeId} {B g m n c : Nat} {f h : Nat → Nat} (hb : Blk w e g m f) (hg : B ≤ g) (hn : n ≤ c) (hc : c ≤ m) (hm : n ≤ 140737488355328) (hlt : ∀ j, h j < 4294967296) (hout : ∀ j, n ≤ j → h j = 0) (hfh : ∀ j, j < n → f j = h j) :
    Mk w e B (some ⟨g, 0, none⟩) n c h := by
  obtain ⟨cs, hh, hs, hcs⟩ := hb
  exact ⟨hn, hm, hlt, hout, .inr ⟨g, cs, rfl, hg, hh, by omega, fun j hj => by rw [← hfh j hj]; exact hcs j (by omega)⟩⟩

/-- A number's limbs, in new memory. -/
def Num (t : TypeId) (B : Nat) (w' : World) (V : Nat) (v : Value) : Prop := ∃ A k c h, v = .slice A k c ∧ Mk w' t B A k c h ∧ Fit k h ∧ vl h k = V

theorem Num.mono {t : TypeId} {B B' V : Nat} {w : World} {v : Value} (h : Num t B w V v) (hB : B' ≤ B) : Num t B' w V v := by
  obtain ⟨A, k, c, f, hv, hm, hf, hV⟩ := h
  exact ⟨A, k, c, f, hv, hm.mono hB, hf, hV⟩
theorem Num.below {t : TypeId} {B B' V : Nat} {w w' : World} {v : Value} (h : Num t B w V v) (hb : Below B' w w') (hB : w.heap.size ≤ B') : Num t B w' V v := by
  obtain ⟨A, k, c, f, hv, hm, hf, hV⟩ := h
  exact ⟨A, k, c, f, hv, hm.below hb hB, hf, hV⟩

/-- What a call that answers limbs and an error comes to. -/
def Ans (t : TypeId) (w : World) (er : Int) (V : Nat) (e : Ending) (w' : World) : Prop :=
  Below w.heap.size w w' ∧ ∃ v, e = .returned (.tuple #[v, .int .i64 er]) ∧ (er = 0 → Num t w.heap.size w' V v) ∧ (er ≠ 0 → v = .slice none 0 0)

theorem Ans.fail {t : TypeId} {w w' : World} {er : Int} {V : Nat} (h : er ≠ 0) (hb : Below w.heap.size w w') : Ans t w er V (.returned (.tuple #[.slice none 0 0, .int .i64 er])) w' :=
  ⟨hb, _, rfl, fun h0 => absurd h0 h, fun _ => rfl⟩
theorem Ans.good {t : TypeId} {w w' : World} {V : Nat} {v : Value} (hn : Num t w.heap.size w' V v) (hb : Below w.heap.size w w') : Ans t w 0 V (.returned (.tuple #[v, .int .i64 0])) w' :=
  ⟨hb, _, rfl, fun _ => hn, fun h => absurd rfl h⟩

theorem run_make_row1 {P : Program} (t e : TypeId) (i : TypeInfo) (z : Value) (ht : P.underlying t = some (.slice e)) (hi : P.info? e = some i) (hz : i.zero = some z) (hs : i.size = 1)
    (kl kc : IntKind) (n : Nat) (hbytes : i.bytes * n ≤ 281474976710656) (h63 : n ≤ 9223372036854775807) (w : World) :
    (Instr.makeSlice t (.int kl (n : Int)) (.int kc (n : Int))).run P w = .ok (.slice (some ⟨w.heap.size, 0, none⟩) n n) (w.alloc (.cells (madeCells z.cells n) e)) := by
  have hb : (i.bytes : Int) * (n : Int) ≤ 281474976710656 := by
    have h : ((i.bytes * n : Nat) : Int) ≤ 281474976710656 := by omega
    rwa [Int.natCast_mul] at h
  have hr := run_make (P := P) w t e i z ht hi hz kl kc n n (by omega) (by omega) hb (by omega)
  simp only [Int.toNat_natCast, hs, Nat.mul_one] at hr
  exact hr

/-- 'copy', from limbs into a row of the call's own that has room for them. -/
theorem wpList_copy_blk {P : Program} {w : World} {ops : Array Oper} {rest : List Oper} {o : Oper} {a : Act} {Q : Exit → Act → World → Prop} (hgd : o.guard = none) (d s : Operand) (t : TypeId)
    (ho : o.op = .call { callee := .builtin .copy, args := #[d, s], argTypes := #[t, t] }) (e : TypeId) (hu : P.underlying t = some (.slice e)) (hsz : (P.info? e).map (·.size) = some 1)
    {g n c' N k c B : Nat} {A : Option Addr} {z f : Nat → Nat} (hd : a.eval d = .slice (some ⟨g, 0, none⟩) n c') (hs : a.eval s = .slice A k c) (hb : Blk w e g N z) (hm : Mk w e B A k c f) (hk : k ≤ n) (hN : n ≤ N)
    (h : ∀ w', Hid (Blk w' e g N (fun j => if j < k then f j else z j)) → Hid (Below g w w') → wpList P ops Q rest (a.put o.dst (goInt k)) w') :
    wpList P ops Q (o :: rest) a w := by
  obtain ⟨cur, hg, hcs, hcc⟩ := hb
  have hl : ((List.range k).map (fun j => Value.int .u32 (f j : Int))).length = k := by simp
  refine wpList_copy_splice hgd d s t t ho e hu hsz (some ⟨g, 0, none⟩) A n c' k c hd hs g 0 cur.toList e (by simpa using hg) ((List.range k).map (fun j => Value.int .u32 (f j : Int))) (by rw [hl]; exact (Nat.min_eq_left hk).symm) ?_ (by simp [hcs]; omega) ?_ g w (Below.refl _ _) (Nat.le_refl _) ?_
  · intro h0
    rw [hl] at h0
    refine ⟨rfl, ?_⟩
    rcases hm.own with ⟨_, h1, _⟩ | ⟨g2, cs2, rfl, _, hh, _, hc2⟩
    · omega
    · refine ⟨_, rfl, fun j v hv => ?_⟩
      have hj : j < k := by
        rcases Nat.lt_or_ge j k with h | h
        · exact h
        · rw [List.getElem?_eq_none (by rw [hl]; exact h)] at hv; cases hv
      rw [List.getElem?_map, List.getElem?_range hj] at hv
      simp at hv
      subst hv
      have : (⟨g2, 0, none⟩ : Addr).add j = ⟨g2, j, none⟩ := by unfold Addr.add; split <;> simp_all
      rw [this, cell_of_row w g2 j cs2 e (0, 0) hh]
      exact hc2 j hj
  · intro v hv
    simp at hv
    obtain ⟨j, _, rfl⟩ := hv
    rfl
  · intro w' hrow hbel
    have hrow := hrow.out
    rw [hl]
    refine h w' (show Blk _ _ _ _ _ from ⟨_, hrow, by simp [splice, hcs]; omega, fun j hj => ?_⟩) hbel
    simp only [splice, List.take_zero, List.nil_append, Nat.zero_add, List.getElem?_toArray, hl]
    by_cases hjk : j < k
    · rw [List.getElem?_append_left (by rw [hl]; exact hjk), List.getElem?_map, List.getElem?_range hjk, if_pos hjk]
      rfl
    · rw [List.getElem?_append_right (by rw [hl]; omega), hl, List.getElem?_drop, if_neg hjk, show k + (j - k) = j by omega, Array.getElem?_toList]
      exact hcc j hj

end Go.Proofs.Ytbankbehfjogpaa


namespace Go.Proofs.Ytbankbehfjogpaa
set_option maxRecDepth 100000
open Go.RowKit

/-- Check's number. -/
def chk (n : Nat) (f : Nat → Nat) : Int := if Fit n f then 0 else 8
theorem chk_fit {n : Nat} {f : Nat → Nat} (h : Fit n f) : chk n f = 0 := if_pos h
theorem chk_bad {n : Nat} {f : Nat → Nat} (h : ¬ Fit n f) : chk n f = 8 := if_neg h

set_option maxHeartbeats 400000 in
theorem check_long (A : Option Addr) (n c : Nat) (w : World) (hn : 40 < n) (_hc : n ≤ c) (_hm : n ≤ 140737488355328) :
    Calls Try.prog 79 #[.slice A n c] w fun e w' => e = .returned (.int .i64 8) ∧ w = w' := by
  go_enter Try.func79, Try.ntmps79
  go_wp2
  go_ret
  exact ⟨rfl, rfl⟩

set_option maxHeartbeats 400000 in
theorem check_nil (A : Option Addr) (c : Nat) (w : World) :
    Calls Try.prog 79 #[.slice A 0 c] w fun e w' => e = .returned (.int .i64 0) ∧ w = w' := by
  go_enter Try.func79, Try.ntmps79
  go_wp2
  go_ret
  exact ⟨rfl, rfl⟩

set_option maxHeartbeats 400000 in
theorem check_zero (b off n c : Nat) (w : World) (h0 : 0 < n) (hn : n ≤ 40) (_hc : n ≤ c) (_hm : n ≤ 140737488355328) (hx : w.cell? ⟨b, off + (n - 1), none⟩ = some (.int .u32 0)) :
    Calls Try.prog 79 #[.slice (some ⟨b, off, none⟩) n c] w fun e w' => e = .returned (.int .i64 8) ∧ w = w' := by
  go_enter Try.func79, Try.ntmps79
  go_wp2
  go_ret
  exact ⟨rfl, rfl⟩

set_option maxHeartbeats 400000 in
theorem check_last (b off n c x : Nat) (w : World) (h0 : 0 < n) (hn : n ≤ 40) (_hc : n ≤ c) (_hm : n ≤ 140737488355328) (hx : w.cell? ⟨b, off + (n - 1), none⟩ = some (.int .u32 (x : Int))) (h1 : 0 < x) :
    Calls Try.prog 79 #[.slice (some ⟨b, off, none⟩) n c] w fun e w' => e = .returned (.int .i64 0) ∧ w = w' := by
  have hx0 : (((x : Nat) : Int) == 0) = false := by simp; omega
  go_enter Try.func79, Try.ntmps79
  go_wp2
  go_ret
  exact ⟨rfl, rfl⟩

theorem check_any {B : Nat} {A : Option Addr} {n c : Nat} {f : Nat → Nat} {w : World} (h : Rd w B A n c f) :
    Calls Try.prog 79 #[.slice A n c] w fun e w' => e = .returned (.int .i64 (chk n f)) ∧ w = w' := by
  by_cases hf : Fit n f
  · rw [chk_fit hf]
    obtain ⟨h1, h2⟩ := hf
    rcases Nat.eq_zero_or_pos n with h0 | h0
    · subst h0
      exact check_nil A c w
    · obtain ⟨b, off, rfl, _, hc⟩ := h.at_ h0
      exact check_last b off n c _ w h0 h1 h.cap h.max (hc (n - 1) (by omega)) (Nat.pos_of_ne_zero (h2 h0))
  · rw [chk_bad hf]
    by_cases h1 : n ≤ 40
    · have h0 : 0 < n := by
        rcases Nat.eq_zero_or_pos n with h0 | h0
        · exact absurd ⟨h1, fun h => absurd h (by omega)⟩ hf
        · exact h0
      obtain ⟨b, off, rfl, _, hc⟩ := h.at_ h0
      have hz : f (n - 1) = 0 := by
        rcases Nat.eq_zero_or_pos (f (n - 1)) with hz | hz
        · exact hz
        · exact absurd ⟨h1, fun _ => by omega⟩ hf
      have := hc (n - 1) (by omega)
      rw [hz] at this
      exact check_zero b off n c w h0 h1 h.cap h.max this
    · exact check_long A n c w (by omega) h.cap h.max

end Go.Proofs.Ytbankbehfjogpaa


namespace Go.Proofs.Ytbankbehfjogpaa
set_option maxRecDepth 100000
open Go.RowKit

/-- How many limbs are left of n, without those that are 0 at the end. -/
def cutLen (f : Nat → Nat) : Nat → Nat
  | 0 => 0
  | n + 1 => if f n = 0 then cutLen f n else n + 1
theorem cutLen_le (f : Nat → Nat) : ∀ n, cutLen f n ≤ n
  | 0 => Nat.le_refl _
  | n + 1 => by unfold cutLen; split <;> have := cutLen_le f n <;> omega
theorem cutLen_last (f : Nat → Nat) : ∀ n, 0 < cutLen f n → f (cutLen f n - 1) ≠ 0
  | 0, h => by simp [cutLen] at h
  | n + 1, h => by
    unfold cutLen at h ⊢
    by_cases hz : f n = 0
    · rw [if_pos hz] at h ⊢
      exact cutLen_last f n h
    · rw [if_neg hz]
      simpa using hz
theorem cutLen_zero (f : Nat → Nat) : ∀ n j, cutLen f n ≤ j → j < n → f j = 0
  | 0, j, _, h => by omega
  | n + 1, j, h1, h2 => by
    unfold cutLen at h1
    by_cases hz : f n = 0
    · rw [if_pos hz] at h1
      rcases Nat.lt_or_ge j n with h | h
      · exact cutLen_zero f n j h1 h
      · obtain rfl : j = n := by omega
        exact hz
    · rw [if_neg hz] at h1
      omega
theorem cutLen_vl (f : Nat → Nat) (n : Nat) : vl f n = vl f (cutLen f n) := vl_above (cutLen_le f n) (fun j h1 h2 => cutLen_zero f n j h1 h2)

set_option maxHeartbeats 800000 in
theorem cut_any (g n c : Nat) (f : Nat → Nat) (w : World) (hn : n ≤ c) (hm : n ≤ 140737488355328) (h : ∀ j, j < n → w.cell? ⟨g, j, none⟩ = some (.int .u32 (f j : Int))) :
    Calls Try.prog 37 #[.slice (some ⟨g, 0, none⟩) n c] w fun e w' => e = .returned (.slice (some ⟨g, 0, none⟩) (cutLen f n) (cutLen f n)) ∧ w = w' := by
  go_enter Try.func37, Try.ntmps37
  go_wp2
  go_loop [3] (fun i => ∃ k : Nat, k ≤ n ∧ i = .int .i64 k ∧ cutLen f n = cutLen f k) (fun i => (intOf i).toNat)
  case atStart => exact ⟨n, Nat.le_refl _, rfl, rfl⟩
  case round =>
    obtain ⟨k, hk, rfl, hcl⟩ := hrel
    have Hcl := hid hcl
    clear hcl
    rcases Nat.eq_zero_or_pos k with h0 | h0
    · subst h0
      go_wp2
      go_ret
      exact ⟨by rw [Hcl.out]; rfl, rfl⟩
    · obtain ⟨j, rfl⟩ : ∃ j, k = j + 1 := ⟨k - 1, by omega⟩
      have cj := h j (by omega)
      by_cases hz : f j = 0
      · rw [hz] at cj
        have Hz := hid hz
        clear hz h
        go_wp2
        go_round
        case rel => exact ⟨j, by omega, by go_num, Hcl.out.trans (if_pos Hz.out)⟩
        case measure => simp [intOf]
      · have hz2 : (((f j : Nat) : Int) == 0) = false := by simp; omega
        have Hz := hid hz
        clear hz h
        go_wp2
        go_ret
        exact ⟨by rw [Hcl.out.trans (if_neg Hz.out)]; rfl, rfl⟩

/-- cut, where what came in is a block of the call's own, or nothing at all. -/
theorem cut_nil (c : Nat) (w : World) (_hm : c ≤ 140737488355328) :
    Calls Try.prog 37 #[.slice none 0 c] w fun e w' => e = .returned (.slice none 0 0) ∧ w = w' := by
  go_enter Try.func37, Try.ntmps37
  go_wp2
  refine wp_loop_rounds 1 ?_
  rw [rounds_succ]
  go_wp2
  go_ret
  exact ⟨rfl, rfl⟩

/-- The limbs f 0 .. f (k - 1), and 0 above. -/
def trim (k : Nat) (f : Nat → Nat) (j : Nat) : Nat := if j < k then f j else 0
theorem trim_in {k j : Nat} {f : Nat → Nat} (h : j < k) : trim k f j = f j := if_pos h
theorem trim_out {k j : Nat} {f : Nat → Nat} (h : k ≤ j) : trim k f j = 0 := if_neg (by omega)
theorem trim_lt {k : Nat} {f : Nat → Nat} (h : ∀ j, j < k → f j < 4294967296) (j : Nat) : trim k f j < 4294967296 := by
  unfold trim
  split
  · exact h j ‹_›
  · omega

/-- What is left of a row of the call's own, cut, is a number. -/
theorem cut_num {w : World} {e : TypeId} {B g N : Nat} {z : Nat → Nat} (h : Blk w e g N z) (hg : B ≤ g) (hz : ∀ j, z j < 4294967296) (h40 : cutLen z N ≤ 40) :
    Num e B w (vl z N) (.slice (some ⟨g, 0, none⟩) (cutLen z N) (cutLen z N)) := by
  have hle := cutLen_le z N
  refine ⟨_, _, _, trim (cutLen z N) z, rfl, Mk.of_blk h hg (Nat.le_refl _) hle (by omega) (trim_lt fun j _ => hz j) (fun j hj => trim_out hj) (fun j hj => (trim_in hj).symm), ⟨h40, fun hp => ?_⟩, ?_⟩
  · rw [trim_in (by omega)]
    exact cutLen_last z N hp
  · rw [cutLen_vl z N]
    exact vl_congr fun j hj => trim_in hj

theorem cutLen_40 {z : Nat → Nat} {N : Nat} (hz : ∀ j, z j < 4294967296) : cutLen z N ≤ 40 ↔ vl z N < pw 40 := by
  rw [cutLen_vl z N]
  constructor
  · intro h
    have a := vl_lt (f := z) (k := cutLen z N) (fun j _ => hz j)
    have b := pw_mono h
    omega
  · intro h
    rcases Nat.lt_or_ge 40 (cutLen z N) with hlt | hge
    · have a := vl_ge (f := z) (k := cutLen z N) (by omega) (cutLen_last z N (by omega))
      have b : pw 40 ≤ pw (cutLen z N - 1) := pw_mono (by omega)
      omega
    · exact hge

/-- The error of a number that is told in limbs. -/
def overErr (V : Nat) : Int := if V < pw 40 then 0 else 10

end Go.Proofs.Ytbankbehfjogpaa

