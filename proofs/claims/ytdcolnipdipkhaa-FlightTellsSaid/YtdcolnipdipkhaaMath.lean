/- Plain arithmetic: numbers by limbs to the base of 2^32, the lowest first. No program is named here. -/
import Derived.WalkKit
import Derived.Laws.BitsAllLaws
import Derived.Laws.BitsLemmas
namespace Go.Proofs.Ytdcolnipdipkhaa

/-- Powers of the base. -/
def pw (k : Nat) : Nat := 4294967296 ^ k
theorem pw_zero : pw 0 = 1 := rfl
theorem pw_succ (k : Nat) : pw (k + 1) = pw k * 4294967296 := by unfold pw; rw [Nat.pow_succ]
theorem pw_pos (k : Nat) : 0 < pw k := by unfold pw; exact Nat.pow_pos (by omega)
theorem pw_add (j k : Nat) : pw (j + k) = pw j * pw k := by unfold pw; rw [Nat.pow_add]
theorem pw_mono {j k : Nat} (h : j ≤ k) : pw j ≤ pw k := by unfold pw; exact Nat.pow_le_pow_right (by omega) h
theorem pw_lt {j k : Nat} (h : j < k) : pw j < pw k := by unfold pw; exact Nat.pow_lt_pow_right (by omega) h

/-- The number of the first k limbs. -/
def vl (f : Nat → Nat) : Nat → Nat
  | 0 => 0
  | k + 1 => vl f k + f k * pw k

theorem vl_succ (f : Nat → Nat) (k : Nat) : vl f (k + 1) = vl f k + f k * pw k := rfl

theorem vl_congr {f g : Nat → Nat} : ∀ {k : Nat}, (∀ j, j < k → f j = g j) → vl f k = vl g k
  | 0, _ => rfl
  | k + 1, h => by rw [vl_succ, vl_succ, vl_congr (fun j hj => h j (by omega)), h k (by omega)]

theorem vl_lt {f : Nat → Nat} : ∀ {k : Nat}, (∀ j, j < k → f j < 4294967296) → vl f k < pw k
  | 0, _ => by simp [vl, pw]
  | k + 1, h => by
    have h1 := vl_lt (f := f) (k := k) (fun j hj => h j (by omega))
    have h2 := h k (by omega)
    have h3 : (f k + 1) * pw k ≤ 4294967296 * pw k := Nat.mul_le_mul_right _ (by omega)
    rw [vl_succ, pw_succ, Nat.mul_comm (pw k)]
    rw [Nat.add_mul] at h3
    omega

theorem vl_above {f : Nat → Nat} {k : Nat} : ∀ {m : Nat}, k ≤ m → (∀ j, k ≤ j → j < m → f j = 0) → vl f m = vl f k
  | 0, h, _ => by have : k = 0 := by omega
                  rw [this]
  | m + 1, h, hz => by
    rcases Nat.lt_or_ge m k with hlt | hge
    · have : k = m + 1 := by omega
      rw [this]
    · rw [vl_succ, hz m hge (by omega), vl_above hge (fun j h1 h2 => hz j h1 (by omega))]
      omega

theorem vl_ge {f : Nat → Nat} {k : Nat} (hk : 0 < k) (h : f (k - 1) ≠ 0) : pw (k - 1) ≤ vl f k := by
  obtain ⟨j, rfl⟩ : ∃ j, k = j + 1 := ⟨k - 1, by omega⟩
  rw [vl_succ]
  simp only [Nat.add_sub_cancel] at h ⊢
  have : 1 * pw j ≤ f j * pw j := Nat.mul_le_mul_right _ (by omega)
  omega

theorem vl_inj {f g : Nat → Nat} : ∀ {k : Nat}, (∀ j, j < k → f j < 4294967296) → (∀ j, j < k → g j < 4294967296) → vl f k = vl g k → ∀ j, j < k → f j = g j
  | 0, _, _, _ => fun j hj => by omega
  | k + 1, hf, hg, h => by
    have h1 := vl_lt (f := f) (k := k) (fun j hj => hf j (by omega))
    have h2 := vl_lt (f := g) (k := k) (fun j hj => hg j (by omega))
    rw [vl_succ, vl_succ] at h
    have e : f k = g k := by
      have a : (vl f k + f k * pw k) / pw k = f k := by
        rw [Nat.add_mul_div_right _ _ (pw_pos k), Nat.div_eq_of_lt h1]; omega
      have b : (vl g k + g k * pw k) / pw k = g k := by
        rw [Nat.add_mul_div_right _ _ (pw_pos k), Nat.div_eq_of_lt h2]; omega
      rw [← a, ← b, h]
    have e2 : vl f k = vl g k := by rw [e] at h; omega
    intro j hj
    rcases Nat.lt_or_ge j k with hlt | hge
    · exact vl_inj (fun j hj => hf j (by omega)) (fun j hj => hg j (by omega)) e2 j hlt
    · obtain rfl : j = k := by omega
      exact e

/-- Limbs that may be: 40 at most, and the last one is not 0. -/
def Fit (n : Nat) (f : Nat → Nat) : Prop := n ≤ 40 ∧ (0 < n → f (n - 1) ≠ 0)
instance (n : Nat) (f : Nat → Nat) : Decidable (Fit n f) := by unfold Fit; exact inferInstance

theorem len_of_vl {n m : Nat} {f g : Nat → Nat} (hf : ∀ j, j < n → f j < 4294967296) (hg : ∀ j, j < m → g j < 4294967296) (h1 : 0 < n → f (n - 1) ≠ 0) (h2 : 0 < m → g (m - 1) ≠ 0)
    (h : vl f n = vl g m) : n = m := by
  rcases Nat.lt_trichotomy n m with hlt | he | hgt
  · have a := vl_ge (by omega) (h2 (by omega))
    have b := vl_lt hf
    have c : pw n ≤ pw (m - 1) := pw_mono (by omega)
    omega
  · exact he
  · have a := vl_ge (by omega) (h1 (by omega))
    have b := vl_lt hg
    have c : pw m ≤ pw (n - 1) := pw_mono (by omega)
    omega

theorem same_of_vl {n m : Nat} {f g : Nat → Nat} (hf : ∀ j, f j < 4294967296) (hg : ∀ j, g j < 4294967296) (of : ∀ j, n ≤ j → f j = 0) (og : ∀ j, m ≤ j → g j = 0)
    (h1 : 0 < n → f (n - 1) ≠ 0) (h2 : 0 < m → g (m - 1) ≠ 0) (h : vl f n = vl g m) : n = m ∧ ∀ j, f j = g j := by
  have e := len_of_vl (fun j _ => hf j) (fun j _ => hg j) h1 h2 h
  subst e
  refine ⟨rfl, fun j => ?_⟩
  rcases Nat.lt_or_ge j n with hlt | hge
  · exact vl_inj (fun j _ => hf j) (fun j _ => hg j) h j hlt
  · rw [of j hge, og j hge]

theorem split_mul (s P : Nat) : s % 4294967296 * P + s / 4294967296 * (P * 4294967296) = s * P := by
  have e : s / 4294967296 * (P * 4294967296) = (4294967296 * (s / 4294967296)) * P := by
    rw [Nat.mul_comm P, ← Nat.mul_assoc, Nat.mul_comm (s / 4294967296)]
  rw [e, ← Nat.add_mul]
  congr 1
  omega

/-- One place of a sum: the limb that stays, and the carry. -/
theorem add_step {h f g : Nat → Nat} {k c : Nat} (hi : vl h k + c * pw k = vl f k + vl g k) :
    vl h k + (f k + g k + c) % 4294967296 * pw k + (f k + g k + c) / 4294967296 * pw (k + 1) = vl f (k + 1) + vl g (k + 1) := by
  have s := split_mul (f k + g k + c) (pw k)
  rw [pw_succ, vl_succ, vl_succ]
  rw [Nat.add_mul, Nat.add_mul] at s
  omega

/-- A row of limbs, one of them written anew. -/
theorem vl_put (z : Nat → Nat) (k m : Nat) : vl (fun j => if j = k then m else z j) (k + 1) = vl z k + m * pw k := by
  rw [vl_succ, vl_congr (f := fun j => if j = k then m else z j) (g := z) (fun j hj => if_neg (by omega))]
  simp

theorem vl_less {f g : Nat → Nat} {k : Nat} (hf : ∀ j, f j < 4294967296) (h : f k < g k) : ∀ {n : Nat}, k < n → (∀ j, k < j → j < n → f j = g j) → vl f n < vl g n
  | 0, hk, _ => by omega
  | n + 1, hk, he => by
    rcases Nat.lt_or_ge k n with hlt | hge
    · have := vl_less hf h hlt (fun j h1 h2 => he j h1 (by omega))
      rw [vl_succ, vl_succ, he n hlt (by omega)]
      omega
    · obtain rfl : k = n := by omega
      have a := vl_lt (f := f) (k := k) (fun j _ => hf j)
      have b : (f k + 1) * pw k ≤ g k * pw k := Nat.mul_le_mul_right _ h
      rw [Nat.add_mul] at b
      rw [vl_succ, vl_succ]
      omega

/-- How two numbers stand. -/
def cmpN (a b : Nat) : Int := if a < b then -1 else if a = b then 0 else 1
theorem cmpN_lt {a b : Nat} (h : a < b) : cmpN a b = -1 := if_pos h
theorem cmpN_eq {a b : Nat} (h : a = b) : cmpN a b = 0 := by unfold cmpN; rw [if_neg (by omega), if_pos h]
theorem cmpN_gt {a b : Nat} (h : b < a) : cmpN a b = 1 := by unfold cmpN; rw [if_neg (by omega), if_neg (by omega)]

theorem vl_len_lt {n m : Nat} {f g : Nat → Nat} (hf : ∀ j, f j < 4294967296) (h2 : 0 < m → g (m - 1) ≠ 0) (h : n < m) : vl f n < vl g m := by
  have a := vl_ge (by omega) (h2 (by omega))
  have b := vl_lt (f := f) (k := n) (fun j _ => hf j)
  have c : pw n ≤ pw (m - 1) := pw_mono (by omega)
  omega

/-- One place of a difference: the limb that stays, and the carry. -/
theorem less_step {z f g : Nat → Nat} {k r : Nat} (hg : g k < 4294967296) (hi : vl z k + r * pw k + vl g k = vl f k + pw k) :
    vl z k + (f k + (4294967295 - g k) + r) % 4294967296 * pw k + (f k + (4294967295 - g k) + r) / 4294967296 * pw (k + 1) + vl g (k + 1) = vl f (k + 1) + pw (k + 1) := by
  have s := split_mul (f k + (4294967295 - g k) + r) (pw k)
  have e : (4294967295 - g k) * pw k + g k * pw k = 4294967295 * pw k := by rw [← Nat.add_mul]; congr 1; omega
  rw [pw_succ, vl_succ, vl_succ]
  rw [Nat.add_mul, Nat.add_mul] at s
  omega

theorem xor_max (b : Nat) (hb : b < 4294967296) : 4294967295 ^^^ b = 4294967295 - b := by
  have h1 : (~~~ (BitVec.ofNat 32 b)).toNat = 4294967295 - b := by
    rw [BitVec.toNat_not, BitVec.toNat_ofNat, Nat.mod_eq_of_lt hb]
  have h2 : (~~~ (BitVec.ofNat 32 b)) = BitVec.ofNat 32 4294967295 ^^^ BitVec.ofNat 32 b := by
    rw [BitVec.not_def]; rfl
  rw [h2, BitVec.toNat_xor, BitVec.toNat_ofNat, BitVec.toNat_ofNat, Nat.mod_eq_of_lt hb] at h1
  exact h1

/-- One place of a product by one limb, put onto what stands there. -/
theorem mul_step {z z0 h : Nat → Nat} {i j r x : Nat} (hi : vl z (i + j) + r * pw (i + j) = vl z0 (i + j) + x * vl h j * pw i) :
    vl z (i + j) + (x * h j + z0 (i + j) + r) % 4294967296 * pw (i + j) + (x * h j + z0 (i + j) + r) / 4294967296 * pw (i + j + 1) = vl z0 (i + j + 1) + x * vl h (j + 1) * pw i := by
  have s := split_mul (x * h j + z0 (i + j) + r) (pw (i + j))
  rw [Nat.add_mul, Nat.add_mul] at s
  have e : x * h j * pw (i + j) = x * (h j * pw j) * pw i := by
    rw [pw_add, Nat.mul_comm (pw i), Nat.mul_assoc x (h j * pw j), Nat.mul_assoc (h j), ← Nat.mul_assoc x]
  rw [pw_succ, vl_succ, vl_succ, Nat.mul_add, Nat.add_mul]
  omega

theorem mul_row {f h z : Nat → Nat} {i m r : Nat} {V : Nat} (hV : V = vl f i * vl h m) (hi : vl z (i + m) + r * pw (i + m) = V + f i * vl h m * pw i) :
    vl z (i + m) + r * pw (i + m) = vl f (i + 1) * vl h m := by
  rw [hi, hV, vl_succ, Nat.add_mul, Nat.mul_assoc (f i), Nat.mul_comm (vl h m) (pw i), ← Nat.mul_assoc (f i)]

theorem prod_le {x y : Nat} (hx : x < 4294967296) (hy : y < 4294967296) : x * y ≤ 18446744065119617025 := by
  have h := Nat.mul_le_mul (show x ≤ 4294967295 by omega) (show y ≤ 4294967295 by omega)
  omega

theorem vl_shift (f : Nat → Nat) (q : Nat) : ∀ L, vl f (q + L) = vl f q + pw q * vl (fun j => f (q + j)) L
  | 0 => by simp [vl]
  | L + 1 => by
    rw [← Nat.add_assoc, vl_succ, vl_succ, vl_shift f q L, pw_add, Nat.mul_add, Nat.mul_left_comm (pw q), Nat.add_assoc]

theorem shift_limb {p g0 g1 : Nat} (hp : p < 32) (h0 : g0 < 4294967296) :
    2 ^ p * ((g1 * 4294967296 + g0) / 2 ^ p % 4294967296) + g0 % 2 ^ p = g0 + g1 % 2 ^ p * 4294967296 := by
  have hd : 0 < 2 ^ p := Nat.pow_pos (by omega)
  have hde : 2 ^ p * 2 ^ (32 - p) = 4294967296 := by
    rw [← Nat.pow_add, show p + (32 - p) = 32 by omega]
  generalize 2 ^ p = d at *
  generalize 2 ^ (32 - p) = e at *
  have e1 : (g1 * 4294967296 + g0) / d = g1 * e + g0 / d := by
    rw [← hde, Nat.mul_left_comm, Nat.mul_add_div hd]
  have hg := Nat.div_add_mod g1 d
  have hb := Nat.mod_lt g1 hd
  generalize g1 / d = a at *
  generalize g1 % d = b at *
  have e2 : g1 * e = 4294967296 * a + b * e := by
    rw [← hg, Nat.add_mul, ← hde, Nat.mul_assoc, Nat.mul_assoc, Nat.mul_comm a e]
  have hbe : b * e + e ≤ 4294967296 := by
    rw [← hde, ← Nat.succ_mul]
    exact Nat.mul_le_mul_right _ hb
  have hq : g0 / d < e := Nat.div_lt_of_lt_mul (by rw [hde]; exact h0)
  rw [e1, e2, Nat.add_assoc, Nat.mul_add_mod, Nat.mod_eq_of_lt (by omega), Nat.mul_add]
  have hm := Nat.div_add_mod g0 d
  have e3 : d * (b * e) = b * 4294967296 := by rw [Nat.mul_left_comm, hde]
  omega

/-- One place of a shift to the right. -/
theorem right_step {z g : Nat → Nat} {p r i : Nat} (hp : p < 32) (hg : g i < 4294967296) (hi : 2 ^ p * vl z i + r = vl g i + g i % 2 ^ p * pw i) :
    2 ^ p * (vl z i + (g (i + 1) * 4294967296 + g i) / 2 ^ p % 4294967296 * pw i) + r = vl g (i + 1) + g (i + 1) % 2 ^ p * pw (i + 1) := by
  have h := shift_limb (p := p) (g0 := g i) (g1 := g (i + 1)) hp hg
  have h2 := congrArg (· * pw i) h
  simp only [Nat.add_mul] at h2
  rw [Nat.mul_add, ← Nat.mul_assoc, vl_succ, pw_succ]
  have e : g (i + 1) % 2 ^ p * (pw i * 4294967296) = g (i + 1) % 2 ^ p * 4294967296 * pw i := by
    rw [Nat.mul_comm (pw i), Nat.mul_assoc]
  rw [e]
  omega

theorem right_end {f z : Nat → Nat} {n q p L k : Nat} (hn : q + L = n) (hk : k = 32 * q + p) (hf : ∀ j, f j < 4294967296) (h0 : f n = 0) (hi : 2 ^ p * vl z L + f q % 2 ^ p = vl (fun j => f (q + j)) L + f (q + L) % 2 ^ p * pw L) :
    vl z L = vl f n / 2 ^ k := by
  have hd : 0 < 2 ^ p := Nat.pow_pos (by omega)
  have e1 : vl f n / pw q = vl (fun j => f (q + j)) L := by
    rw [← hn, vl_shift, Nat.add_mul_div_left _ _ (pw_pos q), Nat.div_eq_of_lt (vl_lt fun j _ => hf j), Nat.zero_add]
  have e2 : (2 : Nat) ^ k = pw q * 2 ^ p := by
    rw [hk, Nat.pow_add]; unfold pw; rw [Nat.pow_mul]
  rw [hn, h0, Nat.zero_mod, Nat.zero_mul, Nat.add_zero] at hi
  rw [e2, ← Nat.div_div_eq_div_mul, e1, ← hi, Nat.mul_add_div hd, Nat.div_eq_of_lt (Nat.mod_lt _ hd), Nat.add_zero]

/-- One place of a shift to the left. -/
theorem left_step {z f : Nat → Nat} {q i r p : Nat} (hi : vl z (q + i) + r * pw (q + i) = vl f i * 2 ^ p * pw q) :
    vl z (q + i) + (f i * 2 ^ p + r) % 4294967296 * pw (q + i) + (f i * 2 ^ p + r) / 4294967296 * pw (q + i + 1) = vl f (i + 1) * 2 ^ p * pw q := by
  have s := split_mul (f i * 2 ^ p + r) (pw (q + i))
  rw [Nat.add_mul] at s
  have e : f i * 2 ^ p * pw (q + i) = f i * pw i * 2 ^ p * pw q := by
    rw [pw_add, Nat.mul_right_comm (f i) (pw i), Nat.mul_comm (pw q), Nat.mul_assoc (f i * 2 ^ p)]
  rw [pw_succ, vl_succ, Nat.add_mul, Nat.add_mul]
  omega

theorem pow_split {k q p : Nat} (hk : k = 32 * q + p) : (2 : Nat) ^ k = 2 ^ p * pw q := by
  rw [hk, Nat.pow_add, Nat.mul_comm]; unfold pw; rw [Nat.pow_mul]

theorem shl_le {x p : Nat} (hx : x < 4294967296) (hp : p < 32) : x * 2 ^ p ≤ 9223372034707292160 := by
  have h1 : (2 : Nat) ^ p ≤ 2 ^ 31 := Nat.pow_le_pow_right (by omega) (by omega)
  have h := Nat.mul_le_mul (show x ≤ 4294967295 by omega) h1
  omega

/-- One place of a doubling. -/
theorem twice_step {y z : Nat → Nat} {k c b : Nat} (hi : vl y k + c * pw k = 2 * vl z k + b) :
    vl y k + (z k * 2 + c) % 4294967296 * pw k + (z k * 2 + c) / 4294967296 * pw (k + 1) = 2 * vl z (k + 1) + b := by
  have s := split_mul (z k * 2 + c) (pw k)
  rw [Nat.add_mul, Nat.mul_right_comm] at s
  rw [pw_succ, vl_succ]
  omega

/-- A number's bit t stands in limb t / 32. -/
theorem bit_at {f : Nat → Nat} {n t : Nat} (hf : ∀ j, f j < 4294967296) (ht : t < 32 * n) : f (t / 32) / 2 ^ (t % 32) % 2 = vl f n / 2 ^ t % 2 := by
  obtain ⟨L, hL⟩ : ∃ L, n = t / 32 + (1 + L) := ⟨n - t / 32 - 1, by omega⟩
  obtain ⟨d, hd⟩ : ∃ d, 32 = t % 32 + (1 + d) := ⟨31 - t % 32, by omega⟩
  have e2 : (2 : Nat) ^ t = pw (t / 32) * 2 ^ (t % 32) := by
    rw [Nat.mul_comm, ← pow_split (k := t) (by omega)]
  have e1 : pw 1 = 2 ^ (t % 32) * (2 * 2 ^ d) := by
    have : pw 1 = 2 ^ (t % 32 + (1 + d)) := by rw [← hd]; rfl
    rw [this, Nat.pow_add, Nat.pow_add, Nat.pow_one]
  have hp : 0 < 2 ^ (t % 32) := Nat.pow_pos (by omega)
  rw [e2, ← Nat.div_div_eq_div_mul, hL, vl_shift, Nat.add_mul_div_left _ _ (pw_pos _), Nat.div_eq_of_lt (vl_lt fun j _ => hf j), Nat.zero_add, vl_shift, e1, show vl (fun j => f (t / 32 + j)) 1 = f (t / 32) by simp [vl, pw],
    Nat.mul_assoc, Nat.add_mul_div_left _ _ hp, Nat.mul_assoc 2, Nat.add_mul_mod_self_left]

/-- '(x >> p) & 1', of a limb. -/
theorem bit_u32 (x p : Nat) (hx : x < 4294967296) : bits BinOp.and IntKind.u32 ((x : Int) / 2 ^ p) 1 = ((x / 2 ^ p % 2 : Nat) : Int) := by
  have hl : x / 2 ^ p < 4294967296 := Nat.lt_of_le_of_lt (Nat.div_le_self _ _) hx
  have h := u32_and_nat (x / 2 ^ p) 1 hl (by omega)
  rw [Nat.and_one_is_mod] at h
  rw [← h]
  simp

/-- 'x | 1 << p', of a limb whose bits 0 to p are 0. -/
theorem or_bit_u32 (x p : Nat) (hp : p < 32) (hx : x < 4294967296) (hd : x % 2 ^ (p + 1) = 0) : bits BinOp.or IntKind.u32 (x : Int) ((2 ^ p : Nat) : Int) = ((x + 2 ^ p : Nat) : Int) ∧ x + 2 ^ p < 4294967296 := by
  have h1 : (2 : Nat) ^ p < 2 ^ (p + 1) := Nat.pow_lt_pow_right (by omega) (by omega)
  have h2 : (2 : Nat) ^ p ≤ 2 ^ 31 := Nat.pow_le_pow_right (by omega) (by omega)
  have h := u32_or_nat x (2 ^ p) hx (by omega)
  rw [nat_join (p + 1) x (2 ^ p) hd h1] at h
  refine ⟨h, ?_⟩
  obtain ⟨d, hd2⟩ : ∃ d, 32 = (p + 1) + d := ⟨31 - p, by omega⟩
  have hB : (4294967296 : Nat) = 2 ^ (p + 1) * 2 ^ d := by rw [← Nat.pow_add, ← hd2]
  have hm := Nat.div_add_mod x (2 ^ (p + 1))
  rw [hd, Nat.add_zero] at hm
  have hq : x / 2 ^ (p + 1) < 2 ^ d := Nat.div_lt_of_lt_mul (by rw [← hB]; exact hx)
  have hk : 2 ^ (p + 1) * (x / 2 ^ (p + 1) + 1) ≤ 2 ^ (p + 1) * 2 ^ d := Nat.mul_le_mul_left _ hq
  rw [Nat.mul_add, hm, ← hB] at hk
  omega

/-- The bits below a power that divides a number are 0 in its limbs. -/
theorem limb_low {z : Nat → Nat} {N t Q : Nat} (hz : ∀ j, z j < 4294967296) (ht : t < 32 * N) (h : vl z N = Q * 2 ^ (t + 1)) : z (t / 32) % 2 ^ (t % 32 + 1) = 0 := by
  obtain ⟨L, hL⟩ : ∃ L, N = t / 32 + (1 + L) := ⟨N - t / 32 - 1, by omega⟩
  obtain ⟨d, hd⟩ : ∃ d, 32 = t % 32 + 1 + d := ⟨31 - t % 32, by omega⟩
  have e2 : (2 : Nat) ^ (t + 1) = pw (t / 32) * 2 ^ (t % 32 + 1) := by
    rw [show t + 1 = 32 * (t / 32) + (t % 32 + 1) by omega, Nat.pow_add]; unfold pw; rw [Nat.pow_mul]
  have e1 : pw 1 = 2 ^ (t % 32 + 1) * 2 ^ d := by
    rw [← Nat.pow_add, ← hd]; rfl
  rw [hL, vl_shift, vl_shift, e2, show vl (fun j => z (t / 32 + j)) 1 = z (t / 32) by simp [vl, pw], Nat.mul_left_comm] at h
  have h3 : z (t / 32) + pw 1 * vl (fun j => z (t / 32 + (1 + j))) L = Q * 2 ^ (t % 32 + 1) := by
    have a := congrArg (· / pw (t / 32)) h
    simp only [Nat.add_mul_div_left _ _ (pw_pos _), Nat.div_eq_of_lt (vl_lt fun j _ => hz j), Nat.zero_add, Nat.mul_div_cancel_left _ (pw_pos _)] at a
    exact a
  have h4 := congrArg (· % 2 ^ (t % 32 + 1)) h3
  simp only [e1, Nat.mul_assoc, Nat.add_mul_mod_self_left, Nat.mul_mod_left] at h4
  exact h4

/-- One limb of a row grows by a power: so does the number. -/
theorem vl_grow {z : Nat → Nat} {k x : Nat} : ∀ {N : Nat}, k < N → vl (fun j => if j = k then z k + x else z j) N = vl z N + x * pw k
  | 0, h => by omega
  | N + 1, h => by
    rcases Nat.lt_or_ge k N with hlt | hge
    · rw [vl_succ, vl_succ, vl_grow hlt, if_neg (by omega)]
      omega
    · obtain rfl : k = N := by omega
      rw [vl_put, vl_succ, Nat.add_mul]
      omega

/-- '^x', of a limb. -/
theorem not_u32 (b : Nat) (hb : b < 4294967296) : bits BinOp.xor IntKind.u32 IntKind.u32.max (b : Int) = 4294967295 - (b : Int) := by
  have h := u32_xor_nat 4294967295 b (by omega) hb
  rw [xor_max b hb] at h
  rw [show IntKind.u32.max = ((4294967295 : Nat) : Int) from rfl, h]
  omega

end Go.Proofs.Ytdcolnipdipkhaa
