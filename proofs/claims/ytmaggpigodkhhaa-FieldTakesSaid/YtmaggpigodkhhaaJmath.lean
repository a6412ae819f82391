/- Package field: numbers and dyads as bytes, the highest digit first. No code is walked here. -/
import Derived.Test.YtmaggpigodkhhaaCrc
import Derived.Test.YtmaggpigodkhhaaMath
namespace Go.Proofs.Ytmaggpigodkhhaa

/-- A number's digits to the base of 256, the highest first. -/
def be (V k : Nat) : List Nat := (bys V k).reverse
/-- The number of such digits. -/
def bn (xs : List Nat) : Nat := nm xs.reverse
theorem be_length (V k : Nat) : (be V k).length = k := by simp [be, bys_length]
theorem be_lt {V k x : Nat} (h : x ∈ be V k) : x < 256 := bys_lt (List.mem_reverse.1 h)
theorem bn_be {V k : Nat} (h : V < 256 ^ k) : bn (be V k) = V := by
  unfold bn be
  rw [List.reverse_reverse, nm_bys h]
theorem nm_bys_mod : ∀ (k V : Nat), nm (bys V k) = V % 256 ^ k
  | 0, V => by show 0 = _; rw [Nat.pow_zero, Nat.mod_one]
  | k + 1, V => by
    show V % 256 + 256 * nm (bys (V / 256) k) = _
    rw [nm_bys_mod k, Nat.pow_succ, Nat.mul_comm (256 ^ k), Nat.mod_mul]
theorem bn_be_mod (V k : Nat) : bn (be V k) = V % 256 ^ k := by
  unfold bn be
  rw [List.reverse_reverse, nm_bys_mod]
theorem be_bn {xs : List Nat} (h : ∀ x ∈ xs, x < 256) : be (bn xs) xs.length = xs := by
  have e := bys_nm (xs := xs.reverse) (fun x hx => h x (List.mem_reverse.1 hx))
  rw [List.length_reverse] at e
  unfold be bn
  rw [e, List.reverse_reverse]
theorem bn_snoc (xs : List Nat) (x : Nat) : bn (xs ++ [x]) = 256 * bn xs + x := by
  unfold bn
  rw [List.reverse_append]
  show x + 256 * nm xs.reverse = _
  omega
theorem bn_lt {xs : List Nat} (h : ∀ x ∈ xs, x < 256) : bn xs < 256 ^ xs.length := by
  have e := nm_lt (xs := xs.reverse) (fun x hx => h x (List.mem_reverse.1 hx))
  rwa [List.length_reverse] at e
theorem bn_take {xs : List Nat} {k x : Nat} (h : xs[k]? = some x) : bn (xs.take (k + 1)) = 256 * bn (xs.take k) + x := by
  rw [List.take_add_one, h]
  exact bn_snoc _ _
theorem bn_nil : bn [] = 0 := rfl
theorem be_at {V k j : Nat} (h : j < k) : (be V k)[j]? = some (V / 256 ^ (k - 1 - j) % 256) := by
  unfold be
  rw [List.getElem?_reverse (by rw [bys_length]; exact h), bys_length, bys_at (by omega)]
theorem be_take {V k j : Nat} (h : j < k) : (be V k).take (j + 1) = (be V k).take j ++ [V / 256 ^ (k - 1 - j) % 256] := by
  rw [List.take_add_one, be_at h]
  rfl
theorem be_all (V k : Nat) : (be V k).take k = be V k := List.take_of_length_le (by rw [be_length]; exact Nat.le_refl _)

/-- The fields of n limbs. -/
def lms (f : Nat → Nat) : Nat → List Nat
  | 0 => []
  | n + 1 => lms f n ++ be (f n) 4
theorem lms_length (f : Nat → Nat) : ∀ n, (lms f n).length = 4 * n
  | 0 => rfl
  | n + 1 => by
    show (lms f n ++ be (f n) 4).length = _
    rw [List.length_append, lms_length f n, be_length]
    omega
theorem lms_lt {f : Nat → Nat} {x : Nat} : ∀ {n : Nat}, x ∈ lms f n → x < 256
  | 0, h => (by cases h)
  | n + 1, h => by
    rcases List.mem_append.1 h with h | h
    · exact lms_lt h
    · exact be_lt h
theorem lms_congr {f h : Nat → Nat} : ∀ {n : Nat}, (∀ j, j < n → f j = h j) → lms f n = lms h n
  | 0, _ => rfl
  | n + 1, e => by
    show lms f n ++ be (f n) 4 = lms h n ++ be (h n) 4
    rw [lms_congr (fun j hj => e j (by omega)), e n (by omega)]
/-- A dyad's field. -/
def dtx (s : Bool) (n : Nat) (f : Nat → Nat) (x : Nat) : List Nat := be (if s then 1 else 0) 1 ++ be x 2 ++ be n 1 ++ lms f n
theorem dtx_length (s : Bool) (n : Nat) (f : Nat → Nat) (x : Nat) : (dtx s n f x).length = 4 + 4 * n := by
  unfold dtx
  simp only [List.length_append, be_length, lms_length]
theorem dtx_lt {s : Bool} {n x y : Nat} {f : Nat → Nat} (h : y ∈ dtx s n f x) : y < 256 := by
  unfold dtx at h
  rcases List.mem_append.1 h with h | h
  · rcases List.mem_append.1 h with h | h
    · rcases List.mem_append.1 h with h | h
      · exact be_lt h
      · exact be_lt h
    · exact be_lt h
  · exact lms_lt h

/-- The limb j of n that the bytes ys tell. -/
def lof (ys : List Nat) (n j : Nat) : Nat := if j < n then bn ((ys.drop (4 * j)).take 4) else 0
theorem take_mem {ys : List Nat} {i k y : Nat} (h : ∀ x ∈ ys, x < 256) (hy : y ∈ (ys.drop i).take k) : y < 256 := h y (List.mem_of_mem_drop (List.mem_of_mem_take hy))
theorem lof_lt {ys : List Nat} {n : Nat} (h : ∀ x ∈ ys, x < 256) (j : Nat) : lof ys n j < 4294967296 := by
  unfold lof
  split
  · have a := bn_lt (xs := (ys.drop (4 * j)).take 4) (fun x hx => take_mem h hx)
    have b : (256 : Nat) ^ ((ys.drop (4 * j)).take 4).length ≤ 256 ^ 4 := Nat.pow_le_pow_right (by omega) (by rw [List.length_take]; omega)
    have c : (256 : Nat) ^ 4 = 4294967296 := by decide
    omega
  · omega
theorem lof_out {ys : List Nat} {n j : Nat} (h : n ≤ j) : lof ys n j = 0 := if_neg (by omega)
theorem lms_part {f : Nat → Nat} {j : Nat} : ∀ {n : Nat}, j < n → ((lms f n).drop (4 * j)).take 4 = be (f j) 4
  | 0, h => absurd h (Nat.not_lt_zero _)
  | n + 1, h => by
    show ((lms f n ++ be (f n) 4).drop (4 * j)).take 4 = _
    have hl := lms_length f n
    rcases Nat.lt_or_ge j n with h1 | h1
    · rw [List.drop_append_of_le_length (by omega), List.take_append_of_le_length (by rw [List.length_drop]; omega)]
      exact lms_part h1
    · obtain rfl : j = n := by omega
      rw [← hl, List.drop_left, List.take_of_length_le (by rw [be_length]; exact Nat.le_refl _)]
theorem lof_lms {f : Nat → Nat} {n : Nat} (rest : List Nat) (hf : ∀ j, f j < 4294967296) (ho : ∀ j, n ≤ j → f j = 0) (j : Nat) : lof (lms f n ++ rest) n j = f j := by
  rcases Nat.lt_or_ge j n with h | h
  · unfold lof
    rw [if_pos h, List.drop_append_of_le_length (by rw [lms_length]; omega), List.take_append_of_le_length (by rw [List.length_drop, lms_length]; omega), lms_part h]
    exact bn_be (Nat.lt_of_lt_of_le (hf j) (by decide))
  · rw [lof_out h, ho j h]
theorem lms_lof {ys : List Nat} (h : ∀ x ∈ ys, x < 256) : ∀ {n m : Nat}, n ≤ m → 4 * m ≤ ys.length → lms (lof ys m) n = ys.take (4 * n)
  | 0, _, _, _ => rfl
  | n + 1, m, h1, h2 => by
    show lms (lof ys m) n ++ be (lof ys m n) 4 = _
    rw [lms_lof h (by omega) h2]
    unfold lof
    rw [if_pos (by omega)]
    have e := be_bn (xs := (ys.drop (4 * n)).take 4) (fun x hx => take_mem h hx)
    rw [show ((ys.drop (4 * n)).take 4).length = 4 by rw [List.length_take, List.length_drop]; omega] at e
    rw [e, show 4 * (n + 1) = 4 * n + 4 by omega, List.take_add]

end Go.Proofs.Ytmaggpigodkhhaa
