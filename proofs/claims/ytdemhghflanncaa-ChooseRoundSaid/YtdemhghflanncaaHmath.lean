/- Choosing by draws, as lists. No program is named here. -/
import Derived.Test.YtdemhghflanncaaCmath
namespace Go.Proofs.Ytdemhghflanncaa

/-- Those that draws choose among some. -/
def chs : List De → List Nat → List De
  | _, [] => []
  | l, d :: ds => if h : l.length = 0 then [] else l[d % l.length]'(Nat.mod_lt _ (by omega)) :: chs (l.eraseIdx (d % l.length)) ds
/-- The least draws that choose the same. -/
def red : List De → List Nat → List Nat
  | _, [] => []
  | l, d :: ds => if l.length = 0 then [] else d % l.length :: red (l.eraseIdx (d % l.length)) ds
/-- The last place of a descriptor among the first n, or -1. -/
def la (d : De) (l : List De) : Nat → Int
  | 0 => -1
  | n + 1 => if l[n]? = some d then n else la d l n
/-- The draws by which just some are chosen, if they may be. -/
def drs : List De → List De → Option (List Nat)
  | _, [] => some []
  | l, d :: ds => if la d l l.length < 0 then none else (drs (l.eraseIdx (la d l l.length).toNat) ds).map ((la d l l.length).toNat :: ·)

theorem chs_none (l : List De) : chs l [] = [] := by unfold chs; rfl
theorem chs_nil : ∀ ds : List Nat, chs [] ds = []
  | [] => rfl
  | _ :: _ => rfl
theorem chs_cons {l : List De} {d : Nat} {ds : List Nat} {x : De} (h : l[d % l.length]? = some x) : chs l (d :: ds) = x :: chs (l.eraseIdx (d % l.length)) ds := by
  obtain ⟨h1, h2⟩ := List.getElem?_eq_some_iff.1 h
  have h0 : ¬ l.length = 0 := by omega
  rw [chs, dif_neg h0, h2]
theorem red_nil : ∀ ds : List Nat, red [] ds = []
  | [] => rfl
  | _ :: _ => rfl
theorem red_cons {l : List De} {d : Nat} {ds : List Nat} (h : 0 < l.length) : red l (d :: ds) = d % l.length :: red (l.eraseIdx (d % l.length)) ds := by
  rw [red, if_neg (by omega)]
theorem erase_length {l : List De} {i : Nat} (h : i < l.length) : (l.eraseIdx i).length = l.length - 1 := by rw [List.length_eraseIdx, if_pos h]
theorem pick {l : List De} (d : Nat) (h : 0 < l.length) : ∃ x, l[d % l.length]? = some x := ⟨_, List.getElem?_eq_getElem (Nat.mod_lt _ h)⟩

theorem chs_length : ∀ (ds : List Nat) (l : List De), (chs l ds).length = min ds.length l.length
  | [], l => by rw [chs_none]; simp
  | d :: ds, l => by
    rcases Nat.eq_zero_or_pos l.length with h | h
    · rw [List.length_eq_zero_iff.1 h, chs_nil]; simp
    · obtain ⟨x, hx⟩ := pick d h
      rw [chs_cons hx, List.length_cons, chs_length ds, erase_length (Nat.mod_lt _ h), List.length_cons]
      omega
theorem chs_mem : ∀ (ds : List Nat) (l : List De) (x : De), x ∈ chs l ds → x ∈ l
  | [], l, x, h => by rw [chs_none] at h; cases h
  | d :: ds, l, x, h => by
    rcases Nat.eq_zero_or_pos l.length with h0 | h0
    · rw [List.length_eq_zero_iff.1 h0, chs_nil] at h; cases h
    · obtain ⟨y, hy⟩ := pick d h0
      rw [chs_cons hy] at h
      rcases List.mem_cons.1 h with rfl | h
      · exact List.mem_of_getElem? hy
      · exact List.mem_of_mem_eraseIdx (chs_mem ds _ x h)
/-- Distinct Ids. -/
theorem ids_erase {l : List De} (h : Ids l) (i : Nat) : Ids (l.eraseIdx i) := List.Pairwise.sublist (List.eraseIdx_sublist l i) h
theorem ids_apart {l : List De} (h : Ids l) {i j : Nat} {x y : De} (hi : l[i]? = some x) (hj : l[j]? = some y) (hne : i ≠ j) : x.1 ≠ y.1 := by
  obtain ⟨h1, rfl⟩ := List.getElem?_eq_some_iff.1 hi
  obtain ⟨h2, rfl⟩ := List.getElem?_eq_some_iff.1 hj
  rcases Nat.lt_or_ge i j with h3 | h3
  · exact List.pairwise_iff_getElem.1 h i j h1 h2 h3
  · exact fun e => List.pairwise_iff_getElem.1 h j i h2 h1 (by omega) e.symm
theorem erase_apart {l : List De} (h : Ids l) {i : Nat} {x y : De} (hi : l[i]? = some x) (hy : y ∈ l.eraseIdx i) : y.1 ≠ x.1 := by
  obtain ⟨j, hj⟩ := List.mem_iff_getElem?.1 hy
  rw [List.getElem?_eraseIdx] at hj
  split at hj
  · exact fun e => ids_apart h hi hj (by omega) e.symm
  · exact fun e => ids_apart h hi hj (by omega) e.symm
theorem chs_ids : ∀ (ds : List Nat) (l : List De), Ids l → Ids (chs l ds)
  | [], l, _ => by rw [chs_none]; exact List.Pairwise.nil
  | d :: ds, l, h => by
    rcases Nat.eq_zero_or_pos l.length with h0 | h0
    · rw [List.length_eq_zero_iff.1 h0, chs_nil]; exact List.Pairwise.nil
    · obtain ⟨x, hx⟩ := pick d h0
      rw [chs_cons hx]
      exact List.Pairwise.cons (fun y hy e => erase_apart h hx (chs_mem ds _ y hy) e.symm) (chs_ids ds _ (ids_erase h _))
theorem la_of {d : De} {l : List De} (h : Ids l) {i : Nat} (hi : l[i]? = some d) : ∀ n, la d l n = if i < n then (i : Int) else -1
  | 0 => rfl
  | n + 1 => by
    rw [la]
    by_cases hn : l[n]? = some d
    · have : n = i := Decidable.byContradiction fun hne => ids_apart h hn hi hne rfl
      rw [if_pos hn, this, if_pos (by omega)]
    · rw [if_neg hn, la_of h hi n]
      have hne : n ≠ i := fun e => hn (e ▸ hi)
      by_cases h1 : i < n
      · rw [if_pos h1, if_pos (by omega)]
      · rw [if_neg h1, if_neg (by omega)]
theorem la_none {d : De} {l : List De} (h : d ∉ l) : ∀ n, la d l n = -1
  | 0 => rfl
  | n + 1 => by
    rw [la, if_neg (fun e => h (List.mem_of_getElem? e)), la_none h n]
theorem drs_chs : ∀ (ds : List Nat) (l : List De), Ids l → drs l (chs l ds) = some (red l ds)
  | [], l, _ => by rw [chs_none]; rfl
  | d :: ds, l, h => by
    rcases Nat.eq_zero_or_pos l.length with h0 | h0
    · rw [List.length_eq_zero_iff.1 h0, chs_nil, red_nil]; rfl
    · obtain ⟨x, hx⟩ := pick d h0
      have hla : la x l l.length = ((d % l.length : Nat) : Int) := by rw [la_of h hx, if_pos (Nat.mod_lt _ h0)]
      rw [chs_cons hx, red_cons h0, drs, hla, if_neg (by omega), Int.toNat_natCast, drs_chs ds _ (ids_erase h _)]
      rfl
theorem chs_red : ∀ (ds : List Nat) (l : List De), chs l (red l ds) = chs l ds
  | [], _ => rfl
  | d :: ds, l => by
    rcases Nat.eq_zero_or_pos l.length with h0 | h0
    · rw [List.length_eq_zero_iff.1 h0, red_nil, chs_nil, chs_nil]
    · obtain ⟨x, hx⟩ := pick d h0
      have hx2 : l[(d % l.length) % l.length]? = some x := by rw [Nat.mod_mod]; exact hx
      rw [red_cons h0, chs_cons hx, chs_cons hx2, Nat.mod_mod, chs_red ds]
theorem red_length : ∀ (ds : List Nat) (l : List De), (red l ds).length = min ds.length l.length
  | [], l => by simp [red]
  | d :: ds, l => by
    rcases Nat.eq_zero_or_pos l.length with h | h
    · rw [List.length_eq_zero_iff.1 h, red_nil]; simp
    · rw [red_cons h, List.length_cons, red_length ds, erase_length (Nat.mod_lt _ h), List.length_cons]
      omega
theorem red_get : ∀ (ds : List Nat) (l : List De) (i x : Nat), (red l ds)[i]? = some x → ∃ d, ds[i]? = some d ∧ x ≤ d ∧ x < l.length - i
  | [], l, i, x, h => by simp [red] at h
  | d :: ds, l, i, x, h => by
    rcases Nat.eq_zero_or_pos l.length with h0 | h0
    · rw [List.length_eq_zero_iff.1 h0, red_nil] at h; simp at h
    · rw [red_cons h0] at h
      cases i with
      | zero =>
        obtain rfl : d % l.length = x := by simpa using h
        exact ⟨d, rfl, Nat.mod_le _ _, by simpa using Nat.mod_lt _ h0⟩
      | succ i =>
        obtain ⟨e, h1, h2, h3⟩ := red_get ds _ i x (by simpa using h)
        rw [erase_length (Nat.mod_lt _ h0)] at h3
        exact ⟨e, by simpa using h1, h2, by omega⟩
theorem chs_take : ∀ (ds : List Nat) (l : List De) (k : Nat), chs l (ds.take k) = (chs l ds).take k
  | [], l, k => by simp [chs_none]
  | d :: ds, l, 0 => by simp [chs_none]
  | d :: ds, l, k + 1 => by
    rcases Nat.eq_zero_or_pos l.length with h | h
    · rw [List.length_eq_zero_iff.1 h, chs_nil, chs_nil]; rfl
    · obtain ⟨x, hx⟩ := pick d h
      rw [List.take_succ_cons, chs_cons hx, chs_cons hx, List.take_succ_cons, chs_take ds]
/-- Draws in a row. -/
def row (l : List De) (d : Nat) (n : Nat) : List De := (List.range n).filterMap fun i => l[(d + i) % l.length]?
theorem mem_row {l : List De} {d n : Nat} {x : De} : x ∈ row l d n ↔ ∃ i, i < n ∧ l[(d + i) % l.length]? = some x := by
  unfold row
  rw [List.mem_filterMap]
  constructor
  · rintro ⟨i, h1, h2⟩
    exact ⟨i, List.mem_range.1 h1, h2⟩
  · rintro ⟨i, h1, h2⟩
    exact ⟨i, List.mem_range.2 h1, h2⟩
theorem row_all {l : List De} (d : Nat) {x : De} : x ∈ row l d l.length ↔ x ∈ l := by
  rw [mem_row]
  constructor
  · rintro ⟨i, _, h⟩
    exact List.mem_of_getElem? h
  · intro h
    obtain ⟨j, hj⟩ := List.mem_iff_getElem?.1 h
    have hjl := (List.getElem?_eq_some_iff.1 hj).1
    refine ⟨(j + (l.length - d % l.length)) % l.length, Nat.mod_lt _ (by omega), ?_⟩
    have h1 : (d + (j + (l.length - d % l.length)) % l.length) % l.length = j := by
      rw [Nat.add_mod, Nat.mod_mod, ← Nat.add_mod]
      have h2 : d % l.length < l.length := Nat.mod_lt _ (by omega)
      rw [Nat.add_mod]
      have h3 := Nat.mod_add_div d l.length
      rw [← Nat.add_mod, show d + (j + (l.length - d % l.length)) = j + l.length * (d / l.length + 1) by rw [Nat.mul_add]; omega, Nat.add_mul_mod_self_left, Nat.mod_eq_of_lt hjl]
    rw [h1]
    exact hj
end Go.Proofs.Ytdemhghflanncaa
