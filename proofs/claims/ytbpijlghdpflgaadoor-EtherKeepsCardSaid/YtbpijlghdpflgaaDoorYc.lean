/- Bytes and copies in memory: what is read, and what a call made of its own. -/
import Derived.Test.YtbpijlghdpflgaaDoorGs
import Derived.Test.YtbpijlghdpflgaaDoorYnm
import Derived.Laws.BytesArg
namespace Go.Proofs.YtbpijlghdpflgaaDoor
open Go.RowKit Go.Shelf Go.Lib

/-- The cells of bytes. -/
def cellsB (t : List Nat) : List Value := t.map fun (b : Nat) => .int .u8 (b : Int)
theorem cellsB_length (t : List Nat) : (cellsB t).length = t.length := by unfold cellsB; exact List.length_map _
theorem cellsB_append (t s : List Nat) : cellsB (t ++ s) = cellsB t ++ cellsB s := by unfold cellsB; exact List.map_append
theorem cellsB_get {t : List Nat} {j b : Nat} (h : t[j]? = some b) : (cellsB t)[j]? = some (.int .u8 (b : Int)) := by
  unfold cellsB
  rw [List.getElem?_map, h]
  rfl
theorem cellsB_one (t : List Nat) : ∀ v ∈ cellsB t, v.oneCell' = true := by
  intro v hv
  obtain ⟨d, _, rfl⟩ := List.mem_map.1 hv
  rfl
section
variable {w w' : World} {B n c : Nat} {A : Option Addr} {t : List Nat}
theorem Gs.blen (h : Gs w B A n c 1 (cellsB t)) : t.length = n := by have := h.len; rw [cellsB_length] at this; omega
theorem Gs.bget (h : Gs w B A n c 1 (cellsB t)) {q : Nat} (hq : q < n) : ∃ d, t[q]? = some d := ⟨t[q]'(by rw [h.blen]; exact hq), List.getElem?_eq_getElem _⟩
theorem Gs.bcell {b off : Nat} (h : Gs w B (some ⟨b, off, none⟩) n c 1 (cellsB t)) {q : Nat} {d : Nat} (hq : t[q]? = some d) : w.cell? ⟨b, off + q, none⟩ = some (.int .u8 (d : Int)) := by
  have := h.cells q _ (cellsB_get hq)
  rwa [Addr.add_lit] at this
theorem Gs.bat (h : Gs w B A n c 1 (cellsB t)) (hn : 0 < n) : ∃ b off, A = some ⟨b, off, none⟩ ∧ b < B ∧ ∀ (j : Nat) (d : Nat), t[j]? = some d → w.cell? ⟨b, off + j, none⟩ = some (.int .u8 (d : Int)) := by
  obtain ⟨b, off, rfl, hb, _⟩ := h.at_ hn
  exact ⟨b, off, rfl, hb, fun j d hj => h.bcell hj⟩
end
/-- Bytes as a string. -/
def strB (xs : List Nat) : ByteArray := ⟨(xs.map fun x => UInt8.ofNat x).toArray⟩
theorem strB_size (xs : List Nat) : (strB xs).size = xs.length := by simp [strB, ByteArray.size]
theorem strB_inj {xs ys : List Nat} (hx : ∀ b ∈ xs, b < 256) (hy : ∀ b ∈ ys, b < 256) : strB xs = strB ys ↔ xs = ys := by
  constructor
  · intro h
    have h1 : xs.map (fun x => UInt8.ofNat x) = ys.map (fun x => UInt8.ofNat x) := by
      have := congrArg (fun b => b.data.toList) h
      simpa [strB] using this
    have h2 := congrArg (List.map UInt8.toNat) h1
    rw [List.map_map, List.map_map] at h2
    rw [show xs.map (UInt8.toNat ∘ fun x => UInt8.ofNat x) = xs from (List.map_congr_left (g := id) fun b hb => by simp [Nat.mod_eq_of_lt (hx b hb)]).trans (List.map_id _),
      show ys.map (UInt8.toNat ∘ fun x => UInt8.ofNat x) = ys from (List.map_congr_left (g := id) fun b hb => by simp [Nat.mod_eq_of_lt (hy b hb)]).trans (List.map_id _)] at h2
    exact h2
  · rintro rfl
    rfl
namespace Eth
/-- A copy as it lies. -/
abbrev Cr := Int × Int × (Option Addr × Nat × Nat) × Bool
/-- Its four cells. -/
def encC (r : Cr) : List Value := [.int .i64 r.1, .int .i64 r.2.1, .slice r.2.2.1.1 r.2.2.1.2.1 r.2.2.1.2.2, .bool r.2.2.2]
/-- Its value. -/
def cvC (r : Cr) : Value := .agg #[.int .i64 r.1, .int .i64 r.2.1, .slice r.2.2.1.1 r.2.2.1.2.1 r.2.2.1.2.2, .bool r.2.2.2]
/-- A copy as it lies reads as a copy, its text below block B. -/
structure Crd (w : World) (B : Nat) (r : Cr) (p : Cp) : Prop where
  num : r.1 = p.1
  to_ : r.2.1 = p.2.1
  sp : r.2.2.2 = p.2.2.2
  txt : Gs w B r.2.2.1.1 r.2.2.1.2.1 r.2.2.1.2.2 1 (cellsB p.2.2.1)
  fit : ∀ b ∈ p.2.2.1, b < 256
section
variable {w w' : World} {B : Nat} {r : Cr} {p : Cp}
theorem Crd.below (h : Crd w B r p) (hb : Below B w w') : Crd w' B r p := ⟨h.num, h.to_, h.sp, h.txt.below hb, h.fit⟩
theorem Crd.mono {C : Nat} (h : Crd w B r p) (hb : B ≤ C) : Crd w C r p := ⟨h.num, h.to_, h.sp, h.txt.mono hb, h.fit⟩
theorem Crd.on (h : Crd w B r p) (hB : B ≤ w.heap.size) (hb : Below w.heap.size w w') : Crd w' w'.heap.size r p := ((h.mono hB).below hb).mono hb.size
/-- Written out. -/
theorem Crd.out (h : Crd w B r p) : ∃ (x y : Int) (A : Option Addr) (n c : Nat) (t : List Nat) (s : Bool), r = (x, y, (A, n, c), s) ∧ p = (x, y, t, s) ∧ Gs w B A n c 1 (cellsB t) ∧ ∀ b ∈ t, b < 256 := by
  obtain ⟨x, y, ⟨A, n, c⟩, s⟩ := r
  obtain ⟨x', y', t, s'⟩ := p
  obtain ⟨h1, h2, h3, h4, h5⟩ := h
  simp only at h1 h2 h3
  subst h1 h2 h3
  exact ⟨_, _, _, _, _, _, _, rfl, rfl, h4, h5⟩
theorem Crd.in_ {x y : Int} {A : Option Addr} {n c : Nat} {t : List Nat} {s : Bool} (h : Gs w B A n c 1 (cellsB t)) (hf : ∀ b ∈ t, b < 256) : Crd w B (x, y, (A, n, c), s) (x, y, t, s) := ⟨rfl, rfl, rfl, h, hf⟩
end
/-- The cells of copies. -/
def cellsC (l : List Cr) : List Value := l.flatMap encC
theorem cellsC_length : ∀ l : List Cr, (cellsC l).length = l.length * 4
  | [] => rfl
  | d :: l => by
    have := cellsC_length l
    unfold cellsC at *
    rw [List.flatMap_cons, List.length_append, this, List.length_cons]
    show 4 + _ = _
    omega
theorem cellsC_append (l m : List Cr) : cellsC (l ++ m) = cellsC l ++ cellsC m := List.flatMap_append
theorem cellsC_cons (d : Cr) (l : List Cr) : cellsC (d :: l) = encC d ++ cellsC l := List.flatMap_cons
theorem cellsC_get : ∀ {l : List Cr} {j : Nat} {r : Cr}, l[j]? = some r → ∀ i v, (encC r)[i]? = some v → (cellsC l)[j * 4 + i]? = some v
  | [], _, _, h, _, _, _ => by simp at h
  | x :: l, 0, r, h, i, v, hv => by
    obtain rfl : x = r := by simpa using h
    have hi : i < 4 := (List.getElem?_eq_some_iff.1 hv).1
    rw [cellsC_cons, Nat.zero_mul, Nat.zero_add, List.getElem?_append_left hi]
    exact hv
  | x :: l, j + 1, r, h, i, v, hv => by
    have := cellsC_get (l := l) (j := j) (r := r) (by simpa using h) i v hv
    rw [cellsC_cons]
    have e : (j + 1) * 4 + i = (j * 4 + i) + 4 := by omega
    rw [e]
    exact this
theorem cellsC_take (l : List Cr) (k : Nat) : (cellsC l).take (k * 4) = cellsC (l.take k) := by
  rcases Nat.le_total k l.length with h | h
  · have h1 : cellsC l = cellsC (l.take k) ++ cellsC (l.drop k) := by rw [← cellsC_append, List.take_append_drop]
    rw [h1, List.take_append_of_le_length (by rw [cellsC_length, List.length_take]; omega), List.take_of_length_le (by rw [cellsC_length, List.length_take]; omega)]
  · rw [List.take_of_length_le h, List.take_of_length_le (by rw [cellsC_length]; omega)]
theorem cellsC_drop (l : List Cr) (k : Nat) : (cellsC l).drop (k * 4) = cellsC (l.drop k) := by
  rcases Nat.le_total k l.length with h | h
  · have h1 : cellsC l = cellsC (l.take k) ++ cellsC (l.drop k) := by rw [← cellsC_append, List.take_append_drop]
    rw [h1, List.drop_append_of_le_length (by rw [cellsC_length, List.length_take]; omega), List.drop_of_length_le (by rw [cellsC_length, List.length_take]; omega), List.nil_append]
  · rw [List.drop_of_length_le h, List.drop_of_length_le (by rw [cellsC_length]; omega)]
    rfl
theorem cellsC_one (l : List Cr) : ∀ v ∈ cellsC l, v.oneCell' = true := by
  intro v hv
  obtain ⟨d, _, h⟩ := List.mem_flatMap.1 hv
  simp [encC] at h
  rcases h with rfl | rfl | rfl | rfl <;> rfl
/-- Rows of copies as they lie, and what they read as. -/
def Pair (w : World) (B : Nat) (rs : List Cr) (l : List Cp) : Prop := rs.length = l.length ∧ ∀ (j : Nat) (r : Cr) (p : Cp), rs[j]? = some r → l[j]? = some p → Crd w B r p
section
variable {w w' : World} {B : Nat} {rs : List Cr} {l : List Cp}
theorem Pair.nil (w : World) (B : Nat) : Pair w B [] [] := ⟨rfl, by simp⟩
theorem Pair.below (h : Pair w B rs l) (hb : Below B w w') : Pair w' B rs l := ⟨h.1, fun j r p h1 h2 => (h.2 j r p h1 h2).below hb⟩
theorem Pair.mono {C : Nat} (h : Pair w B rs l) (hb : B ≤ C) : Pair w C rs l := ⟨h.1, fun j r p h1 h2 => (h.2 j r p h1 h2).mono hb⟩
theorem Pair.snoc {r : Cr} {p : Cp} (h : Pair w B rs l) (k : Crd w B r p) : Pair w B (rs ++ [r]) (l ++ [p]) := by
  refine ⟨by rw [List.length_append, List.length_append, h.1]; rfl, fun j a b ha hb => ?_⟩
  rcases Nat.lt_or_ge j rs.length with hj | hj
  · rw [List.getElem?_append_left hj] at ha
    rw [List.getElem?_append_left (by rw [← h.1]; exact hj)] at hb
    exact h.2 j a b ha hb
  · have hj1 := (List.getElem?_eq_some_iff.1 ha).1
    simp at hj1
    obtain rfl : j = rs.length := by omega
    rw [List.getElem?_append_right (Nat.le_refl _), Nat.sub_self] at ha
    rw [List.getElem?_append_right (by rw [h.1]; exact Nat.le_refl _), h.1, Nat.sub_self] at hb
    simp at ha hb
    subst ha hb
    exact k
theorem Pair.take (h : Pair w B rs l) (k : Nat) : Pair w B (rs.take k) (l.take k) := by
  refine ⟨by rw [List.length_take, List.length_take, h.1], fun j a b ha hb => ?_⟩
  rw [List.getElem?_take] at ha hb
  split at ha
  · rename_i hjk
    rw [if_pos hjk] at hb
    exact h.2 j a b ha hb
  · cases ha
theorem Pair.drop (h : Pair w B rs l) (k : Nat) : Pair w B (rs.drop k) (l.drop k) := by
  refine ⟨by rw [List.length_drop, List.length_drop, h.1], fun j a b ha hb => ?_⟩
  rw [List.getElem?_drop] at ha hb
  exact h.2 _ a b ha hb
theorem Pair.append {rs2 : List Cr} {l2 : List Cp} (h : Pair w B rs l) (k : Pair w B rs2 l2) : Pair w B (rs ++ rs2) (l ++ l2) := by
  refine ⟨by rw [List.length_append, List.length_append, h.1, k.1], fun j a b ha hb => ?_⟩
  rcases Nat.lt_or_ge j rs.length with hj | hj
  · rw [List.getElem?_append_left hj] at ha
    rw [List.getElem?_append_left (by rw [← h.1]; exact hj)] at hb
    exact h.2 j a b ha hb
  · rw [List.getElem?_append_right hj] at ha
    rw [List.getElem?_append_right (by rw [← h.1]; exact hj), ← h.1] at hb
    exact k.2 _ a b ha hb
end
/-- The slice value '.slice A n c' reads as the copies l, below block B. -/
def Cls (w : World) (B : Nat) (A : Option Addr) (n c : Nat) (l : List Cp) : Prop := ∃ rs, Gs w B A n c 4 (cellsC rs) ∧ Pair w B rs l
section
variable {w w' : World} {B n c : Nat} {A : Option Addr} {l : List Cp}
theorem Cls.below (h : Cls w B A n c l) (hb : Below B w w') : Cls w' B A n c l := by
  obtain ⟨rs, h1, h2⟩ := h
  exact ⟨rs, h1.below hb, h2.below hb⟩
theorem Cls.mono {C : Nat} (h : Cls w B A n c l) (hb : B ≤ C) : Cls w C A n c l := by
  obtain ⟨rs, h1, h2⟩ := h
  exact ⟨rs, h1.mono hb, h2.mono hb⟩
theorem Cls.on (h : Cls w B A n c l) (hB : B ≤ w.heap.size) (hb : Below w.heap.size w w') : Cls w' w'.heap.size A n c l := ((h.mono hB).below hb).mono hb.size
theorem Cls.nil' (w : World) (B : Nat) : Cls w B none 0 0 [] := ⟨[], Gs.nil' w B 4, Pair.nil w B⟩
theorem Cls.cap (h : Cls w B A n c l) : n ≤ c := by obtain ⟨_, h1, _⟩ := h; exact h1.cap
theorem Cls.max (h : Cls w B A n c l) : n ≤ 140737488355328 := by obtain ⟨_, h1, _⟩ := h; exact h1.max
theorem Cls.nil (h : Cls w B A n c l) : A = none → n = 0 ∧ c = 0 := by obtain ⟨_, h1, _⟩ := h; exact h1.nil
theorem Cls.len (h : Cls w B A n c l) : l.length = n := by
  obtain ⟨rs, h1, h2⟩ := h
  have := h1.len
  rw [cellsC_length] at this
  rw [← h2.1]
  omega
/-- What stands at a place. -/
theorem Cls.get (h : Cls w B A n c l) {k : Nat} (hk : k < n) : ∃ (b off : Nat) (x y : Int) (A' : Option Addr) (n' c' : Nat) (t : List Nat) (s : Bool), A = some ⟨b, off, none⟩ ∧ b < B ∧ l[k]? = some (x, y, t, s) ∧
    w.cell? ⟨b, off + k * 4, none⟩ = some (.int .i64 x) ∧ w.cell? ⟨b, off + k * 4 + 1, none⟩ = some (.int .i64 y) ∧ w.cell? ⟨b, off + k * 4 + 2, none⟩ = some (.slice A' n' c') ∧ w.cell? ⟨b, off + k * 4 + 3, none⟩ = some (.bool s) ∧
    Gs w B A' n' c' 1 (cellsB t) ∧ (∀ b ∈ t, b < 256) := by
  have hl := h.len
  obtain ⟨rs, h1, h2⟩ := h
  have hp : l[k]? = some (l[k]'(by omega)) := List.getElem?_eq_getElem _
  have hr : rs[k]? = some (rs[k]'(by rw [h2.1]; omega)) := List.getElem?_eq_getElem _
  obtain ⟨x, y, A', n', c', t, s, e1, e2, h3, h4⟩ := (h2.2 k _ _ hr hp).out
  rw [e1] at hr
  rw [e2] at hp
  obtain ⟨b, off, rfl, hb, hc⟩ := h1.at_ (by omega)
  have g := cellsC_get hr
  refine ⟨b, off, x, y, A', n', c', t, s, rfl, hb, hp, ?_, ?_, ?_, ?_, h3, h4⟩
  · exact hc _ _ (g 0 _ rfl)
  · rw [Nat.add_assoc]; exact hc _ _ (g 1 _ rfl)
  · rw [Nat.add_assoc]; exact hc _ _ (g 2 _ rfl)
  · rw [Nat.add_assoc]; exact hc _ _ (g 3 _ rfl)
theorem Cls.first (h : Cls w B A n c l) {p c' : Nat} (hp : p ≤ n) (hc' : p ≤ c') (hA : A = none → c' = 0) : Cls w B A p c' (l.take p) := by
  obtain ⟨rs, h1, h2⟩ := h
  refine ⟨rs.take p, ?_, h2.take p⟩
  rw [← cellsC_take]
  exact h1.first hp hc' hA
theorem Cls.restA {a0 : Addr} (h : Cls w B (some a0) n c l) {p c' : Nat} (hp : p ≤ n) (hc' : n - p ≤ c') : Cls w B (some (a0.add (p * 4))) (n - p) c' (l.drop p) := by
  obtain ⟨rs, h1, h2⟩ := h
  refine ⟨rs.drop p, ?_, h2.drop p⟩
  rw [← cellsC_drop]
  exact h1.restA hp hc'
theorem Cls.none' (w : World) (B c : Nat) (a : Addr) : Cls w B (some a) 0 c [] := ⟨[], Gs.none' w B c 4 a, Pair.nil w B⟩
end
end Eth
end Go.Proofs.YtbpijlghdpflgaaDoor
