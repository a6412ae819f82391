/- Numbers heard: lists that rise, plainly. -/
import Derived.Test.YtohofgmdellpnaaProg
namespace Go.Proofs.Ytohofgmdellpnaa.Seen

/-- A list of numbers rises. -/
def Ris (l : List Int) : Prop := l.Pairwise (· < ·)
/-- A number may be. -/
def NOk (n : Int) : Prop := 0 ≤ n ∧ n ≤ 1048575
instance (n : Int) : Decidable (NOk n) := by unfold NOk; infer_instance
/-- Numbers heard may be. -/
def SMay (l : List Int) : Prop := l.length ≤ 4096 ∧ (∀ x ∈ l, NOk x) ∧ Ris l
/-- A number, put in its place. -/
def insN : List Int → Int → List Int
  | [], n => [n]
  | x :: l, n => if n < x then n :: x :: l else x :: insN l n
/-- How many are below. -/
def lowN : List Int → Int → Nat
  | [], _ => 0
  | x :: l, n => (if x < n then 1 else 0) + lowN l n
/-- The least number from k on that lacks, of a list that rises from k on. -/
def fstN : List Int → Nat → Nat
  | [], k => k
  | x :: l, k => if x = (k : Int) then fstN l (k + 1) else k
theorem insN_mem {l : List Int} {n x : Int} : x ∈ insN l n ↔ x = n ∨ x ∈ l := by
  induction l with
  | nil => simp [insN]
  | cons y l ih =>
    unfold insN
    split
    · simp
    · simp only [List.mem_cons, ih]
      constructor
      · rintro (h | h | h)
        · exact .inr (.inl h)
        · exact .inl h
        · exact .inr (.inr h)
      · rintro (h | h | h)
        · exact .inr (.inl h)
        · exact .inl h
        · exact .inr (.inr h)
theorem insN_len (l : List Int) (n : Int) : (insN l n).length = l.length + 1 := by
  induction l with
  | nil => rfl
  | cons y l ih =>
    unfold insN
    split
    · rfl
    · rw [List.length_cons, ih, List.length_cons]
theorem insN_ris {l : List Int} {n : Int} (h : Ris l) (hn : n ∉ l) : Ris (insN l n) := by
  unfold Ris at *
  induction l with
  | nil => exact List.pairwise_singleton _ _
  | cons y l ih =>
    obtain ⟨h1, h2⟩ := List.pairwise_cons.1 h
    unfold insN
    have hy : n ≠ y := fun e => hn (by rw [e]; exact List.mem_cons_self)
    split
    · rename_i hlt
      refine List.pairwise_cons.2 ⟨fun z hz => ?_, h⟩
      rcases List.mem_cons.1 hz with rfl | hz
      · exact hlt
      · have := h1 z hz; omega
    · rename_i hlt
      refine List.pairwise_cons.2 ⟨fun z hz => ?_, ih h2 (fun hm => hn (List.mem_cons_of_mem _ hm))⟩
      rcases insN_mem.1 hz with rfl | hz
      · omega
      · exact h1 z hz
theorem lowN_ins (l : List Int) (n o : Int) : lowN (insN l n) o = lowN l o + (if n < o then 1 else 0) := by
  induction l with
  | nil => simp [insN, lowN]
  | cons y l ih =>
    unfold insN
    split
    · simp only [lowN]; omega
    · simp only [lowN, ih]; omega
/-- Lists that rise are the same if they have the same numbers. -/
theorem ris_ext {a b : List Int} (ha : Ris a) (hb : Ris b) (h : ∀ x, x ∈ a ↔ x ∈ b) : a = b := by
  unfold Ris at *
  induction a generalizing b with
  | nil =>
    cases b with
    | nil => rfl
    | cons y b => exact absurd ((h y).2 List.mem_cons_self) (by simp)
  | cons x a ih =>
    cases b with
    | nil => exact absurd ((h x).1 List.mem_cons_self) (by simp)
    | cons y b =>
      obtain ⟨a1, a2⟩ := List.pairwise_cons.1 ha
      obtain ⟨b1, b2⟩ := List.pairwise_cons.1 hb
      have hxy : x = y := by
        rcases List.mem_cons.1 ((h x).1 List.mem_cons_self) with e | hx
        · exact e
        · rcases List.mem_cons.1 ((h y).2 List.mem_cons_self) with e | hy
          · exact e.symm
          · have := b1 x hx
            have := a1 y hy
            omega
      subst hxy
      refine congrArg (x :: ·) (ih a2 b2 fun z => ?_)
      have hz := h z
      simp only [List.mem_cons] at hz
      constructor
      · intro hm
        rcases hz.1 (.inr hm) with e | hm2
        · have := a1 z hm; omega
        · exact hm2
      · intro hm
        rcases hz.2 (.inr hm) with e | hm2
        · have := b1 z hm; omega
        · exact hm2
theorem lowN_le (l : List Int) (n : Int) : lowN l n ≤ l.length := by
  induction l with
  | nil => exact Nat.le_refl _
  | cons y l ih => simp only [lowN, List.length_cons]; split <;> omega
/-- In a list that rises, those below come first. -/
theorem lowN_at {l : List Int} (h : Ris l) (n : Int) (j : Nat) (x : Int) (hx : l[j]? = some x) : j < lowN l n ↔ x < n := by
  unfold Ris at h
  induction l generalizing j with
  | nil => simp at hx
  | cons y l ih =>
    obtain ⟨h1, h2⟩ := List.pairwise_cons.1 h
    have hall : ¬ y < n → lowN l n = 0 := by
      intro hy
      clear ih hx h
      induction l with
      | nil => rfl
      | cons z l ih2 =>
        have hz := h1 z List.mem_cons_self
        simp only [lowN]
        rw [if_neg (by omega), ih2 (fun w hw => h1 w (List.mem_cons_of_mem _ hw)) (List.pairwise_cons.1 h2).2]
    cases j with
    | zero =>
      simp at hx
      subst hx
      simp only [lowN]
      by_cases hy : y < n
      · rw [if_pos hy]; constructor <;> intro _ <;> omega
      · rw [if_neg hy, hall hy]; constructor <;> intro h3 <;> omega
    | succ j =>
      have hx2 : l[j]? = some x := by simpa using hx
      have := ih h2 j hx2
      simp only [lowN]
      by_cases hy : y < n
      · rw [if_pos hy]; rw [← this]; omega
      · rw [if_neg hy, hall hy]
        have hm := h1 x (List.mem_of_getElem? hx2)
        constructor <;> intro h3 <;> omega
/-- A number that lacks is put behind those below. -/
theorem insN_at {l : List Int} (h : Ris l) {n : Int} (hn : n ∉ l) : insN l n = l.take (lowN l n) ++ n :: l.drop (lowN l n) := by
  unfold Ris at h
  induction l with
  | nil => rfl
  | cons y l ih =>
    obtain ⟨h1, h2⟩ := List.pairwise_cons.1 h
    have hy : n ≠ y := fun e => hn (by rw [e]; exact List.mem_cons_self)
    unfold insN
    split
    · rename_i hlt
      have : lowN (y :: l) n = 0 := by
        have hh := lowN_at (l := y :: l) h n 0 y rfl
        have : ¬ y < n := by omega
        have := mt hh.1 this
        omega
      rw [this]
      rfl
    · rename_i hlt
      have hy2 : y < n := by omega
      have : lowN (y :: l) n = lowN l n + 1 := by simp only [lowN]; rw [if_pos hy2]; omega
      rw [this, ih h2 (fun hm => hn (List.mem_cons_of_mem _ hm))]
      rfl
theorem fstN_ge (l : List Int) (k : Nat) : k ≤ fstN l k ∧ fstN l k ≤ k + l.length := by
  induction l generalizing k with
  | nil => exact ⟨Nat.le_refl _, Nat.le_refl _⟩
  | cons x l ih =>
    unfold fstN
    split
    · have := ih (k + 1); rw [List.length_cons]; omega
    · rw [List.length_cons]; omega
/-- All ahead of it stand in their places. -/
theorem fstN_at (l : List Int) (k j : Nat) (h : k + j < fstN l k) : l[j]? = some ((k + j : Nat) : Int) := by
  induction l generalizing k j with
  | nil => unfold fstN at h; omega
  | cons x l ih =>
    unfold fstN at h
    split at h
    · rename_i e
      cases j with
      | zero => simp; exact e
      | succ j =>
        have := ih (k + 1) j (by omega)
        rw [List.getElem?_cons_succ, this]
        congr 1
        omega
    · omega
theorem fstN_not (l : List Int) (k : Nat) : l[fstN l k - k]? ≠ some ((fstN l k : Nat) : Int) := by
  induction l generalizing k with
  | nil => simp
  | cons x l ih =>
    unfold fstN
    split
    · have h1 := (fstN_ge l (k + 1)).1
      have := ih (k + 1)
      rw [show fstN l (k + 1) - k = (fstN l (k + 1) - (k + 1)) + 1 by omega, List.getElem?_cons_succ]
      exact this
    · rename_i e
      simp
      omega
/-- What a row of numbers leaves, put one by one: those that may not be, or were heard, turn nothing. -/
def putN (l : List Int) (n : Int) : List Int := if NOk n ∧ n ∉ l ∧ l.length < 4096 then insN l n else l
theorem putN_may {l : List Int} (h : SMay l) (n : Int) : SMay (putN l n) := by
  unfold putN
  split
  · rename_i hc
    refine ⟨by rw [insN_len]; omega, fun x hx => ?_, insN_ris h.2.2 hc.2.1⟩
    rcases insN_mem.1 hx with rfl | hx
    · exact hc.1
    · exact h.2.1 x hx
  · exact h
theorem putN_mem {l : List Int} (n x : Int) (hl : l.length < 4096) : x ∈ putN l n ↔ x ∈ l ∨ (x = n ∧ NOk n) := by
  unfold putN
  split
  · rename_i hc
    rw [insN_mem]
    constructor
    · rintro (h | h)
      · exact .inr ⟨h, hc.1⟩
      · exact .inl h
    · rintro (h | h)
      · exact .inr h
      · exact .inl h.1
  · rename_i hc
    constructor
    · exact .inl
    · rintro (h | ⟨rfl, h⟩)
      · exact h
      · by_cases hm : x ∈ l
        · exact hm
        · exact absurd ⟨h, hm, hl⟩ hc
theorem putN_len (l : List Int) (n : Int) : (putN l n).length ≤ l.length + 1 := by
  unfold putN
  split
  · rw [insN_len]; exact Nat.le_refl _
  · omega
theorem foldN {xs l : List Int} (hl : l.length + xs.length ≤ 4096) (h : SMay l) : SMay (xs.foldl putN l) ∧ ∀ x, x ∈ xs.foldl putN l ↔ x ∈ l ∨ (x ∈ xs ∧ NOk x) := by
  induction xs generalizing l with
  | nil => exact ⟨h, fun x => by simp⟩
  | cons y xs ih =>
    rw [List.length_cons] at hl
    have h1 := putN_len l y
    obtain ⟨i1, i2⟩ := ih (l := putN l y) (by omega) (putN_may h y)
    refine ⟨i1, fun x => ?_⟩
    show x ∈ xs.foldl putN (putN l y) ↔ _
    rw [i2, putN_mem y x (by omega), List.mem_cons]
    constructor
    · rintro ((h | ⟨rfl, h⟩) | h)
      · exact .inl h
      · exact .inr ⟨.inl rfl, h⟩
      · exact .inr ⟨.inr h.1, h.2⟩
    · rintro (h | ⟨rfl | h, h2⟩)
      · exact .inl (.inl h)
      · exact .inl (.inr ⟨rfl, h2⟩)
      · exact .inr ⟨h, h2⟩
/-- The order counts for nothing. -/
theorem foldN_rev {xs : List Int} (hl : xs.length ≤ 4096) : xs.foldl putN [] = xs.reverse.foldl putN [] := by
  have h0 : SMay [] := ⟨by simp, by simp, List.Pairwise.nil⟩
  obtain ⟨a1, a2⟩ := foldN (xs := xs) (l := []) (by simpa using hl) h0
  obtain ⟨b1, b2⟩ := foldN (xs := xs.reverse) (l := []) (by simpa using hl) h0
  exact ris_ext a1.2.2 b1.2.2 fun x => by rw [a2, b2]; simp
/-- Numbers rise from above last on, and none is too great. -/
def gdN (last : Int) : List Int → Prop
  | [] => True
  | x :: l => last < x ∧ x ≤ 1048575 ∧ gdN x l
instance gdN.dec : (last : Int) → (l : List Int) → Decidable (gdN last l)
  | _, [] => isTrue trivial
  | last, x :: l => by
    unfold gdN
    have := gdN.dec x l
    infer_instance
theorem gdN_iff {last : Int} {l : List Int} : gdN last l ↔ (∀ x ∈ l, last < x ∧ x ≤ 1048575) ∧ Ris l := by
  unfold Ris
  induction l generalizing last with
  | nil => simp [gdN]
  | cons x l ih =>
    unfold gdN
    rw [ih, List.pairwise_cons]
    constructor
    · rintro ⟨h1, h2, h3, h4⟩
      refine ⟨fun y hy => ?_, fun y hy => (h3 y hy).1, h4⟩
      rcases List.mem_cons.1 hy with rfl | hy
      · exact ⟨h1, h2⟩
      · have := h3 y hy; omega
    · rintro ⟨h1, h2, h3⟩
      have := h1 x List.mem_cons_self
      exact ⟨this.1, this.2, fun y hy => ⟨h2 y hy, (h1 y (List.mem_cons_of_mem _ hy)).2⟩, h3⟩
/-- Check of both sides. -/
def schk (l : List Int) : Int := if 4096 < l.length then 4 else if gdN (-1) l then 0 else 8
theorem schk_zero {l : List Int} : schk l = 0 ↔ SMay l := by
  unfold schk SMay
  split
  · constructor
    · intro h; cases h
    · intro h; omega
  · rename_i h0
    have : gdN (-1) l ↔ (∀ x ∈ l, NOk x) ∧ Ris l := by
      rw [gdN_iff]
      refine and_congr (forall_congr' fun x => forall_congr' fun _ => ?_) Iff.rfl
      unfold NOk
      omega
    split
    · rename_i h1
      exact ⟨fun _ => ⟨by omega, this.1 h1⟩, fun _ => rfl⟩
    · rename_i h1
      exact ⟨fun h => (by cases h), fun h => absurd (this.2 h.2) h1⟩
/-- What is asked by a number: the error. -/
def fiE (l : List Int) (n : Int) : Int := if schk l ≠ 0 then schk l else if NOk n then 0 else 2
theorem fiE_zero {l : List Int} {n : Int} : fiE l n = 0 ↔ SMay l ∧ NOk n := by
  unfold fiE
  rw [← schk_zero]
  split
  · rename_i h; exact ⟨fun e => absurd e h, fun e => absurd e.1 h⟩
  · rename_i h
    have h0 : schk l = 0 := by
      by_cases hh : schk l = 0
      · exact hh
      · exact absurd hh h
    split
    · rename_i h2; exact ⟨fun _ => ⟨h0, h2⟩, fun _ => rfl⟩
    · rename_i h2; exact ⟨fun e => (by cases e), fun e => absurd e.2 h2⟩
/-- Has, Below, Put, First: what they answer. -/
def haA (l : List Int) (n : Int) : Bool := decide (fiE l n = 0 ∧ n ∈ l)
def beA (l : List Int) (n : Int) : Nat := if fiE l n = 0 then lowN l n else 0
def ptE (l : List Int) (n : Int) : Int := if fiE l n ≠ 0 then fiE l n else if n ∈ l then 12 else if 4096 ≤ l.length then 9 else 0
def ptL (l : List Int) (n : Int) : List Int := if ptE l n = 0 then insN l n else []
def fsA (l : List Int) : Nat := if schk l = 0 then fstN l 0 else 0
theorem ris_lt {l : List Int} (h : Ris l) {i j : Nat} {x y : Int} (hi : l[i]? = some x) (hj : l[j]? = some y) (hij : i < j) : x < y := by
  obtain ⟨h1, rfl⟩ := List.getElem?_eq_some_iff.1 hi
  obtain ⟨h2, rfl⟩ := List.getElem?_eq_some_iff.1 hj
  exact List.pairwise_iff_getElem.1 h i j h1 h2 hij
/-- A number that is there stands behind those below. -/
theorem hitN {l : List Int} (h : Ris l) {x : Int} (hx : x ∈ l) : l[lowN l x]? = some x := by
  obtain ⟨j, hj⟩ := List.mem_iff_getElem?.1 hx
  have h1 := mt (lowN_at h x j x hj).1 (Int.lt_irrefl x)
  rcases Nat.lt_or_ge (lowN l x) j with h2 | h2
  · have hjl := (List.getElem?_eq_some_iff.1 hj).1
    obtain ⟨z, hz⟩ : ∃ z, l[lowN l x]? = some z := ⟨_, List.getElem?_eq_getElem (by omega)⟩
    have h3 := mt (lowN_at h x _ z hz).2 (Nat.lt_irrefl _)
    have h4 := ris_lt h hz hj h2
    omega
  · rw [show lowN l x = j by omega]
    exact hj
theorem hitN_lt {l : List Int} (h : Ris l) {x : Int} (hx : x ∈ l) : lowN l x < l.length := (List.getElem?_eq_some_iff.1 (hitN h hx)).1
theorem ris_gap {l : List Int} (h : Ris l) {i : Nat} {x : Int} (hi : l[i]? = some x) : ∀ (d : Nat) {y : Int}, l[i + d]? = some y → x + (d : Int) ≤ y
  | 0, y, hj => by
    rw [Nat.add_zero, hi] at hj
    injection hj with hj
    omega
  | d + 1, y, hj => by
    have hjl := (List.getElem?_eq_some_iff.1 hj).1
    obtain ⟨z, hz⟩ : ∃ z, l[i + d]? = some z := ⟨_, List.getElem?_eq_getElem (by omega)⟩
    have h1 := ris_gap h hi d hz
    have h2 := ris_lt h hz hj (by omega)
    omega
/-- Numbers stand in their places just ahead of the first one that lacks. -/
theorem fstN_iff {l : List Int} (h : Ris l) (h0 : ∀ x ∈ l, 0 ≤ x) {j : Nat} {y : Int} (hj : l[j]? = some y) : y = (j : Int) ↔ j < fstN l 0 := by
  constructor
  · intro e
    rcases Nat.lt_or_ge j (fstN l 0) with h1 | h1
    · exact h1
    · have hjl := (List.getElem?_eq_some_iff.1 hj).1
      obtain ⟨z, hz⟩ : ∃ z, l[fstN l 0]? = some z := ⟨_, List.getElem?_eq_getElem (by omega)⟩
      have h2 := fstN_not l 0
      rw [Nat.sub_zero, hz] at h2
      have h2 : z ≠ ((fstN l 0 : Nat) : Int) := fun e => h2 (by rw [e])
      have h3 : ((fstN l 0 : Nat) : Int) ≤ z := by
        obtain ⟨x0, hx0⟩ : ∃ x0, l[0]? = some x0 := ⟨_, List.getElem?_eq_getElem (by omega)⟩
        have := ris_gap h hx0 (fstN l 0) (by rw [Nat.zero_add]; exact hz)
        have := h0 x0 (List.mem_of_getElem? hx0)
        omega
      have h4 := ris_gap h hz (j - fstN l 0) (by rw [show fstN l 0 + (j - fstN l 0) = j by omega]; exact hj)
      omega
  · intro h1
    have := fstN_at l 0 j (by rw [Nat.zero_add]; exact h1)
    rw [Nat.zero_add, hj] at this
    injection this
end Go.Proofs.Ytohofgmdellpnaa.Seen
