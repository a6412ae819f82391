/- Loads, plainly: numbers that rise, one that is put there, taken out, counted up and down. G says which masses may be. No program is named here. -/
/- Loads, plainly: what an epoch's loads carry, in one part; the errors and answers of Launch, Double, Land, Lose. No program is named here. -/
/- Contracts: the small functions of package limb: at, Check, places, anyBad. -/
import Derived.Test.YtdcolnipdipkhaaProg
import Derived.Test.YtdcolnipdipkhaaMem

namespace Go.Proofs.Ytdcolnipdipkhaa.Fli

/-- A load: its Number, Epoch, Copies, and what it carries. -/
abbrev Ld (γ : Type) := Int × Int × Int × γ
section
variable {γ : Type}
/-- Numbers rise. -/
def Rise (l : List (Ld γ)) : Prop := l.Pairwise fun a b => a.1 < b.1
/-- A load may be. -/
def MayL (G : γ → Prop) (p : Ld γ) : Prop := (0 ≤ p.1 ∧ p.1 ≤ 1048575) ∧ (0 ≤ p.2.1 ∧ p.2.1 ≤ 65535) ∧ (1 ≤ p.2.2.1 ∧ p.2.2.1 ≤ 16) ∧ G p.2.2.2
/-- The load of a Number. -/
def fnd (n : Int) (l : List (Ld γ)) : Option (Ld γ) := l.find? fun p => decide (p.1 = n)
/-- Loads without the one of a Number. -/
def del (n : Int) (l : List (Ld γ)) : List (Ld γ) := l.filter fun p => decide (p.1 ≠ n)
/-- The load of a Number, with other Copies. -/
def cpy (n : Int) (f : Int → Int) (l : List (Ld γ)) : List (Ld γ) := l.map fun p => if p.1 = n then (p.1, p.2.1, f p.2.2.1, p.2.2.2) else p
/-- Loads with one more, in its place. -/
def ins (x : Ld γ) : List (Ld γ) → List (Ld γ)
  | [] => [x]
  | y :: l => if x.1 < y.1 then x :: y :: l else y :: ins x l

theorem rise_at {l : List (Ld γ)} (h : Rise l) {i j : Nat} {a b : Ld γ} (hi : l[i]? = some a) (hj : l[j]? = some b) (hij : i < j) : a.1 < b.1 := by
  obtain ⟨h1, rfl⟩ := List.getElem?_eq_some_iff.1 hi
  obtain ⟨h2, rfl⟩ := List.getElem?_eq_some_iff.1 hj
  exact List.pairwise_iff_getElem.1 h i j h1 h2 hij
theorem rise_uniq {l : List (Ld γ)} (h : Rise l) {i j : Nat} {a b : Ld γ} (hi : l[i]? = some a) (hj : l[j]? = some b) (e : a.1 = b.1) : i = j := by
  rcases Nat.lt_trichotomy i j with h1 | h1 | h1
  · have := rise_at h hi hj h1; omega
  · exact h1
  · have := rise_at h hj hi h1; omega
/-- From one place to the next is enough. -/
theorem rise_of : ∀ {l : List (Ld γ)}, (∀ (i : Nat) (a b : Ld γ), l[i]? = some a → l[i + 1]? = some b → a.1 < b.1) → Rise l
  | [], _ => List.Pairwise.nil
  | [_], _ => List.pairwise_singleton _ _
  | x :: y :: l, h => by
    have ih : Rise (y :: l) := rise_of (fun i a b h1 h2 => h (i + 1) a b (by simpa using h1) (by simpa using h2))
    have hxy : x.1 < y.1 := h 0 x y rfl rfl
    refine List.pairwise_cons.2 ⟨fun z hz => ?_, ih⟩
    rcases List.mem_cons.1 hz with rfl | hz
    · exact hxy
    · have := (List.pairwise_cons.1 ih).1 z hz
      omega
theorem fnd_some {l : List (Ld γ)} (h : Rise l) {i : Nat} {x : Ld γ} (hi : l[i]? = some x) : fnd x.1 l = some x := by
  unfold fnd
  have hm : x ∈ l := List.mem_of_getElem? hi
  cases hq : l.find? (fun p => decide (p.1 = x.1)) with
  | none => exact absurd (List.find?_eq_none.1 hq x hm) (by simp)
  | some y =>
    have hy : y.1 = x.1 := by simpa using List.find?_some hq
    obtain ⟨j, hj⟩ := List.mem_iff_getElem?.1 (List.mem_of_find?_eq_some hq)
    have := rise_uniq h hj hi hy
    subst this
    rw [hj] at hi
    injection hi with hi
    rw [hi]
theorem fnd_none {n : Int} {l : List (Ld γ)} (h : ∀ (i : Nat) (x : Ld γ), l[i]? = some x → x.1 ≠ n) : fnd n l = none := by
  unfold fnd
  rw [List.find?_eq_none]
  intro x hx
  obtain ⟨i, hi⟩ := List.mem_iff_getElem?.1 hx
  simpa using h i x hi
theorem fnd_mem {n : Int} {l : List (Ld γ)} {x : Ld γ} (h : fnd n l = some x) : x ∈ l ∧ x.1 = n := ⟨List.mem_of_find?_eq_some h, by simpa using List.find?_some h⟩
theorem del_none {n : Int} {l : List (Ld γ)} (h : ∀ x ∈ l, x.1 ≠ n) : del n l = l := by
  unfold del
  rw [List.filter_eq_self]
  intro x hx
  simpa using h x hx
/-- Out of its place, and by its Number, is the same. -/
theorem del_at : ∀ {l : List (Ld γ)}, Rise l → ∀ {i : Nat} {x : Ld γ}, l[i]? = some x → l.take i ++ l.drop (i + 1) = del x.1 l
  | [], _, _, _, h => by simp at h
  | y :: l, hr, 0, x, h => by
    obtain rfl : y = x := by simpa using h
    have h1 := (List.pairwise_cons.1 hr).1
    unfold del
    rw [List.filter_cons_of_neg (by simp)]
    have := del_none (n := y.1) (l := l) (fun z hz e => by have := h1 z hz; omega)
    unfold del at this
    rw [this]
    rfl
  | y :: l, hr, i + 1, x, h => by
    have h2 : l[i]? = some x := by simpa using h
    have h1 := (List.pairwise_cons.1 hr).1 x (List.mem_of_getElem? h2)
    have ih := del_at (List.pairwise_cons.1 hr).2 h2
    unfold del at ih ⊢
    rw [List.filter_cons_of_pos (by simp; omega), ← ih]
    rfl
theorem cpy_at : ∀ {l : List (Ld γ)}, Rise l → ∀ {i : Nat} {x : Ld γ}, l[i]? = some x → ∀ f : Int → Int, l.set i (x.1, x.2.1, f x.2.2.1, x.2.2.2) = cpy x.1 f l
  | [], _, _, _, h, _ => by simp at h
  | y :: l, hr, 0, x, h, f => by
    obtain rfl : y = x := by simpa using h
    have h1 := (List.pairwise_cons.1 hr).1
    have h2 : l.map (fun p => if p.1 = y.1 then (p.1, p.2.1, f p.2.2.1, p.2.2.2) else p) = l := by
      conv => rhs; rw [← List.map_id l]
      refine List.map_congr_left fun z hz => ?_
      rw [if_neg (by have := h1 z hz; omega)]
      rfl
    unfold cpy
    rw [List.map_cons, if_pos rfl, h2]
    rfl
  | y :: l, hr, i + 1, x, h, f => by
    have h2 : l[i]? = some x := by simpa using h
    have h1 := (List.pairwise_cons.1 hr).1 x (List.mem_of_getElem? h2)
    have ih := cpy_at (List.pairwise_cons.1 hr).2 h2 f
    unfold cpy at ih ⊢
    rw [List.map_cons, if_neg (by omega), ← ih]
    rfl
theorem del_rise {n : Int} {l : List (Ld γ)} (h : Rise l) : Rise (del n l) := List.Pairwise.filter _ h
theorem cpy_rise {n : Int} {f : Int → Int} {l : List (Ld γ)} (h : Rise l) : Rise (cpy n f l) := by
  unfold cpy Rise
  rw [List.pairwise_map]
  refine List.Pairwise.imp (fun {a b} hab => ?_) h
  split <;> split <;> exact hab
theorem ins_mem {x y : Ld γ} : ∀ {l : List (Ld γ)}, y ∈ ins x l ↔ y = x ∨ y ∈ l
  | [] => by simp [ins]
  | z :: l => by
    unfold ins
    split
    · simp
    · rw [List.mem_cons, ins_mem, List.mem_cons]
      exact ⟨fun h => h.elim (fun e => .inr (.inl e)) (fun h => h.elim .inl (fun m => .inr (.inr m))), fun h => h.elim (fun e => .inr (.inl e)) (fun h => h.elim .inl (fun m => .inr (.inr m)))⟩
theorem ins_rise {x : Ld γ} : ∀ {l : List (Ld γ)}, Rise l → (∀ y ∈ l, y.1 ≠ x.1) → Rise (ins x l)
  | [], _, _ => List.pairwise_singleton _ _
  | z :: l, h, hn => by
    obtain ⟨h1, h2⟩ := List.pairwise_cons.1 h
    unfold ins
    split
    · rename_i hx
      refine List.pairwise_cons.2 ⟨fun y hy => ?_, h⟩
      rcases List.mem_cons.1 hy with rfl | hy
      · exact hx
      · have := h1 y hy; omega
    · rename_i hx
      refine List.pairwise_cons.2 ⟨fun y hy => ?_, ins_rise h2 (fun y hy => hn y (List.mem_cons_of_mem _ hy))⟩
      rcases ins_mem.1 hy with rfl | hy
      · have := hn z List.mem_cons_self; omega
      · exact h1 y hy
theorem ins_len {x : Ld γ} : ∀ l : List (Ld γ), (ins x l).length = l.length + 1
  | [] => rfl
  | z :: l => by
    unfold ins
    split
    · rfl
    · rw [List.length_cons, ins_len l, List.length_cons]
/-- What was put there is found, and taken out again. -/
theorem fnd_ins {x : Ld γ} {l : List (Ld γ)} (hn : ∀ y ∈ l, y.1 ≠ x.1) : fnd x.1 (ins x l) = some x := by
  unfold fnd
  induction l with
  | nil => simp [ins]
  | cons z l ih =>
    unfold ins
    split
    · simp
    · rw [List.find?_cons_of_neg (by simpa using hn z List.mem_cons_self)]
      exact ih (fun y hy => hn y (List.mem_cons_of_mem _ hy))
theorem del_ins {x : Ld γ} {l : List (Ld γ)} (hn : ∀ y ∈ l, y.1 ≠ x.1) : del x.1 (ins x l) = l := by
  induction l with
  | nil => simp [ins, del]
  | cons z l ih =>
    have hz := hn z List.mem_cons_self
    have ih2 := ih (fun y hy => hn y (List.mem_cons_of_mem _ hy))
    unfold ins
    split
    · unfold del
      rw [List.filter_cons_of_neg (by simp)]
      exact del_none hn
    · unfold del at ih2 ⊢
      rw [List.filter_cons_of_pos (by simpa using hz), ih2]
theorem cpy_ins {x : Ld γ} {l : List (Ld γ)} (hn : ∀ y ∈ l, y.1 ≠ x.1) (f : Int → Int) : cpy x.1 f (ins x l) = ins (x.1, x.2.1, f x.2.2.1, x.2.2.2) l := by
  have key : ∀ m : List (Ld γ), (∀ y ∈ m, y.1 ≠ x.1) → cpy x.1 f m = m := fun m hm => by
    unfold cpy
    conv => rhs; rw [← List.map_id m]
    refine List.map_congr_left fun z hz => ?_
    rw [if_neg (hm z hz)]
    rfl
  induction l with
  | nil => simp [ins, cpy]
  | cons z l ih =>
    have hz := hn z List.mem_cons_self
    have ih2 := ih (fun y hy => hn y (List.mem_cons_of_mem _ hy))
    unfold ins
    by_cases hx : x.1 < z.1
    · rw [if_pos hx, if_pos (show ((x.1, x.2.1, f x.2.2.1, x.2.2.2) : Ld γ).1 < z.1 from hx)]
      have := key (z :: l) hn
      unfold cpy at this ⊢
      rw [List.map_cons, if_pos rfl, this]
    · rw [if_neg hx, if_neg (show ¬ ((x.1, x.2.1, f x.2.2.1, x.2.2.2) : Ld γ).1 < z.1 from hx)]
      unfold cpy at ih2 ⊢
      rw [List.map_cons, if_neg hz, ih2]
/-- Other Numbers are left. -/
theorem fnd_del {a b : Int} (h : a ≠ b) (l : List (Ld γ)) : fnd b (del a l) = fnd b l := by
  unfold fnd del
  rw [List.find?_filter]
  congr 1
  funext p
  by_cases hp : p.1 = b
  · simp [hp]; omega
  · simp [hp]
theorem fnd_cpy {a b : Int} (h : a ≠ b) (f : Int → Int) (l : List (Ld γ)) : fnd b (cpy a f l) = fnd b l := by
  unfold fnd cpy
  induction l with
  | nil => rfl
  | cons z l ih =>
    rw [List.map_cons]
    by_cases hz : z.1 = b
    · have hza : ¬ z.1 = a := fun e => h (e.symm.trans hz)
      rw [if_neg hza, List.find?_cons_of_pos (by simpa using hz), List.find?_cons_of_pos (by simpa using hz)]
    · have he : (if z.1 = a then (z.1, z.2.1, f z.2.2.1, z.2.2.2) else z).1 = z.1 := by split <;> rfl
      rw [List.find?_cons_of_neg (by rw [decide_eq_true_eq, he]; exact hz), List.find?_cons_of_neg (by simpa using hz), ih]
theorem del_del (a b : Int) (l : List (Ld γ)) : del a (del b l) = del b (del a l) := by
  unfold del
  rw [List.filter_filter, List.filter_filter]
  congr 1
  funext p
  exact Bool.and_comm _ _
theorem del_cpy {a b : Int} (f : Int → Int) (l : List (Ld γ)) : del a (cpy b f l) = cpy b f (del a l) := by
  unfold del cpy
  rw [List.filter_map]
  congr 1
  refine List.filter_congr fun p _ => ?_
  simp only [Function.comp]
  split <;> rfl
theorem cpy_cpy {a b : Int} (h : a ≠ b) (f g : Int → Int) (l : List (Ld γ)) : cpy a f (cpy b g l) = cpy b g (cpy a f l) := by
  unfold cpy
  rw [List.map_map, List.map_map]
  refine List.map_congr_left fun p _ => ?_
  simp only [Function.comp]
  by_cases h1 : p.1 = a
  · rw [if_neg (show ¬ p.1 = b by omega), if_pos h1, if_neg (show ¬ p.1 = b by omega)]
  · by_cases h2 : p.1 = b
    · rw [if_pos h2, if_neg (show ¬ p.1 = a from h1), if_neg h1, if_pos h2]
    · rw [if_neg h2, if_neg h1, if_neg h2]

/-- What an act does with loads (0: doubled, 1: lost, else landed). -/
def acted (l : List (Ld γ)) (n : Int) (act : Nat) : List (Ld γ) := match fnd n l with
  | none => l
  | some x => if act = 0 then cpy n (fun c => c + 1) l else if act = 1 then (if x.2.2.1 = 1 then del n l else cpy n (fun c => c - 1) l) else del n l
theorem acted_none {l : List (Ld γ)} {n : Int} (h : fnd n l = none) (act : Nat) : acted l n act = l := by unfold acted; rw [h]
theorem acted_some {l : List (Ld γ)} {n : Int} {x : Ld γ} (h : fnd n l = some x) (act : Nat) : acted l n act = if act = 0 then cpy n (fun c => c + 1) l else if act = 1 then (if x.2.2.1 = 1 then del n l else cpy n (fun c => c - 1) l) else del n l := by unfold acted; rw [h]
/-- How an act turns loads that have the Number. -/
def Way (n : Int) (F : List (Ld γ) → List (Ld γ)) : Prop := (∃ f, F = cpy n f) ∨ F = del n
theorem acted_way (n : Int) (x : Ld γ) (act : Nat) : ∃ F, Way n F ∧ ∀ m : List (Ld γ), fnd n m = some x → acted m n act = F m := by
  by_cases h0 : act = 0
  · exact ⟨cpy n (fun c => c + 1), .inl ⟨_, rfl⟩, fun m hm => by rw [acted_some hm, if_pos h0]⟩
  · by_cases h1 : act = 1
    · by_cases h2 : x.2.2.1 = 1
      · exact ⟨del n, .inr rfl, fun m hm => by rw [acted_some hm, if_neg h0, if_pos h1, if_pos h2]⟩
      · exact ⟨cpy n (fun c => c - 1), .inl ⟨_, rfl⟩, fun m hm => by rw [acted_some hm, if_neg h0, if_pos h1, if_neg h2]⟩
    · exact ⟨del n, .inr rfl, fun m hm => by rw [acted_some hm, if_neg h0, if_neg h1]⟩
theorem way_way {a b : Int} (h : a ≠ b) {F H : List (Ld γ) → List (Ld γ)} (hF : Way a F) (hH : Way b H) (l : List (Ld γ)) : H (F l) = F (H l) := by
  rcases hF with ⟨f, rfl⟩ | rfl <;> rcases hH with ⟨g, rfl⟩ | rfl
  · exact cpy_cpy (Ne.symm h) _ _ _
  · exact del_cpy _ _
  · exact (del_cpy _ _).symm
  · exact del_del _ _ _
theorem way_fnd {a b : Int} (h : a ≠ b) {F : List (Ld γ) → List (Ld γ)} (hF : Way a F) (l : List (Ld γ)) : fnd b (F l) = fnd b l := by
  rcases hF with ⟨f, rfl⟩ | rfl
  · exact fnd_cpy h _ _
  · exact fnd_del h _
/-- Acts on different Numbers go either way round. -/
theorem acted_apart {a b : Int} (h : a ≠ b) (l : List (Ld γ)) (p q : Nat) : acted (acted l a p) b q = acted (acted l b q) a p := by
  cases fa : fnd a l with
  | none =>
    have ha : fnd a (acted l b q) = none := by
      cases fb : fnd b l with
      | none => rw [acted_none fb, fa]
      | some y =>
        obtain ⟨H, hH, eH⟩ := acted_way b y q
        rw [eH l fb, way_fnd (Ne.symm h) hH, fa]
    rw [acted_none fa, acted_none ha]
  | some x =>
    obtain ⟨F, hF, eF⟩ := acted_way a x p
    cases fb : fnd b l with
    | none => rw [acted_none fb, acted_none (by rw [eF l fa, way_fnd h hF, fb])]
    | some y =>
      obtain ⟨H, hH, eH⟩ := acted_way b y q
      rw [eF l fa, eH l fb, eH _ ((way_fnd h hF l).trans fb), eF _ ((way_fnd (Ne.symm h) hH l).trans fa)]
      exact way_way h hF hH l
end
end Go.Proofs.Ytdcolnipdipkhaa.Fli


namespace Go.Proofs.Ytdcolnipdipkhaa.Fli
section
variable {γ : Type}
/-- What an epoch's loads carry, in one part. -/
def tot (v : γ → Int) (e : Int) : List (Ld γ) → Int
  | [] => 0
  | p :: l => (if p.2.1 = e then v p.2.2.2 else 0) + tot v e l
theorem tot_cpy (v : γ → Int) (e n : Int) (f : Int → Int) : ∀ l : List (Ld γ), tot v e (cpy n f l) = tot v e l
  | [] => rfl
  | p :: l => by
    have ih := tot_cpy v e n f l
    unfold cpy at ih ⊢
    rw [List.map_cons]
    unfold tot
    rw [ih]
    split <;> rfl
theorem tot_del (v : γ → Int) (e : Int) {n : Int} {x : Ld γ} : ∀ {l : List (Ld γ)}, Rise l → fnd n l = some x → tot v e l = tot v e (del n l) + (if x.2.1 = e then v x.2.2.2 else 0)
  | [], _, h => by simp [fnd] at h
  | p :: l, hr, h => by
    obtain ⟨h1, h2⟩ := List.pairwise_cons.1 hr
    by_cases hp : p.1 = n
    · have hx : p = x := by
        unfold fnd at h
        rw [List.find?_cons_of_pos (by simpa using hp)] at h
        injection h
      subst hx
      have hd : del n (p :: l) = l := by
        unfold del
        rw [List.filter_cons_of_neg (by simpa using hp)]
        exact del_none (fun y hy => by have := h1 y hy; omega)
      rw [hd]
      unfold tot
      rw [Int.add_comm]
      congr 1
      cases l <;> rfl
    · have hf : fnd n l = some x := by
        unfold fnd at h ⊢
        rw [List.find?_cons_of_neg (by simpa using hp)] at h
        exact h
      have ih := tot_del v e h2 hf
      have hd : del n (p :: l) = p :: del n l := by
        unfold del
        rw [List.filter_cons_of_pos (by simpa using hp)]
      rw [hd]
      unfold tot
      rw [ih]
      omega

/-- Check. -/
def lchk (G : γ → Prop) (l : List (Ld γ)) : Prop := l.length ≤ 16 ∧ (∀ p ∈ l, MayL G p) ∧ Rise l
/-- What Check, and the error of a Number, are. -/
structure Chk (G : γ → Prop) (l : List (Ld γ)) (q : Int) : Prop where
  many : 16 < l.length → q = 4
  bad : l.length ≤ 16 → ¬ ((∀ p ∈ l, MayL G p) ∧ Rise l) → q = 8
  ok : lchk G l → q = 0
theorem Chk.zero {G : γ → Prop} {l : List (Ld γ)} {q : Int} (h : Chk G l q) : q = 0 ↔ lchk G l := by
  constructor
  · intro e
    rcases Nat.lt_or_ge 16 l.length with h1 | h1
    · have := h.many h1; omega
    · by_cases h2 : (∀ p ∈ l, MayL G p) ∧ Rise l
      · exact ⟨h1, h2.1, h2.2⟩
      · have := h.bad h1 h2; omega
  · exact h.ok
theorem Chk.uniq {G : γ → Prop} {l : List (Ld γ)} {q r : Int} (h : Chk G l q) (k : Chk G l r) : q = r := by
  rcases Nat.lt_or_ge 16 l.length with h1 | h1
  · rw [h.many h1, k.many h1]
  · by_cases h2 : (∀ p ∈ l, MayL G p) ∧ Rise l
    · rw [h.ok ⟨h1, h2.1, h2.2⟩, k.ok ⟨h1, h2.1, h2.2⟩]
    · rw [h.bad h1 h2, k.bad h1 h2]
/-- A load counted down, or up, or launched, may be where the others may. -/
theorem may_cpy {G : γ → Prop} {n : Int} {f : Int → Int} {l : List (Ld γ)} (h : ∀ p ∈ l, MayL G p) (hf : ∀ p ∈ l, p.1 = n → 1 ≤ f p.2.2.1 ∧ f p.2.2.1 ≤ 16) : ∀ p ∈ cpy n f l, MayL G p := by
  intro p hp
  unfold cpy at hp
  obtain ⟨z, hz, rfl⟩ := List.mem_map.1 hp
  obtain ⟨a, b, c, d⟩ := h z hz
  split
  · rename_i e
    exact ⟨a, b, hf z hz e, d⟩
  · exact ⟨a, b, c, d⟩
theorem may_del {G : γ → Prop} {n : Int} {l : List (Ld γ)} (h : ∀ p ∈ l, MayL G p) : ∀ p ∈ del n l, MayL G p := fun p hp => h p (List.mem_filter.1 hp).1
theorem del_len (n : Int) (l : List (Ld γ)) : (del n l).length ≤ l.length := List.length_filter_le _ _
theorem cpy_len (n : Int) (f : Int → Int) (l : List (Ld γ)) : (cpy n f l).length = l.length := List.length_map _
/-- Loads stay loads that may be: behind each act that tells no error. -/
theorem acted_may {G : γ → Prop} {l : List (Ld γ)} {n : Int} {act : Nat} (h : lchk G l) (hf : ∀ x, fnd n l = some x → act = 0 → x.2.2.1 < 16) : lchk G (acted l n act) := by
  obtain ⟨h1, h2, h3⟩ := h
  cases hq : fnd n l with
  | none => rw [acted_none hq]; exact ⟨h1, h2, h3⟩
  | some x =>
    have hu : ∀ p ∈ l, p.1 = n → p = x := fun p hp e => by
      obtain ⟨i, hi⟩ := List.mem_iff_getElem?.1 hp
      have := fnd_some h3 hi
      rw [e, hq] at this
      injection this with this
      exact this.symm
    have hx := h2 x (fnd_mem hq).1
    rw [acted_some hq]
    split
    · rename_i h0
      exact ⟨by rw [cpy_len]; exact h1, may_cpy h2 (fun p hp e => by rw [hu p hp e]; have := hf x hq h0; have := hx.2.2.1; omega), cpy_rise h3⟩
    · split
      · split
        · exact ⟨Nat.le_trans (del_len _ _) h1, may_del h2, del_rise h3⟩
        · rename_i hc
          exact ⟨by rw [cpy_len]; exact h1, may_cpy h2 (fun p hp e => by rw [hu p hp e]; have := hx.2.2.1; omega), cpy_rise h3⟩
      · exact ⟨Nat.le_trans (del_len _ _) h1, may_del h2, del_rise h3⟩
theorem ins_may {G : γ → Prop} {l : List (Ld γ)} {x : Ld γ} (h : lchk G l) (hx : MayL G x) (hn : ∀ y ∈ l, y.1 ≠ x.1) (hl : l.length < 16) : lchk G (ins x l) :=
  ⟨by rw [ins_len]; omega, fun p hp => (ins_mem.1 hp).elim (fun e => e ▸ hx) (fun m => h.2.1 p m), ins_rise h.2.2 hn⟩
end
end Go.Proofs.Ytdcolnipdipkhaa.Fli


namespace Go.Proofs.Ytdcolnipdipkhaa
set_option maxRecDepth 100000
open Go.RowKit

/-- Check's number. -/
def chk (n : Nat) (f : Nat → Nat) : Int := if Fit n f then 0 else 8
theorem chk_fit {n : Nat} {f : Nat → Nat} (h : Fit n f) : chk n f = 0 := if_pos h
theorem chk_bad {n : Nat} {f : Nat → Nat} (h : ¬ Fit n f) : chk n f = 8 := if_neg h

set_option maxHeartbeats 400000 in
theorem check_long (A : Option Addr) (n c : Nat) (w : World) (hn : 40 < n) (_hc : n ≤ c) (_hm : n ≤ 140737488355328) :
    Calls Try.prog 53 #[.slice A n c] w fun e w' => e = .returned (.int .i64 8) ∧ w = w' := by
  go_enter Try.func53, Try.ntmps53
  go_wp2
  go_ret
  exact ⟨rfl, rfl⟩

set_option maxHeartbeats 400000 in
theorem check_nil (A : Option Addr) (c : Nat) (w : World) :
    Calls Try.prog 53 #[.slice A 0 c] w fun e w' => e = .returned (.int .i64 0) ∧ w = w' := by
  go_enter Try.func53, Try.ntmps53
  go_wp2
  go_ret
  exact ⟨rfl, rfl⟩

set_option maxHeartbeats 400000 in
theorem check_zero (b off n c : Nat) (w : World) (h0 : 0 < n) (hn : n ≤ 40) (_hc : n ≤ c) (_hm : n ≤ 140737488355328) (hx : w.cell? ⟨b, off + (n - 1), none⟩ = some (.int .u32 0)) :
    Calls Try.prog 53 #[.slice (some ⟨b, off, none⟩) n c] w fun e w' => e = .returned (.int .i64 8) ∧ w = w' := by
  go_enter Try.func53, Try.ntmps53
  go_wp2
  go_ret
  exact ⟨rfl, rfl⟩

set_option maxHeartbeats 400000 in
theorem check_last (b off n c x : Nat) (w : World) (h0 : 0 < n) (hn : n ≤ 40) (_hc : n ≤ c) (_hm : n ≤ 140737488355328) (hx : w.cell? ⟨b, off + (n - 1), none⟩ = some (.int .u32 (x : Int))) (h1 : 0 < x) :
    Calls Try.prog 53 #[.slice (some ⟨b, off, none⟩) n c] w fun e w' => e = .returned (.int .i64 0) ∧ w = w' := by
  have hx0 : (((x : Nat) : Int) == 0) = false := by simp; omega
  go_enter Try.func53, Try.ntmps53
  go_wp2
  go_ret
  exact ⟨rfl, rfl⟩

theorem check_any {B : Nat} {A : Option Addr} {n c : Nat} {f : Nat → Nat} {w : World} (h : Rd w B A n c f) :
    Calls Try.prog 53 #[.slice A n c] w fun e w' => e = .returned (.int .i64 (chk n f)) ∧ w = w' := by
  by_cases hf : Fit n f
  · rw [chk_fit hf]
    obtain ⟨h1, h2⟩ := hf
    rcases Nat.eq_zero_or_pos n with h0 | h0
    · subst h0
      exact check_nil A c w
    · obtain ⟨b, off, rfl, _, hc⟩ := h.at_ h0
      exact check_last b off n c _ w h0 h1 h.cap h.max (hc (n - 1) (by omega)) (Nat.pos_of_ne_zero (h2 h0))
  · rw [chk_bad hf]
    by_cases h1 : n ≤ 40
    · have h0 : 0 < n := by
        rcases Nat.eq_zero_or_pos n with h0 | h0
        · exact absurd ⟨h1, fun h => absurd h (by omega)⟩ hf
        · exact h0
      obtain ⟨b, off, rfl, _, hc⟩ := h.at_ h0
      have hz : f (n - 1) = 0 := by
        rcases Nat.eq_zero_or_pos (f (n - 1)) with hz | hz
        · exact hz
        · exact absurd ⟨h1, fun _ => by omega⟩ hf
      have := hc (n - 1) (by omega)
      rw [hz] at this
      exact check_zero b off n c w h0 h1 h.cap h.max this
    · exact check_long A n c w (by omega) h.cap h.max

end Go.Proofs.Ytdcolnipdipkhaa

