/- Timers, and heaps of them, plainly. -/
namespace Go.Proofs.Ytgcmljnjfghagaa.Tm

abbrev De := Int × Int
/-- One is ahead of another one. -/
def ah (a b : De) : Bool := decide (a.1 < b.1) || decide (a.1 = b.1) && decide (a.2 < b.2)
def may (t : De) : Bool := decide (0 ≤ t.1) && decide (t.1 ≤ 2147483647) && decide (0 ≤ t.2) && decide (t.2 ≤ 1048575)
def le (a b : De) : Prop := ah b a = false
theorem ah_iff (a b : De) : ah a b = true ↔ a.1 < b.1 ∨ a.1 = b.1 ∧ a.2 < b.2 := by unfold ah; simp
theorem le_iff (a b : De) : le a b ↔ a.1 < b.1 ∨ a.1 = b.1 ∧ a.2 ≤ b.2 := by
  unfold le
  rw [← Bool.not_eq_true, ah_iff]
  omega
theorem le_refl (a : De) : le a a := by rw [le_iff]; omega
theorem le_trans {a b c : De} (h : le a b) (k : le b c) : le a c := by rw [le_iff] at *; omega
theorem le_anti {a b : De} (h : le a b) (k : le b a) : a = b := by
  rw [le_iff] at *
  exact Prod.ext (by omega) (by omega)
theorem ah_le {a b : De} (h : ah a b = true) : le a b := by rw [ah_iff] at h; rw [le_iff]; omega
theorem ah_ne {a b : De} (h : ah a b = true) : a ≠ b := by rintro rfl; rw [ah_iff] at h; omega
theorem ah_trans {a b c : De} (h : ah a b = true) (k : ah b c = true) : ah a c = true := by rw [ah_iff] at *; omega
theorem ah_of {a b : De} (h : le a b) (k : a ≠ b) : ah a b = true := by
  cases hq : ah a b with
  | true => rfl
  | false => exact absurd (le_anti h hq) k
theorem not_ah {a b : De} : ah a b = false ↔ le b a := Iff.rfl
theorem ah_le_trans {a b c : De} (h : ah a b = true) (k : le b c) : ah a c = true := by rw [ah_iff] at *; rw [le_iff] at k; omega

def wi (t : De) : List De → List De
  | [] => [t]
  | x :: l => if ah t x = true then t :: x :: l else x :: wi t l
theorem wi_split {t y : De} {b : List De} : ∀ {a : List De}, (∀ x ∈ a, ah t x = false) → ah t y = true → wi t (a ++ y :: b) = a ++ t :: y :: b
  | [], _, h => by simp [wi, h]
  | x :: a, h, k => by
    rw [List.cons_append, wi, if_neg (by rw [h x (by simp)]; simp), wi_split (fun z hz => h z (by simp [hz])) k]
    rfl
theorem wi_last {t : De} : ∀ {a : List De}, (∀ x ∈ a, ah t x = false) → wi t a = a ++ [t]
  | [], _ => rfl
  | x :: a, h => by
    rw [wi, if_neg (by rw [h x (by simp)]; simp), wi_last (fun z hz => h z (by simp [hz]))]
    rfl
theorem wi_perm (t : De) : ∀ l, (wi t l).Perm (t :: l)
  | [] => List.Perm.refl _
  | x :: l => by
    unfold wi
    split
    · exact List.Perm.refl _
    · exact ((wi_perm t l).cons x).trans (List.Perm.swap t x l)
theorem wi_length (t : De) (l : List De) : (wi t l).length = l.length + 1 := (wi_perm t l).length_eq
/-- Each one is ahead of the next one, and so of all behind it. -/
def St (l : List De) : Prop := l.Pairwise (fun a b => ah a b = true)
/-- None is ahead of one that stands before it. -/
def So (l : List De) : Prop := l.Pairwise le
theorem St.so {l : List De} (h : St l) : So l := List.Pairwise.imp (fun h => ah_le h) h
theorem wi_st {t : De} : ∀ {l : List De}, St l → t ∉ l → St (wi t l)
  | [], _, _ => by simp [wi, St]
  | x :: l, h, ht => by
    unfold St at h
    rw [List.pairwise_cons] at h
    unfold wi
    split
    · next hx =>
      unfold St
      rw [List.pairwise_cons, List.pairwise_cons]
      refine ⟨fun y hy => ?_, h.1, h.2⟩
      rcases List.mem_cons.1 hy with rfl | hy
      · exact hx
      · exact ah_trans hx (h.1 y hy)
    · next hx =>
      have hxt : ah x t = true := ah_of (not_ah.1 (by simpa using hx)) (fun e => ht (by rw [e]; simp))
      refine List.pairwise_cons.2 ⟨fun y hy => ?_, wi_st h.2 (fun hm => ht (by simp [hm]))⟩
      rcases List.mem_cons.1 ((wi_perm t l).mem_iff.1 hy) with rfl | hy
      · exact hxt
      · exact h.1 y hy
theorem so_unique {a b : List De} (h : So a) (k : So b) (hp : a.Perm b) : a = b := List.Perm.eq_of_pairwise (fun _ _ _ _ h1 h2 => le_anti h1 h2) h k hp
theorem st_unique : ∀ {a b : List De}, St a → St b → (∀ x, x ∈ a ↔ x ∈ b) → a = b
  | [], [], _, _, _ => rfl
  | [], y :: b, _, _, h => absurd ((h y).2 (by simp)) (by simp)
  | x :: a, [], _, _, h => absurd ((h x).1 (by simp)) (by simp)
  | x :: a, y :: b, ha, hb, h => by
    unfold St at ha hb
    rw [List.pairwise_cons] at ha hb
    have hxy : x = y := by
      rcases List.mem_cons.1 ((h x).1 (by simp)) with e | e
      · exact e
      rcases List.mem_cons.1 ((h y).2 (by simp)) with e2 | e2
      · exact e2.symm
      · exact absurd rfl (ah_ne (ah_trans (hb.1 x e) (ha.1 y e2)))
    subst hxy
    rw [st_unique ha.2 hb.2 (fun z => ?_)]
    constructor
    · intro hz
      rcases List.mem_cons.1 ((h z).1 (by simp [hz])) with e | e
      · subst e
        exact absurd rfl (ah_ne (ha.1 z hz))
      · exact e
    · intro hz
      rcases List.mem_cons.1 ((h z).2 (by simp [hz])) with e | e
      · subst e
        exact absurd rfl (ah_ne (hb.1 z hz))
      · exact e

def ordS (out : List De) (t : De) : List De := if t ∈ out then out else wi t out
def ordL (l : List De) : List De := l.foldl ordS []
theorem ordL_snoc (l : List De) (t : De) : ordL (l ++ [t]) = ordS (ordL l) t := by unfold ordL; rw [List.foldl_append]; rfl
theorem ordL_ok (l : List De) : St (ordL l) ∧ (∀ x, x ∈ ordL l ↔ x ∈ l) ∧ (ordL l).length ≤ l.length := by
  have : ∀ r : List De, St (ordL r.reverse) ∧ (∀ x, x ∈ ordL r.reverse ↔ x ∈ r.reverse) ∧ (ordL r.reverse).length ≤ r.reverse.length := by
    intro r
    induction r with
    | nil => exact ⟨List.Pairwise.nil, fun _ => Iff.rfl, Nat.le_refl _⟩
    | cons t r ih =>
      obtain ⟨h1, h2, h3⟩ := ih
      rw [List.reverse_cons, ordL_snoc]
      unfold ordS
      split
      · next ht =>
        refine ⟨h1, fun x => ?_, by rw [List.length_append]; omega⟩
        rw [h2, List.mem_append]
        constructor
        · exact .inl
        · rintro (h | h)
          · exact h
          · rw [List.mem_singleton.1 h]; exact (h2 t).1 ht
      · next ht =>
        refine ⟨wi_st h1 ht, fun x => ?_, by rw [wi_length, List.length_append, List.length_singleton]; omega⟩
        rw [(wi_perm t _).mem_iff, List.mem_cons, List.mem_append, List.mem_singleton, h2]
        exact Or.comm
  have h := this l.reverse
  rwa [List.reverse_reverse] at h

/-- What Compact leaves. -/
def ddS (out : List De) (x : De) : List De := if out.getLast? = some x then out else out ++ [x]
def dd (l : List De) : List De := l.foldl ddS []
theorem dd_snoc (l : List De) (t : De) : dd (l ++ [t]) = ddS (dd l) t := by unfold dd; rw [List.foldl_append]; rfl
theorem dd_ok (l : List De) : (dd l).getLast? = l.getLast? ∧ (∀ x, x ∈ dd l ↔ x ∈ l) ∧ (So l → St (dd l)) ∧ (dd l).length ≤ l.length := by
  have : ∀ r : List De, (dd r.reverse).getLast? = r.reverse.getLast? ∧ (∀ x, x ∈ dd r.reverse ↔ x ∈ r.reverse) ∧ (So r.reverse → St (dd r.reverse)) ∧ (dd r.reverse).length ≤ r.reverse.length := by
    intro r
    induction r with
    | nil => exact ⟨rfl, fun _ => Iff.rfl, fun _ => List.Pairwise.nil, Nat.le_refl _⟩
    | cons t r ih =>
      obtain ⟨h1, h2, h3, h4⟩ := ih
      rw [List.reverse_cons, dd_snoc]
      unfold ddS
      split
      · next ht =>
        refine ⟨by rw [List.getLast?_append, ht]; rfl, fun x => ?_, fun hs => h3 (List.pairwise_append.1 hs).1, by rw [List.length_append]; omega⟩
        rw [h2, List.mem_append]
        constructor
        · exact .inl
        · rintro (h | h)
          · exact h
          · rw [List.mem_singleton.1 h]; exact (h2 t).1 (List.mem_of_getLast? ht)
      · next ht =>
        refine ⟨by rw [List.getLast?_append, List.getLast?_append]; rfl, fun x => ?_, fun hs => ?_, by rw [List.length_append, List.length_append, List.length_singleton]; omega⟩
        · rw [List.mem_append, List.mem_append, h2]
        · have hs' := List.pairwise_append.1 hs
          have hst := h3 hs'.1
          refine List.pairwise_append.2 ⟨hst, by simp, fun a ha b hb => ?_⟩
          obtain rfl := List.mem_singleton.1 hb
          have hal := hs'.2.2 a ((h2 a).1 ha) b (by simp)
          refine ah_of hal (fun e => ?_)
          subst e
          -- a is there, and not the last one
          apply ht
          cases hq : (dd r.reverse).getLast? with
          | none => rw [List.getLast?_eq_none_iff] at hq; rw [hq] at ha; simp at ha
          | some z =>
            obtain ⟨ys, hys⟩ := List.getLast?_eq_some_iff.1 hq
            rw [hys] at ha hst
            rcases List.mem_append.1 ha with h5 | h5
            · have h6 := (List.pairwise_append.1 hst).2.2 a h5 z (by simp)
              have h7 := hs'.2.2 z ((h2 z).1 (by rw [hys]; simp)) a (by simp)
              exact absurd (ah_le_trans h6 h7) (by intro h; exact absurd rfl (ah_ne h))
            · rw [List.mem_singleton.1 h5]
  have h := this l.reverse
  rwa [List.reverse_reverse] at h
/-- Order, by sorting and dropping those that stand again. -/
theorem ord_dd {l s : List De} (hp : s.Perm l) (hs : So s) : dd s = ordL l :=
  st_unique ((dd_ok s).2.2.1 hs) (ordL_ok l).1 (fun x => by rw [(dd_ok s).2.1, (ordL_ok l).2.1, hp.mem_iff])
theorem set_wi {l s : List De} {t : De} (hl : St l) (ht : t ∉ l) (hp : s.Perm (t :: l)) (hs : So s) : s = wi t l :=
  so_unique hs (wi_st hl ht).so (hp.trans (wi_perm t l).symm)

-- heaps
def R (l : List De) (i j : Nat) : Prop := ∀ a b, l[i]? = some a → l[j]? = some b → le a b
def Hn (l : List De) (n : Nat) : Prop := ∀ k, 0 < k → k < n → R l ((k - 1) / 2) k
def UpI (l : List De) (j : Nat) : Prop := (∀ k, 0 < k → k < l.length → k ≠ j → R l ((k - 1) / 2) k) ∧ (∀ k, 0 < k → k < l.length → (k - 1) / 2 = j → 0 < j → R l ((j - 1) / 2) k)
def DnI (l : List De) (n i : Nat) : Prop := (∀ k, 0 < k → k < n → (k - 1) / 2 ≠ i → R l ((k - 1) / 2) k) ∧ (0 < i → ∀ k, 0 < k → k < n → (k - 1) / 2 = i → R l ((i - 1) / 2) k)
def sw (l : List De) (i j : Nat) (x y : De) : List De := (l.set i y).set j x
theorem sw_length (l : List De) (i j : Nat) (x y : De) : (sw l i j x y).length = l.length := by unfold sw; rw [List.length_set, List.length_set]
theorem sw_perm {l : List De} {i j : Nat} {x y : De} (hi : l[i]? = some x) (hj : l[j]? = some y) : (sw l i j x y).Perm l := by
  obtain ⟨hil, hi⟩ := List.getElem?_eq_some_iff.1 hi
  obtain ⟨hjl, hj⟩ := List.getElem?_eq_some_iff.1 hj
  rw [List.perm_iff_count]
  intro a
  unfold sw
  rw [List.count_set (by rw [List.length_set]; exact hjl), List.count_set hil, List.getElem_set, hi]
  have c1 : l.count a ≥ if (x == a) = true then 1 else 0 := by
    split
    · next h =>
      have : x = a := by simpa using h
      subst this
      exact List.one_le_count_iff.2 (by rw [← hi]; exact List.getElem_mem _)
    · omega
  by_cases hij : i = j
  · subst hij
    have hxy : x = y := by rw [← hi, ← hj]
    subst hxy
    rw [if_pos rfl]
    omega
  · rw [if_neg hij, hj]
    generalize l.count a = q at c1 ⊢
    by_cases h1 : (x == a) = true <;> by_cases h2 : (y == a) = true
    · rw [if_pos h1] at c1; rw [if_pos h1, if_pos h2]; omega
    · rw [if_pos h1] at c1; rw [if_pos h1, if_neg h2]; omega
    · rw [if_neg h1, if_pos h2]; omega
    · rw [if_neg h1, if_neg h2]; omega
theorem sw_get {l : List De} {i j : Nat} {x y : De} (k : Nat) (hi : i < l.length) (hj : j < l.length) : (sw l i j x y)[k]? = if k = j then some x else if k = i then some y else l[k]? := by
  unfold sw
  rw [List.getElem?_set, List.length_set, List.getElem?_set]
  by_cases h1 : k = j
  · rw [if_pos h1.symm, if_pos h1, if_pos hj]
  · rw [if_neg (fun e => h1 e.symm), if_neg h1]
    by_cases h2 : k = i
    · rw [if_pos h2.symm, if_pos h2, if_pos hi]
    · rw [if_neg (fun e => h2 e.symm), if_neg h2]

theorem up_start {l : List De} {t : De} (h : Hn l l.length) : UpI (l ++ [t]) l.length := by
  refine ⟨fun k h0 hk hn a b ha hb => ?_, fun k h0 hk he => ?_⟩
  · rw [List.length_append, List.length_singleton] at hk
    rw [List.getElem?_append_left (by omega)] at ha hb
    exact h k h0 (by omega) a b ha hb
  · rw [List.length_append, List.length_singleton] at hk
    omega
theorem up_step {l : List De} {i j : Nat} {x y : De} (h : UpI l j) (hj : 0 < j) (hi : i = (j - 1) / 2) (hx : l[i]? = some x) (hy : l[j]? = some y) (hl : ah y x = true) : UpI (sw l i j x y) i := by
  have hil := (List.getElem?_eq_some_iff.1 hx).1
  have hjl := (List.getElem?_eq_some_iff.1 hy).1
  have hij : i < j := by omega
  have hyx := ah_le hl
  refine ⟨fun k h0 hk hki a b ha hb => ?_, fun k h0 hk he hi0 a b ha hb => ?_⟩
  · rw [sw_length] at hk
    rw [sw_get _ hil hjl] at ha hb
    by_cases hkj : k = j
    · subst hkj
      rw [if_pos rfl] at hb
      rw [if_neg (by omega), if_pos hi.symm] at ha
      injection ha with ha
      injection hb with hb
      rw [← ha, ← hb]
      exact hyx
    rw [if_neg hkj, if_neg hki] at hb
    by_cases hp : (k - 1) / 2 = j
    · rw [if_pos hp] at ha
      injection ha with ha
      rw [← ha]
      exact h.2 k h0 hk hp hj x b (by rw [← hi]; exact hx) hb
    rw [if_neg hp] at ha
    by_cases hp2 : (k - 1) / 2 = i
    · rw [if_pos hp2] at ha
      injection ha with ha
      rw [← ha]
      exact le_trans hyx (h.1 k h0 hk hkj x b (by rw [hp2]; exact hx) hb)
    rw [if_neg hp2] at ha
    exact h.1 k h0 hk hkj a b ha hb
  · rw [sw_length] at hk
    rw [sw_get _ hil hjl] at ha hb
    rw [if_neg (by omega), if_neg (by omega)] at ha
    have hax : le a x := h.1 i hi0 hil (by omega) a x ha hx
    by_cases hkj : k = j
    · rw [if_pos hkj] at hb
      injection hb with hb
      rw [← hb]
      exact hax
    · rw [if_neg hkj, if_neg (by omega)] at hb
      exact le_trans hax (h.1 k h0 hk hkj x b (by rw [he]; exact hx) hb)
theorem up_zero {l : List De} (h : UpI l 0) : Hn l l.length := fun k h0 hk => h.1 k h0 hk (by omega)
theorem up_stop {l : List De} {i j : Nat} {x y : De} (h : UpI l j) (hi : i = (j - 1) / 2) (hx : l[i]? = some x) (hy : l[j]? = some y) (hl : ah y x = false) : Hn l l.length := fun k h0 hk => by
  by_cases hkj : k = j
  · subst hkj
    intro a b ha hb
    rw [← hi, hx] at ha
    rw [hy] at hb
    injection ha with ha
    injection hb with hb
    rw [← ha, ← hb]
    exact hl
  · exact h.1 k h0 hk hkj

theorem dn_start {l : List De} {n : Nat} {x y : De} (h : Hn l (n + 1)) (hn : l.length = n + 1) : DnI (sw l 0 n x y) n 0 := by
  refine ⟨fun k h0 hk hp a b ha hb => ?_, fun h0 => absurd h0 (by omega)⟩
  rw [sw_get _ (by omega) (by omega), if_neg (by omega), if_neg (by omega)] at ha hb
  exact h k h0 (by omega) a b ha hb
theorem dn_step {l : List De} {n i j : Nat} {x y : De} (h : DnI l n i) (hjn : j < n) (hj0 : 0 < j) (hji : (j - 1) / 2 = i) (hmin : ∀ k, 0 < k → k < n → (k - 1) / 2 = i → R l j k) (hx : l[i]? = some x) (hy : l[j]? = some y) (hl : ah y x = true) : DnI (sw l i j x y) n j := by
  have hil := (List.getElem?_eq_some_iff.1 hx).1
  have hjl := (List.getElem?_eq_some_iff.1 hy).1
  have hij : i < j := by omega
  have hyx := ah_le hl
  refine ⟨fun k h0 hk hp a b ha hb => ?_, fun _ k h0 hk he a b ha hb => ?_⟩
  · rw [sw_get _ hil hjl] at ha hb
    rw [if_neg hp] at ha
    by_cases hkj : k = j
    · subst hkj
      rw [if_pos rfl] at hb
      rw [if_pos hji] at ha
      injection ha with ha
      injection hb with hb
      rw [← ha, ← hb]
      exact hyx
    rw [if_neg hkj] at hb
    by_cases hki : k = i
    · rw [if_pos hki] at hb
      injection hb with hb
      rw [← hb]
      rw [if_neg (by omega)] at ha
      exact h.2 (by omega) j hj0 hjn hji a y (by rw [← hki]; exact ha) hy
    rw [if_neg hki] at hb
    by_cases hp2 : (k - 1) / 2 = i
    · rw [if_pos hp2] at ha
      injection ha with ha
      rw [← ha]
      exact hmin k h0 hk hp2 y b hy hb
    rw [if_neg hp2] at ha
    exact h.1 k h0 hk hp2 a b ha hb
  · rw [sw_get _ hil hjl] at ha hb
    rw [hji, if_neg (by omega), if_pos rfl] at ha
    rw [if_neg (by omega), if_neg (by omega)] at hb
    injection ha with ha
    rw [← ha]
    exact h.1 k h0 hk (by omega) y b (by rw [he]; exact hy) hb
theorem dn_leaf {l : List De} {n i : Nat} (h : DnI l n i) (hi : n ≤ 2 * i + 1) : Hn l n := fun k h0 hk => h.1 k h0 hk (by omega)
theorem dn_stop {l : List De} {n i j : Nat} {x y : De} (h : DnI l n i) (hmin : ∀ k, 0 < k → k < n → (k - 1) / 2 = i → R l j k) (hx : l[i]? = some x) (hy : l[j]? = some y) (hl : ah y x = false) : Hn l n := fun k h0 hk => by
  by_cases hp : (k - 1) / 2 = i
  · intro a b ha hb
    rw [hp, hx] at ha
    injection ha with ha
    rw [← ha]
    exact le_trans hl (hmin k h0 hk hp y b hy hb)
  · exact h.1 k h0 hk hp
theorem root {l : List De} {x : De} (h : Hn l l.length) (hx : l[0]? = some x) : ∀ y ∈ l, le x y := by
  have : ∀ (m k : Nat), k ≤ m → ∀ y : De, l[k]? = some y → le x y := by
    intro m
    induction m with
    | zero => intro k hk y hy; obtain rfl : k = 0 := by omega
              rw [hx] at hy; injection hy with hy; rw [← hy]; exact le_refl _
    | succ m ih =>
      intro k hk y hy
      rcases Nat.eq_zero_or_pos k with rfl | h0
      · rw [hx] at hy; injection hy with hy; rw [← hy]; exact le_refl _
      · have hkl := (List.getElem?_eq_some_iff.1 hy).1
        obtain ⟨p, hp⟩ : ∃ p, l[(k - 1) / 2]? = some p := ⟨_, List.getElem?_eq_getElem (by omega)⟩
        exact le_trans (ih _ (by omega) p hp) (h k h0 hkl p y hp hy)
  intro y hy
  obtain ⟨k, hk⟩ := List.mem_iff_getElem?.1 hy
  exact this k k (Nat.le_refl _) y hk
theorem hn_take {l : List De} {n : Nat} (h : Hn l n) (hn : n ≤ l.length) : Hn (l.take n) (l.take n).length := by
  rw [List.length_take, Nat.min_eq_left hn]
  intro k h0 hk a b ha hb
  rw [List.getElem?_take, if_pos (by omega)] at ha hb
  exact h k h0 hk a b ha hb
theorem take_perm {l : List De} {n : Nat} {x : De} (hn : l.length = n + 1) (hx : l[n]? = some x) : (x :: l.take n).Perm l := by
  have h1 : l = l.take n ++ [x] := by
    obtain ⟨h, hx⟩ := List.getElem?_eq_some_iff.1 hx
    rw [← hx, List.take_append_getElem, List.take_of_length_le (by omega)]
  have h2 := (List.perm_append_comm (l₁ := [x]) (l₂ := l.take n))
  rw [← h1] at h2
  exact h2
/-- Timers in order are a heap as they lie. -/
theorem st_heap {l : List De} (h : So l) : Hn l l.length := fun k h0 hk a b ha hb => by
  have h2 := List.pairwise_iff_getElem.1 h ((k - 1) / 2) k (by omega) hk (by omega)
  obtain ⟨_, rfl⟩ := List.getElem?_eq_some_iff.1 ha
  obtain ⟨_, rfl⟩ := List.getElem?_eq_some_iff.1 hb
  exact h2
end Go.Proofs.Ytgcmljnjfghagaa.Tm
