/- The best descriptors, told by what is in them. No program is named here. -/
import Derived.Test.YtdemhghflanncaaKmath
namespace Go.Proofs.Ytdemhghflanncaa

/-- Each one is fresher than all behind it. -/
def Str (l : List De) : Prop := l.Pairwise (fun a b => fr a b = true)
/-- No Id twice. -/
def Ids (l : List De) : Prop := l.Pairwise (fun a b => a.1 ≠ b.1)
theorem stp_sublist (r : List De) (d : De) : (stp r d).Sublist (r ++ [d]) := by
  unfold stp
  split
  · exact List.sublist_append_left _ _
  · exact List.Sublist.refl _
theorem foldl_stp_sublist : ∀ (l r : List De), (l.foldl stp r).Sublist (r ++ l)
  | [], r => by rw [List.append_nil]; exact List.Sublist.refl _
  | d :: l, r => by
    rw [List.foldl_cons]
    refine (foldl_stp_sublist l _).trans ?_
    have := (stp_sublist r d).append (List.Sublist.refl l)
    rwa [List.append_assoc] at this
theorem fsts_sublist (l : List De) : (fsts l).Sublist l := foldl_stp_sublist l []
theorem stp_ids {r : List De} {d : De} (h : Ids r) : Ids (stp r d) := by
  unfold stp
  split
  · exact h
  · next hn =>
    refine List.pairwise_append.2 ⟨h, List.pairwise_singleton _ _, fun a ha b hb => ?_⟩
    rw [List.mem_singleton] at hb
    subst hb
    intro e
    exact hn (List.any_eq_true.2 ⟨a, ha, by simp [e]⟩)
theorem foldl_ids : ∀ (l r : List De), Ids r → Ids (l.foldl stp r)
  | [], _, h => h
  | _ :: l, _, h => foldl_ids l _ (stp_ids h)
theorem fsts_ids (l : List De) : Ids (fsts l) := foldl_ids l [] List.Pairwise.nil
theorem fsts_str {l : List De} (h : Ord l) : Str (fsts l) := by
  have h1 : Ord (fsts l) := h.sublist (fsts_sublist l)
  refine (h1.and (fsts_ids l)).imp ?_
  intro a b hab
  cases hf : fr a b with
  | true => rfl
  | false => exact absurd (congrArg Prod.fst (fr_total hf hab.1)) hab.2
theorem mem_fsts_rev : ∀ r : List De, Ord r.reverse → ∀ d, d ∈ fsts r.reverse ↔ d ∈ r.reverse ∧ ∀ e ∈ r.reverse, e.1 = d.1 → e.2 ≤ d.2
  | [], _, d => by simp [fsts]
  | x :: r, h, d => by
    rw [List.reverse_cons] at h ⊢
    obtain ⟨h1, _, h3⟩ := List.pairwise_append.1 h
    have ih := mem_fsts_rev r h1 d
    rw [fsts_snoc]
    unfold stp
    have hx : ∀ y ∈ r.reverse, fr x y = false := fun y hy => h3 y hy x List.mem_cons_self
    have hx2 : ∀ y ∈ r.reverse, y.1 = x.1 → x.2 ≤ y.2 := fun y hy e => by
      have := hx y hy
      unfold fr at this
      split at this <;> simp at this <;> omega
    rw [any_fsts]
    by_cases hy : r.reverse.any (fun y => y.1 == x.1) = true
    · rw [if_pos hy, ih]
      obtain ⟨y, hy1, hy2⟩ := List.any_eq_true.1 hy
      have hy2 : y.1 = x.1 := by simpa using hy2
      constructor
      · rintro ⟨hd, hall⟩
        refine ⟨List.mem_append_left _ hd, fun e he hid => ?_⟩
        rcases List.mem_append.1 he with he | he
        · exact hall e he hid
        · rw [List.mem_singleton] at he
          subst he
          exact hx2 d hd hid.symm
      · rintro ⟨hd, hall⟩
        have hall' : ∀ e ∈ r.reverse, e.1 = d.1 → e.2 ≤ d.2 := fun e he => hall e (List.mem_append_left _ he)
        refine ⟨?_, hall'⟩
        rcases List.mem_append.1 hd with hd | hd
        · exact hd
        · rw [List.mem_singleton] at hd
          subst hd
          have a := hall' y hy1 hy2
          have b := hx2 y hy1 hy2
          have : d = y := Prod.ext hy2.symm (by omega)
          rw [this]
          exact hy1
    · rw [if_neg hy, List.mem_append, List.mem_singleton, ih]
      have hno : ∀ y ∈ r.reverse, y.1 ≠ x.1 := fun y hy1 e => hy (List.any_eq_true.2 ⟨y, hy1, by simp [e]⟩)
      constructor
      · rintro (⟨hd, hall⟩ | rfl)
        · refine ⟨List.mem_append_left _ hd, fun e he hid => ?_⟩
          rcases List.mem_append.1 he with he | he
          · exact hall e he hid
          · rw [List.mem_singleton] at he
            subst he
            exact absurd hid.symm (hno d hd)
        · refine ⟨List.mem_append_right _ List.mem_cons_self, fun e he hid => ?_⟩
          rcases List.mem_append.1 he with he | he
          · exact absurd hid (hno e he)
          · rw [List.mem_singleton] at he
            subst he
            exact Int.le_refl _
      · rintro ⟨hd, hall⟩
        rcases List.mem_append.1 hd with hd | hd
        · exact .inl ⟨hd, fun e he => hall e (List.mem_append_left _ he)⟩
        · rw [List.mem_singleton] at hd
          exact .inr hd
theorem mem_fsts {l : List De} (h : Ord l) (d : De) : d ∈ fsts l ↔ d ∈ l ∧ ∀ e ∈ l, e.1 = d.1 → e.2 ≤ d.2 := by
  have := mem_fsts_rev l.reverse
  rw [List.reverse_reverse] at this
  exact this h d
/-- The best ones. -/
def top (l : List De) : List De := fsts (srt l)
theorem top_str (l : List De) : Str (top l) := fsts_str (srt_ord l)
theorem top_ids (l : List De) : Ids (top l) := fsts_ids _
theorem mem_top {l : List De} {d : De} : d ∈ top l ↔ d ∈ l ∧ ∀ e ∈ l, e.1 = d.1 → e.2 ≤ d.2 := by
  unfold top
  rw [mem_fsts (srt_ord l)]
  simp only [mem_srt]
theorem top_has {l : List De} {e : De} (h : e ∈ l) : ∃ d ∈ top l, d.1 = e.1 ∧ e.2 ≤ d.2 := by
  have h1 : (top l).any (fun x => x.1 == e.1) = true := by
    unfold top
    rw [any_fsts]
    exact List.any_eq_true.2 ⟨e, mem_srt.2 h, by simp⟩
  obtain ⟨d, hd, hid⟩ := List.any_eq_true.1 h1
  have hid : d.1 = e.1 := by simpa using hid
  exact ⟨d, hd, hid, (mem_top.1 hd).2 e h hid.symm⟩
theorem top_length_le (l : List De) : (top l).length ≤ l.length := by
  have := (fsts_sublist (srt l)).length_le
  rwa [srt_length] at this
theorem Str.nodup {l : List De} (h : Str l) : l.Nodup := h.imp fun {a b} hab e => by
  subst e
  rw [fr_irrefl] at hab
  cases hab
theorem str_ext {l m : List De} (h : Str l) (k : Str m) (hm : ∀ d, d ∈ l ↔ d ∈ m) : l = m :=
  List.Perm.eq_of_pairwise (le := fun a b => fr a b = true) (fun a b _ _ x y => by rw [fr_asymm x] at y; cases y) h k ((List.perm_ext_iff_of_nodup h.nodup k.nodup).2 hm)
theorem top_congr {l m : List De} (h : ∀ d, d ∈ l ↔ d ∈ m) : top l = top m := str_ext (top_str l) (top_str m) fun d => by
  rw [mem_top, mem_top]
  constructor
  · rintro ⟨a, b⟩
    exact ⟨(h d).1 a, fun e he => b e ((h e).2 he)⟩
  · rintro ⟨a, b⟩
    exact ⟨(h d).2 a, fun e he => b e ((h e).1 he)⟩
theorem top_top (l : List De) : top (top l) = top l := str_ext (top_str _) (top_str _) fun d => by
  rw [mem_top]
  constructor
  · exact fun h => h.1
  · exact fun h => ⟨h, fun e he hid => (mem_top.1 h).2 e (mem_top.1 he).1 hid⟩
theorem top_join (l m : List De) : top (top l ++ m) = top (l ++ m) := str_ext (top_str _) (top_str _) fun d => by
  rw [mem_top, mem_top]
  simp only [List.mem_append]
  constructor
  · rintro ⟨a, b⟩
    refine ⟨a.imp (fun h => (mem_top.1 h).1) id, fun e he hid => ?_⟩
    rcases he with he | he
    · obtain ⟨e', h1, h2, h3⟩ := top_has he
      have := b e' (.inl h1) (h2.trans hid)
      omega
    · exact b e (.inr he) hid
  · rintro ⟨a, b⟩
    have hall : ∀ e, e ∈ top l ∨ e ∈ m → e.1 = d.1 → e.2 ≤ d.2 := fun e he hid => b e (he.imp (fun h => (mem_top.1 h).1) id) hid
    refine ⟨?_, hall⟩
    rcases a with a | a
    · exact .inl (mem_top.2 ⟨a, fun e he hid => b e (.inl he) hid⟩)
    · exact .inr a
/-- Of each Id that there is there is just one. -/
theorem top_one {l : List De} {d : De} (h : d ∈ l) : ((top l).filter (fun x => x.1 == d.1)).length = 1 := by
  obtain ⟨e, he, hid, _⟩ := top_has h
  have hn : (((top l).filter (fun x => x.1 == d.1))).Pairwise (fun a b : De => a.1 ≠ b.1) := (top_ids l).sublist List.filter_sublist
  have hm : e ∈ (top l).filter (fun x => x.1 == d.1) := List.mem_filter.2 ⟨he, by simp [hid]⟩
  have hall : ∀ x ∈ (top l).filter (fun x => x.1 == d.1), x.1 = d.1 := fun x hx => by simpa using (List.mem_filter.1 hx).2
  generalize (top l).filter (fun x => x.1 == d.1) = r at hn hm hall
  match r, hn, hm, hall with
  | [_], _, _, _ => rfl
  | a :: b :: r, hn, _, hall =>
    have h1 := (List.pairwise_cons.1 hn).1 b List.mem_cons_self
    exact absurd ((hall a List.mem_cons_self).trans (hall b (List.mem_cons_of_mem _ List.mem_cons_self)).symm) h1
/-- The error counts descriptors and looks whether all may be. -/
theorem chk_zero {l : List De} : chk l = 0 ↔ l.length ≤ 64 ∧ l.any bad = false := by
  unfold chk
  split
  · constructor
    · intro h; cases h
    · intro h; omega
  · split
    · next h => constructor
                · intro h0; cases h0
                · rintro ⟨_, h0⟩; rw [h] at h0; cases h0
    · next h1 h => exact ⟨fun _ => ⟨by omega, by simpa using h⟩, fun _ => rfl⟩
theorem any_bad_mem {l m : List De} (h : ∀ d, d ∈ l → d ∈ m) (k : m.any bad = false) : l.any bad = false := by
  rw [List.any_eq_false] at k ⊢
  exact fun d hd => k d (h d hd)
end Go.Proofs.Ytdemhghflanncaa
