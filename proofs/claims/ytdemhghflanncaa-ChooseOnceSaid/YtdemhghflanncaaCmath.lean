/- Caches as lists of descriptors: what is taken in, told, and kept. No program is named here. -/
import Derived.Test.YtdemhghflanncaaKmor
namespace Go.Proofs.Ytdemhghflanncaa

/-- Those of other nodes. -/
def oth (own : Int) (l : List De) : List De := l.filter (fun d => decide (d.1 ≠ own))
theorem oth_append (own : Int) (l m : List De) : oth own (l ++ m) = oth own l ++ oth own m := List.filter_append ..
theorem mem_oth {own : Int} {l : List De} {d : De} : d ∈ oth own l ↔ d ∈ l ∧ d.1 ≠ own := by
  unfold oth
  rw [List.mem_filter]
  simp
/-- The freshest c of the best ones. -/
def kp (c : Nat) (l : List De) : List De := (top l).take c
theorem kp_length (c : Nat) (l : List De) : (kp c l).length ≤ c := List.length_take_le _ _

theorem nodup_length : ∀ {l m : List Int}, l.Nodup → (∀ x, x ∈ l → x ∈ m) → l.length ≤ m.length
  | [], m, _, _ => Nat.zero_le _
  | x :: l, m, hn, hs => by
    have h1 := List.nodup_cons.1 hn
    have hx := hs x List.mem_cons_self
    have h2 : l.length ≤ (m.erase x).length := nodup_length h1.2 (fun y hy => by
      have hne : y ≠ x := fun e => h1.1 (e ▸ hy)
      exact (List.mem_erase_of_ne hne).2 (hs y (List.mem_cons_of_mem _ hy)))
    rw [List.length_erase_of_mem hx] at h2
    have : 0 < m.length := List.length_pos_of_mem hx
    rw [List.length_cons]
    omega
/-- How many are fresher than d. -/
def fc (l : List De) (d : De) : Nat := l.countP (fun x => fr x d)
theorem ids_nodup {l : List De} (h : Ids l) (p : De → Bool) : ((l.filter p).map Prod.fst).Nodup := by
  have h1 : (l.filter p).Pairwise (fun a b : De => a.1 ≠ b.1) := List.Pairwise.sublist List.filter_sublist h
  exact List.pairwise_map.2 h1
theorem fc_le {l m : List De} {d : De} (h : Ids l) (hs : ∀ x, x ∈ l → fr x d = true → ∃ y ∈ m, y.1 = x.1 ∧ fr y d = true) : fc l d ≤ fc m d := by
  unfold fc
  rw [List.countP_eq_length_filter, List.countP_eq_length_filter]
  have := nodup_length (m := ((m.filter fun x => fr x d).map Prod.fst)) (ids_nodup h fun x => fr x d) (fun i hi => by
    obtain ⟨x, hx, rfl⟩ := List.mem_map.1 hi
    obtain ⟨h1, h2⟩ := List.mem_filter.1 hx
    obtain ⟨y, hy, h3, h4⟩ := hs x h1 h2
    exact List.mem_map.2 ⟨y, List.mem_filter.2 ⟨hy, h4⟩, h3⟩)
  simpa using this
theorem take_mem : ∀ {l : List De} (c : Nat) (d : De), Str l → (d ∈ l.take c ↔ d ∈ l ∧ fc l d < c)
  | [], c, d, _ => by simp
  | x :: l, 0, d, _ => by simp
  | x :: l, c + 1, d, h => by
    obtain ⟨h1, h2⟩ := List.pairwise_cons.1 h
    have ih := take_mem c d h2
    rw [List.take_succ_cons, List.mem_cons, List.mem_cons, ih]
    unfold fc
    rw [List.countP_cons]
    constructor
    · rintro (rfl | ⟨h3, h4⟩)
      · refine ⟨.inl rfl, ?_⟩
        rw [if_neg (by rw [fr_irrefl]; simp), List.countP_eq_zero.2 (fun y hy => by rw [fr_asymm (h1 y hy)]; simp)]
        omega
      · refine ⟨.inr h3, ?_⟩
        rw [if_pos (h1 d h3)]
        omega
    · rintro ⟨rfl | h3, h4⟩
      · exact .inl rfl
      · rw [if_pos (h1 d h3)] at h4
        refine .inr ⟨h3, ?_⟩
        omega
theorem mem_kp {c : Nat} {l : List De} {d : De} : d ∈ kp c l ↔ d ∈ top l ∧ fc (top l) d < c := take_mem c d (top_str l)
theorem kp_str (c : Nat) (l : List De) : Str (kp c l) := List.Pairwise.sublist (List.take_sublist _ _) (top_str l)
theorem kp_ids (c : Nat) (l : List De) : Ids (kp c l) := List.Pairwise.sublist (List.take_sublist _ _) (top_ids l)
theorem kp_mem {c : Nat} {l : List De} {d : De} (h : d ∈ kp c l) : d ∈ l := (mem_top.1 (mem_kp.1 h).1).1
/-- Where one of the best ones is left out, c others are kept, all fresher. -/
theorem left_out {c : Nat} {l : List De} {t : De} (ht : t ∈ top l) (hn : t ∉ kp c l) : (kp c l).length = c ∧ ∀ x, x ∈ kp c l → fr x t = true := by
  have hs := top_str l
  unfold kp at *
  rw [← List.take_append_drop c (top l)] at ht hs
  have hd : t ∈ (top l).drop c := (List.mem_append.1 ht).resolve_left hn
  have hlen : 0 < ((top l).drop c).length := List.length_pos_of_mem hd
  rw [List.length_drop] at hlen
  refine ⟨by rw [List.length_take]; omega, fun x hx => ?_⟩
  exact (List.pairwise_append.1 hs).2.2 x hx t hd
theorem as_fresh {p q d : De} (_h1 : p.1 = q.1) (h2 : q.2 ≤ p.2) (h : fr q d = true) : fr p d = true := by
  obtain ⟨p1, p2⟩ := p
  obtain ⟨q1, q2⟩ := q
  obtain ⟨d1, d2⟩ := d
  unfold fr at *
  split at h <;> split <;> simp at * <;> omega
theorem older {e d : De} (_h1 : e.1 = d.1) (h2 : d.2 < e.2) : fr e d = true := by
  unfold fr
  rw [if_neg (by omega)]
  simpa using h2
theorem fc_top {l m : List De} {d : De} (h : ∀ x, x ∈ l → x ∈ m) (hi : Ids l) : fc l d ≤ fc (top m) d := fc_le hi fun x hx hf => by
  obtain ⟨y, hy, h1, h2⟩ := top_has (h x hx)
  exact ⟨y, hy, h1, as_fresh h1 h2 hf⟩
theorem fc_all {l : List De} {d : De} (h : ∀ x, x ∈ l → fr x d = true) : fc l d = l.length := by
  unfold fc
  rw [List.countP_eq_length]
  exact h
/-- What is kept first, and then with more, is what is kept of all. -/
theorem kp_join (c : Nat) (l m : List De) : kp c (kp c l ++ m) = kp c (l ++ m) := by
  have hsub : ∀ x, x ∈ kp c l ++ m → x ∈ l ++ m := fun x hx => by
    rcases List.mem_append.1 hx with h | h
    · exact List.mem_append_left _ (kp_mem h)
    · exact List.mem_append_right _ h
  refine str_ext (kp_str _ _) (kp_str _ _) fun d => ?_
  constructor
  · intro hd
    obtain ⟨h1, h2⟩ := mem_kp.1 hd
    obtain ⟨h3, h4⟩ := mem_top.1 h1
    -- none of l that is left out is fresher than d
    have hno : ∀ t, t ∈ top l → fr t d = true → t ∈ kp c l := fun t ht hf => by
      refine Decidable.byContradiction fun hn => ?_
      obtain ⟨h5, h6⟩ := left_out ht hn
      have h7 : fc (kp c l) d = c := by rw [fc_all fun x hx => fr_trans (h6 x hx) hf, h5]
      have h8 : fc (kp c l) d ≤ fc (top (kp c l ++ m)) d := fc_top (fun x hx => List.mem_append_left _ hx) (kp_ids c l)
      omega
    have hbest : ∀ e, e ∈ l ++ m → e.1 = d.1 → e.2 ≤ d.2 := fun e he hid => by
      rcases List.mem_append.1 he with he | he
      · obtain ⟨t, ht, h5, h6⟩ := top_has he
        rcases Int.lt_or_le d.2 t.2 with h7 | h7
        · have h8 := hno t ht (older (h5.trans hid) h7)
          have := h4 t (List.mem_append_left _ h8) (h5.trans hid)
          omega
        · omega
      · exact h4 e (List.mem_append_right _ he) hid
    refine mem_kp.2 ⟨mem_top.2 ⟨hsub d h3, hbest⟩, Nat.lt_of_le_of_lt (fc_le (top_ids _) fun p hp hf => ?_) h2⟩
    obtain ⟨h5, h6⟩ := mem_top.1 hp
    rcases List.mem_append.1 h5 with h7 | h7
    · have h8 : p ∈ top l := mem_top.2 ⟨h7, fun e he => h6 e (List.mem_append_left _ he)⟩
      obtain ⟨y, hy, h9, h10⟩ := top_has (List.mem_append_left m (hno p h8 hf))
      exact ⟨y, hy, h9, as_fresh h9 h10 hf⟩
    · obtain ⟨y, hy, h9, h10⟩ := top_has (List.mem_append_right (kp c l) h7)
      exact ⟨y, hy, h9, as_fresh h9 h10 hf⟩
  · intro hd
    obtain ⟨h1, h2⟩ := mem_kp.1 hd
    obtain ⟨h3, h4⟩ := mem_top.1 h1
    have hin : d ∈ kp c l ++ m := by
      rcases List.mem_append.1 h3 with h5 | h5
      · refine List.mem_append_left _ (mem_kp.2 ⟨mem_top.2 ⟨h5, fun e he => h4 e (List.mem_append_left _ he)⟩, ?_⟩)
        exact Nat.lt_of_le_of_lt (fc_top (fun x hx => List.mem_append_left _ (mem_top.1 hx).1) (top_ids l)) h2
      · exact List.mem_append_right _ h5
    exact mem_kp.2 ⟨mem_top.2 ⟨hin, fun e he => h4 e (hsub e he)⟩, Nat.lt_of_le_of_lt (fc_top (fun x hx => hsub x (mem_top.1 hx).1) (top_ids _)) h2⟩
theorem kp_congr {c : Nat} {l m : List De} (h : ∀ d, d ∈ l ↔ d ∈ m) : kp c l = kp c m := by
  unfold kp
  rw [top_congr h]
/-- A list that is in order, with no Id twice, is its best one. -/
theorem top_self {l : List De} (hs : Str l) (hi : Ids l) : top l = l := str_ext (top_str l) hs fun d => by
  rw [mem_top]
  refine ⟨fun h => h.1, fun h => ⟨h, fun e he hid => ?_⟩⟩
  rcases Int.lt_or_le d.2 e.2 with h1 | h1
  · have hne : e ≠ d := fun x => by rw [x] at h1; omega
    obtain ⟨i, hi1, rfl⟩ := List.mem_iff_getElem.1 h
    obtain ⟨j, hj1, rfl⟩ := List.mem_iff_getElem.1 he
    rcases Nat.lt_trichotomy i j with h2 | h2 | h2
    · exact absurd hid.symm (List.pairwise_iff_getElem.1 hi i j hi1 hj1 h2)
    · subst h2
      exact absurd rfl hne
    · exact absurd hid (List.pairwise_iff_getElem.1 hi j i hj1 hi1 h2)
  · exact h1
theorem oth_self {own : Int} {l : List De} (h : ∀ d, d ∈ l → d.1 ≠ own) : oth own l = l := List.filter_eq_self.2 fun d hd => by simpa using h d hd

/-- A cache may be. -/
def CMay (own cap : Int) (l : List De) : Prop := 0 ≤ own ∧ own < 8 ∧ 1 ≤ cap ∧ cap ≤ 6 ∧ (l.length : Int) ≤ cap ∧ chk l = 0 ∧ l = top (oth own l)
instance (own cap : Int) (l : List De) : Decidable (CMay own cap l) := by unfold CMay; infer_instance
/-- Descriptors are taken in. -/
def tkn (own : Int) (cap : Nat) (l m : List De) : List De := kp cap (oth own (l ++ m))
theorem tkn_oth {own : Int} {cap : Nat} {l m : List De} : ∀ d, d ∈ tkn own cap l m → d.1 ≠ own := fun _ hd => (mem_oth.1 (kp_mem hd)).2
theorem tkn_mem {own : Int} {cap : Nat} {l m : List De} {d : De} (hd : d ∈ tkn own cap l m) : d ∈ l ++ m := (mem_oth.1 (kp_mem hd)).1
theorem tkn_tkn (own : Int) (cap : Nat) (l m n : List De) : tkn own cap (tkn own cap l m) n = tkn own cap l (m ++ n) := by
  unfold tkn
  rw [oth_append, oth_self (own := own) (l := kp cap (oth own (l ++ m))) (fun d hd => (mem_oth.1 (kp_mem hd)).2), kp_join, ← oth_append, List.append_assoc]
theorem tkn_congr {own : Int} {cap : Nat} {l m n : List De} (h : ∀ d, d ∈ m ↔ d ∈ n) : tkn own cap l m = tkn own cap l n := kp_congr fun d => by
  rw [mem_oth, mem_oth, List.mem_append, List.mem_append, h d]
theorem tkn_twice (own : Int) (cap : Nat) (l m : List De) : tkn own cap (tkn own cap l m) m = tkn own cap l m := by
  rw [tkn_tkn]
  exact tkn_congr fun d => by simp
theorem tkn_swap (own : Int) (cap : Nat) (l m n : List De) : tkn own cap (tkn own cap l m) n = tkn own cap (tkn own cap l n) m := by
  rw [tkn_tkn, tkn_tkn]
  exact tkn_congr fun d => by simp [or_comm]
theorem cmay_tkn {own cap : Int} {l m : List De} (h : CMay own cap l) (hm : chk m = 0) : CMay own cap (tkn own cap.toNat l m) := by
  obtain ⟨h1, h2, h3, h4, _, h6, _⟩ := h
  have hl : (tkn own cap.toNat l m).length ≤ cap.toNat := kp_length _ _
  refine ⟨h1, h2, h3, h4, by omega, chk_zero.2 ⟨by omega, ?_⟩, ?_⟩
  · refine any_bad_mem (m := l ++ m) (fun d hd => tkn_mem hd) ?_
    rw [List.any_append, (chk_zero.1 h6).2, (chk_zero.1 hm).2]
    rfl
  · rw [oth_self tkn_oth]
    exact (top_self (kp_str _ _) (kp_ids _ _)).symm
/-- One that is left out is not fresher than the last one that is kept. -/
theorem tkn_out {own : Int} {cap : Nat} {l m : List De} {d : De} (hd : d ∈ l ++ m) (ho : d.1 ≠ own) (hn : ∀ x, x ∈ tkn own cap l m → x.1 = d.1 → x.2 < d.2) :
    (tkn own cap l m).length = cap ∧ ∀ x, x ∈ tkn own cap l m → fr d x = false := by
  obtain ⟨t, ht, h1, h2⟩ := top_has (mem_oth.2 ⟨hd, ho⟩)
  have hnt : t ∉ kp cap (oth own (l ++ m)) := fun h => by
    have := hn t h h1
    omega
  obtain ⟨h3, h4⟩ := left_out ht hnt
  refine ⟨h3, fun x hx => ?_⟩
  cases hf : fr d x with
  | false => rfl
  | true =>
    have h5 := as_fresh h1 h2 hf
    have h6 := h4 x hx
    rw [fr_asymm h5] at h6
    cases h6
/-- What is offered. -/
def tld (own now : Int) (l : List De) : List De := srt ((own, now) :: l)
theorem mem_tld {own now : Int} {l : List De} {d : De} : d ∈ tld own now l ↔ d = (own, now) ∨ d ∈ l := by
  unfold tld
  rw [mem_srt, List.mem_cons]
theorem tld_length (own now : Int) (l : List De) : (tld own now l).length = l.length + 1 := by
  unfold tld
  rw [srt_length, List.length_cons]
theorem tkn_tld {own cap now : Int} {l : List De} (h : CMay own cap l) : tkn own cap.toNat l (tld own now l) = l := by
  obtain ⟨_, _, h3, _, h5, _, h7⟩ := h
  have hl : kp cap.toNat (oth own l) = l := by
    unfold kp
    rw [← h7, List.take_of_length_le (by omega)]
  have : tkn own cap.toNat l (tld own now l) = kp cap.toNat (oth own l) := kp_congr fun d => by
    rw [mem_oth, mem_oth, List.mem_append, mem_tld]
    constructor
    · rintro ⟨h1 | h1 | h1, h2⟩
      · exact ⟨h1, h2⟩
      · rw [h1] at h2
        exact absurd rfl h2
      · exact ⟨h1, h2⟩
    · rintro ⟨h1, h2⟩
      exact ⟨.inl h1, h2⟩
  rw [this, hl]
theorem chk_tld {own cap now : Int} {l : List De} (h : CMay own cap l) (h0 : 0 ≤ now) (h1 : now ≤ 2147483647) : chk (tld own now l) = 0 := by
  obtain ⟨a1, a2, a3, a4, a5, a6, _⟩ := h
  refine chk_zero.2 ⟨by rw [tld_length]; omega, ?_⟩
  rw [List.any_eq_false]
  intro d hd
  rcases mem_tld.1 hd with rfl | hd
  · unfold bad
    simp
    omega
  · exact List.any_eq_false.1 (chk_zero.1 a6).2 d hd
end Go.Proofs.Ytdemhghflanncaa
