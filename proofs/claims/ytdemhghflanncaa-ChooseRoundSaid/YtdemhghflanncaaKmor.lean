/- How often a descriptor is there; more about order, and about the best ones. No program is named here. -/
import Derived.Test.YtdemhghflanncaaKbest
namespace Go.Proofs.Ytdemhghflanncaa

/-- How often one is there. -/
def cnt (d : De) (l : List De) : Nat := l.countP (fun x => decide (x = d))
/-- How often an Id is there. -/
def kin (i : Int) (l : List De) : Nat := l.countP (fun x => decide (x.1 = i))
theorem cnt_perm {l r : List De} (h : l.Perm r) (d : De) : cnt d l = cnt d r := h.countP_eq _
theorem cnt_hit {l : List De} {k : Nat} {e d : De} (h : l[k]? = some e) (he : e = d) : cnt d (l.take (k + 1)) = cnt d (l.take k) + 1 := by
  unfold cnt
  rw [List.take_add_one, h, List.countP_append]
  simp [he]
theorem cnt_miss {l : List De} {k : Nat} {e d : De} (h : l[k]? = some e) (he : e ≠ d) : cnt d (l.take (k + 1)) = cnt d (l.take k) := by
  unfold cnt
  rw [List.take_add_one, h, List.countP_append]
  simp [he]
theorem cnt_le (d : De) (l : List De) : cnt d l ≤ l.length := List.countP_le_length
theorem cnt_pos {d : De} {l : List De} (h : d ∈ l) : 0 < cnt d l := List.countP_pos_iff.2 ⟨d, h, by simp⟩
theorem kin_hit {l : List De} {k : Nat} {e : De} {i : Int} (h : l[k]? = some e) (he : e.1 = i) : kin i (l.take (k + 1)) = kin i (l.take k) + 1 := by
  unfold kin
  rw [List.take_add_one, h, List.countP_append]
  simp [he]
theorem kin_miss {l : List De} {k : Nat} {e : De} {i : Int} (h : l[k]? = some e) (he : e.1 ≠ i) : kin i (l.take (k + 1)) = kin i (l.take k) := by
  unfold kin
  rw [List.take_add_one, h, List.countP_append]
  simp [he]
theorem kin_le (i : Int) (l : List De) : kin i l ≤ l.length := List.countP_le_length
theorem kin_top {l : List De} {d : De} (h : d ∈ l) : kin d.1 (top l) = 1 := by
  have := top_one h
  unfold kin
  rw [List.countP_eq_length_filter, ← this]
  congr 1
theorem ord_pair {l : List De} {k : Nat} {a b : De} (h : Ord l) (ha : l[k]? = some a) (hb : l[k + 1]? = some b) : fr a b = true ∨ a = b := by
  obtain ⟨h1, rfl⟩ := List.getElem?_eq_some_iff.1 ha
  obtain ⟨h2, rfl⟩ := List.getElem?_eq_some_iff.1 hb
  have := List.pairwise_iff_getElem.1 h k (k + 1) h1 h2 (Nat.lt_succ_self _)
  cases hf : fr l[k] l[k + 1] with
  | true => exact .inl rfl
  | false => exact .inr (fr_total hf this)
theorem top_nb {l : List De} (h : l.any bad = false) : (top l).any bad = false := any_bad_mem (fun _ hd => (mem_top.1 hd).1) h
theorem bst_top {l : List De} (h : chk l = 0) : bst l = top l := if_pos h
theorem chk_top {l : List De} (h : chk l = 0) : chk (top l) = 0 := by
  obtain ⟨h1, h2⟩ := chk_zero.1 h
  exact chk_zero.2 ⟨Nat.le_trans (top_length_le l) h1, top_nb h2⟩
theorem chk_left {l m : List De} (h : chk (l ++ m) = 0) : chk l = 0 := by
  obtain ⟨h1, h2⟩ := chk_zero.1 h
  rw [List.length_append] at h1
  exact chk_zero.2 ⟨by omega, any_bad_mem (fun _ hd => List.mem_append_left _ hd) h2⟩
theorem chk_join {l m : List De} (h : chk (l ++ m) = 0) : chk (top l ++ m) = 0 := by
  obtain ⟨h1, h2⟩ := chk_zero.1 h
  have := top_length_le l
  rw [List.length_append] at h1
  refine chk_zero.2 ⟨by rw [List.length_append]; omega, any_bad_mem (l := top l ++ m) (m := l ++ m) (fun d hd => ?_) h2⟩
  rcases List.mem_append.1 hd with hd | hd
  · exact List.mem_append_left _ (mem_top.1 hd).1
  · exact List.mem_append_right _ hd
theorem chk_swap (l m : List De) : chk (m ++ l) = chk (l ++ m) := by
  unfold chk
  rw [List.length_append, List.length_append, Nat.add_comm, List.any_append, List.any_append, Bool.or_comm]
theorem top_swap (l m : List De) : top (m ++ l) = top (l ++ m) := top_congr fun d => by
  rw [List.mem_append, List.mem_append]
  exact Or.comm
end Go.Proofs.Ytdemhghflanncaa
