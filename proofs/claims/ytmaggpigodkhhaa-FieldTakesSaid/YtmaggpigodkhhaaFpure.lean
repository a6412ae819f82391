/- Frames as lists of bytes: what was framed is taken, and what is taken was framed so. No code is walked here. -/
import Derived.Test.YtmaggpigodkhhaaFstr
namespace Go.Proofs.Ytmaggpigodkhhaa
open Go.RowKit

theorem hd_length (kind : Nat) (xs : List Nat) : (hd kind xs).length = 5 := rfl
theorem frm_length (kind : Nat) (xs : List Nat) : (frm kind xs).length = xs.length + 9 := by
  unfold frm
  rw [List.length_append, List.length_append, bys_length, hd_length]
  omega
theorem frm_pre (kind : Nat) (xs : List Nat) : (frm kind xs).take ((frm kind xs).length - 4) = hd kind xs ++ xs := by
  rw [frm_length]
  unfold frm
  rw [List.take_append_of_le_length (by rw [List.length_append, hd_length]; omega), List.take_of_length_le (by rw [List.length_append, hd_length]; omega)]
theorem frm_post (kind : Nat) (xs : List Nat) : (frm kind xs).drop ((frm kind xs).length - 4) = bys (crc (hd kind xs ++ xs)) 4 := by
  rw [frm_length]
  unfold frm
  rw [show xs.length + 9 - 4 = (hd kind xs ++ xs).length by rw [List.length_append, hd_length]; omega, List.drop_left]
theorem body_lt {kind : Nat} {xs : List Nat} (hk : kind < 256) (hn : xs.length ≤ 4096) (hx : ∀ x ∈ xs, x < 256) : ∀ x ∈ hd kind xs ++ xs, x < 256 := by
  intro x h
  rcases List.mem_append.1 h with h | h
  · exact hd_lt hk hn x h
  · exact hx x h
theorem frm_lt {kind : Nat} {xs : List Nat} (hk : kind < 256) (hn : xs.length ≤ 4096) (hx : ∀ x ∈ xs, x < 256) : ∀ x ∈ frm kind xs, x < 256 := by
  intro x h
  rcases List.mem_append.1 h with h | h
  · exact body_lt hk hn hx x h
  · exact bys_lt h
theorem flt_frm {kind : Nat} {xs : List Nat} (hk : kind < 256) (hn : xs.length ≤ 4096) (hx : ∀ x ∈ xs, x < 256) : flt (frm kind xs) = 0 := by
  unfold flt
  rw [frm_pre, frm_post, if_neg (by rw [frm_length]; omega), nm_bys (crc_lt (body_lt hk hn hx)), if_pos rfl, if_pos]
  rw [frm_length]
  refine ⟨rfl, rfl, by omega, ?_⟩
  show xs.length / 256 * 256 + xs.length % 256 = xs.length + 9 - 9
  omega
theorem frm_kind (kind : Nat) (xs : List Nat) : (frm kind xs).getD 2 0 = kind := rfl
theorem frm_body (kind : Nat) (xs : List Nat) : ((frm kind xs).take ((frm kind xs).length - 4)).drop 5 = xs := by
  rw [frm_pre]
  exact List.drop_left (l₁ := hd kind xs)

theorem frm_of {t : List Nat} (ht : ∀ x ∈ t, x < 256) (h : flt t = 0) : frm (t.getD 2 0) ((t.take (t.length - 4)).drop 5) = t := by
  obtain ⟨h9, hm, hs, h0, h1, hl⟩ := flt_good h
  have hg : ∀ j, j < t.length → t[j]? = some (t.getD j 0) := fun j hj => by
    rw [List.getD_eq_getElem?_getD, List.getElem?_eq_getElem hj]; rfl
  have hlt : ∀ j, t.getD j 0 < 256 := fun j => by
    rw [List.getD_eq_getElem?_getD]
    cases hx : t[j]? with
    | none => show 0 < 256; omega
    | some x => exact ht x (List.mem_of_getElem? hx)
  have h4 := hlt 4
  have hlen : ((t.take (t.length - 4)).drop 5).length = t.length - 9 := by rw [List.length_drop, List.length_take]; omega
  have hpre : hd (t.getD 2 0) ((t.take (t.length - 4)).drop 5) ++ (t.take (t.length - 4)).drop 5 = t.take (t.length - 4) := by
    have : hd (t.getD 2 0) ((t.take (t.length - 4)).drop 5) = (t.take (t.length - 4)).take 5 := by
      apply List.ext_getElem?
      intro i
      rw [List.getElem?_take, List.getElem?_take]
      unfold hd
      rw [hlen]
      match i with
      | 0 => rw [if_pos (by omega), if_pos (by omega), hg 0 (by omega), h0]; rfl
      | 1 => rw [if_pos (by omega), if_pos (by omega), hg 1 (by omega), h1]; rfl
      | 2 => rw [if_pos (by omega), if_pos (by omega), hg 2 (by omega)]; rfl
      | 3 => rw [if_pos (by omega), if_pos (by omega), hg 3 (by omega)]; show some ((t.length - 9) / 256) = _; congr 1; omega
      | 4 => rw [if_pos (by omega), if_pos (by omega), hg 4 (by omega)]; show some ((t.length - 9) % 256) = _; congr 1; omega
      | i + 5 => rw [if_neg (by omega)]; rfl
    rw [this, List.take_append_drop]
  unfold frm
  rw [hpre, ← hs]
  have e4 : (t.drop (t.length - 4)).length = 4 := by rw [List.length_drop]; omega
  have := bys_nm (xs := t.drop (t.length - 4)) (fun x hx => ht x (List.mem_of_mem_drop hx))
  rw [e4] at this
  rw [this, List.take_append_drop]

theorem By.zeros (w : World) (n : Nat) (hn : n ≤ 140737488355328) : By (w.alloc (.cells (madeCells #[.int .u8 0] n) 5)) (w.heap.size + 1) (some ⟨w.heap.size, 0, none⟩) n n (List.replicate n 0) :=
  ⟨by simp, Nat.le_refl _, hn, by simp, fun h => (by cases h), fun _ => ⟨w.heap.size, 0, rfl, Nat.lt_succ_self _, fun j x hj => by
    rw [Nat.zero_add, cell_of_row _ w.heap.size j _ 5 (0, 0) (heap_alloc_new w _), ← Array.getElem?_toList, toList_madeCells_one (.int .u8 0) n]
    rw [List.getElem?_replicate] at hj ⊢
    split at hj
    · rename_i h
      rw [if_pos h]
      injection hj with hj
      rw [← hj]
      rfl
    · cases hj⟩⟩

end Go.Proofs.Ytmaggpigodkhhaa
