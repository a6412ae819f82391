/- Descriptors as pairs (Id, Stamp): which may be, which is fresher, order, and the best ones. No program is named here. -/
import Derived.Lib.SlBy
import Derived.Lib.SlBy2
namespace Go.Proofs.Ytdemhghflanncaa

/-- An Id and a Stamp. -/
abbrev De := Int × Int
/-- It may not be. -/
def bad (d : De) : Bool := decide (d.1 < 0) || decide (8 ≤ d.1) || decide (d.2 < 0) || decide (2147483647 < d.2)
/-- One is fresher than another one. -/
def fr (a b : De) : Bool := if a.2 = b.2 then decide (a.1 < b.1) else decide (b.2 < a.2)
/-- Ahead of the first one that it is fresher than. -/
def ins (d : De) : List De → List De
  | [] => [d]
  | x :: r => if fr d x then d :: x :: r else x :: ins d r
def srt (l : List De) : List De := l.foldl (fun r d => ins d r) []
def stp (r : List De) (d : De) : List De := if r.any (fun x => x.1 == d.1) then r else r ++ [d]
/-- The first one of each Id. -/
def fsts (l : List De) : List De := l.foldl stp []
/-- The error of a list. -/
def chk (l : List De) : Int := if 64 < l.length then 4 else if l.any bad then 8 else 0
def orr (l : List De) : List De := if chk l = 0 then srt l else []
def bst (l : List De) : List De := if chk l = 0 then fsts (srt l) else []

theorem fr_irrefl (a : De) : fr a a = false := by simp [fr]
theorem fr_asymm {a b : De} (h : fr a b = true) : fr b a = false := by
  unfold fr at *
  split at h <;> split <;> simp at * <;> omega
theorem fr_trans {a b c : De} (h : fr a b = true) (k : fr b c = true) : fr a c = true := by
  unfold fr at *
  split at h <;> split at k <;> split <;> simp at * <;> omega
theorem fr_total {a b : De} (h : fr a b = false) (k : fr b a = false) : a = b := by
  obtain ⟨a1, a2⟩ := a
  obtain ⟨b1, b2⟩ := b
  unfold fr at *
  split at h <;> split at k <;> simp at * <;> omega

/-- Where it is laid. -/
def pos (d : De) (l : List De) : Nat := l.findIdx (fun x => fr d x)
theorem pos_le (d : De) (l : List De) : pos d l ≤ l.length := List.findIdx_le_length
theorem ins_pos (d : De) : ∀ l : List De, ins d l = l.take (pos d l) ++ d :: l.drop (pos d l)
  | [] => rfl
  | x :: r => by
    unfold ins pos
    rw [List.findIdx_cons]
    cases h : fr d x with
    | true => simp
    | false =>
      have := ins_pos d r
      unfold pos at this
      simp [this]
theorem ins_length (d : De) (l : List De) : (ins d l).length = l.length + 1 := by
  have := pos_le d l
  rw [ins_pos]
  simp
  omega
theorem ins_perm (d : De) (l : List De) : (ins d l).Perm (d :: l) := by
  rw [ins_pos]
  refine (List.perm_middle).trans ?_
  rw [List.take_append_drop]

theorem srt_snoc (l : List De) (d : De) : srt (l ++ [d]) = ins d (srt l) := by
  unfold srt
  rw [List.foldl_append]
  rfl
theorem fsts_snoc (l : List De) (d : De) : fsts (l ++ [d]) = stp (fsts l) d := by
  unfold fsts
  rw [List.foldl_append]
  rfl
theorem foldl_ins_perm : ∀ (l r : List De), (l.foldl (fun r d => ins d r) r).Perm (l ++ r)
  | [], r => List.Perm.refl _
  | d :: l, r => by
    rw [List.foldl_cons]
    refine (foldl_ins_perm l _).trans ?_
    refine ((ins_perm d r).append_left l).trans ?_
    exact List.perm_middle
theorem srt_perm (l : List De) : (srt l).Perm l := by
  have := foldl_ins_perm l []
  rwa [List.append_nil] at this
theorem srt_length (l : List De) : (srt l).length = l.length := (srt_perm l).length_eq
theorem mem_srt {l : List De} {d : De} : d ∈ srt l ↔ d ∈ l := (srt_perm l).mem_iff

/-- In order. -/
def Ord (l : List De) : Prop := l.Pairwise (fun a b => fr b a = false)
theorem mem_ins {d x : De} {l : List De} : x ∈ ins d l ↔ x = d ∨ x ∈ l := by
  rw [(ins_perm d l).mem_iff, List.mem_cons]
theorem fr_false_trans {a b c : De} (h : fr b a = false) (k : fr c b = false) : fr c a = false := by
  obtain ⟨a1, a2⟩ := a
  obtain ⟨b1, b2⟩ := b
  obtain ⟨c1, c2⟩ := c
  unfold fr at *
  split at h <;> split at k <;> split <;> simp at * <;> omega
theorem Ord.ins {d : De} : ∀ {l : List De}, Ord l → Ord (ins d l)
  | [], _ => List.pairwise_singleton _ _
  | x :: r, h => by
    unfold Ord at h
    rw [List.pairwise_cons] at h
    unfold Go.Proofs.Ytdemhghflanncaa.ins
    cases hf : fr d x with
    | true =>
      rw [if_pos rfl]
      have hx := fr_asymm hf
      refine List.pairwise_cons.2 ⟨fun y hy => ?_, List.pairwise_cons.2 h⟩
      rcases List.mem_cons.1 hy with rfl | hy
      · exact hx
      · exact fr_false_trans hx (h.1 y hy)
    | false =>
      rw [if_neg (by simp)]
      refine List.pairwise_cons.2 ⟨fun y hy => ?_, Ord.ins h.2⟩
      rcases mem_ins.1 hy with rfl | hy
      · exact hf
      · exact h.1 y hy
theorem foldl_ord : ∀ (l r : List De), Ord r → Ord (l.foldl (fun r d => Go.Proofs.Ytdemhghflanncaa.ins d r) r)
  | [], _, h => h
  | _ :: l, _, h => foldl_ord l _ h.ins
theorem srt_ord (l : List De) : Ord (srt l) := foldl_ord l [] List.Pairwise.nil

theorem any_stp (r : List De) (d : De) (i : Int) : (stp r d).any (fun x => x.1 == i) = (r.any (fun x => x.1 == i) || d.1 == i) := by
  unfold stp
  split
  · next h =>
    cases hi : (d.1 == i) with
    | false => simp
    | true =>
      have : d.1 = i := by simpa using hi
      rw [← this, h]
      rfl
  · simp
theorem any_foldl : ∀ (l r : List De) (i : Int), (l.foldl stp r).any (fun x => x.1 == i) = (r.any (fun x => x.1 == i) || l.any (fun x => x.1 == i))
  | [], r, i => by simp
  | d :: l, r, i => by
    rw [List.foldl_cons, any_foldl l, any_stp, List.any_cons, Bool.or_assoc]
theorem any_fsts (l : List De) (i : Int) : (fsts l).any (fun x => x.1 == i) = l.any (fun x => x.1 == i) := by
  unfold fsts
  rw [any_foldl]
  simp
theorem fsts_length_le : ∀ (l r : List De), (l.foldl stp r).length ≤ r.length + l.length
  | [], r => Nat.le_refl _
  | d :: l, r => by
    rw [List.foldl_cons]
    refine Nat.le_trans (fsts_length_le l _) ?_
    unfold stp
    split <;> simp <;> omega

/-- How often it is there. -/
theorem count_perm {l r : List De} (h : l.Perm r) (d : De) : l.count d = r.count d := h.count_eq d

end Go.Proofs.Ytdemhghflanncaa
