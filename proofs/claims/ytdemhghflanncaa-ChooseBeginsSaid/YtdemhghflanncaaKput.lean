/- slices.Insert, in all its ways; a descriptor is laid into a row. -/
import Derived.Test.YtdemhghflanncaaKgrow
namespace Go.Proofs.Ytdemhghflanncaa
open Go.RowKit Go.Shelf Go.Lib

/-- What a call that changes a list of its own leaves: the new list l in v', from v. -/
structure Turned (w w' : World) (B : Nat) (v v' : Value) (l : List De) : Prop where
  own : Od w' B v' l
  grown : w.grownBy w' v.ownBlock
  at_ : v'.ownBlock = v.ownBlock ∨ v'.ownBlock = some w.heap.size

set_option maxHeartbeats 3200000 in
theorem end_in {w : World} {B vb : Nat} {v : Value} {l : List De} (d : De) (h : Od w B v l) (hl : l.length < 100000) (hB : B ≤ w.heap.size) (hv : w.heap[vb]? = some (.cells (enc d).toArray 23 (0, 0))) :
    Calls Try.prog 52 #[v, .int .i64 l.length, .slice (some ⟨vb, 0, none⟩) 1 1] w fun e w' => ∃ v', e = .returned v' ∧ Hid (Turned w w' B v v' (l ++ [d])) := by
  obtain ⟨i0, hi0, hz0, hzs, hzb⟩ := info_parts infoD
  have hown := h.own
  have hnews := World.news_of_block hv
  obtain ⟨A, c, rfl, hD, hcm, hob⟩ := h.form
  have hcap := hD.cap
  have H63 : c ≤ 9223372036854775807 := by unfold maxLen at hcm; omega
  obtain ⟨n, hn⟩ : ∃ n, n = l.length := ⟨_, rfl⟩
  have HN := hid hn
  have hml : n + 1 ≤ maxLen := by unfold maxLen; omega
  have hn2 : n < 100000 := by omega
  have hnb : n * 16 + 16 ≤ 140737488355328 := by omega
  rw [← hn] at hown hcap ⊢
  have hc1 : ∀ u ∈ (enc d).toArray.toList, u.oneCell' = true := by intro u hu; simp [enc] at hu; rcases hu with rfl | rfl <;> rfl
  clear hD hv h hl hcm hn
  have hob' := hid hob
  clear hob
  cases A with
  | none =>
    go_enter Try.func52, Try.ntmps52
    go_wp2_with (at_builtin; refine wpList_append_lies _ rfl _ _ 27 rfl B 23 i0 (.agg #[.int .i64 0, .int .i64 0]) 2 16 Try.underlying27 hi0 hz0 hzs hzb rfl (by decide) (.slice none n c) n _ rfl hown ⟨vb, 0, none⟩ 1 1 (enc d).toArray.toList rfl rfl hnews hc1 (by decide) hml (by omega) hB _ rfl ?_; intro g cap w1 hown1 hgrow hat hlt)
    go_ret
    refine ⟨_, rfl, hid ⟨⟨?_, by rw [List.length_append, ← HN.out, List.length_singleton]; omega⟩, hgrow, ?_⟩⟩
    · rw [cellsD_append, cellsD_one, List.length_append, ← HN.out]
      exact hown1
    · exact hat.imp (fun e => e.symm) (fun e => by rw [← e]; rfl)
  | some a =>
    obtain ⟨ab, ao, asp⟩ := a
    go_enter Try.func52, Try.ntmps52
    go_wp2_with (at_builtin; refine wpList_append_lies _ rfl _ _ 27 rfl B 23 i0 (.agg #[.int .i64 0, .int .i64 0]) 2 16 Try.underlying27 hi0 hz0 hzs hzb rfl (by decide) (.slice (some ⟨ab, ao, asp⟩) n c) n _ rfl hown ⟨vb, 0, none⟩ 1 1 (enc d).toArray.toList rfl rfl hnews hc1 (by decide) hml (by omega) hB _ rfl ?_; intro g cap w1 hown1 hgrow hat hlt)
    all_goals
      go_ret
      refine ⟨_, rfl, hid ⟨⟨?_, by rw [List.length_append, ← HN.out, List.length_singleton]; omega⟩, hgrow, ?_⟩⟩
      · rw [cellsD_append, cellsD_one, List.length_append, ← HN.out]
        exact hown1
      · exact hat.imp (fun e => e.symm) (fun e => by rw [← e]; rfl)

theorem insert_any {w : World} {B vb : Nat} {v : Value} {l : List De} (d : De) (i : Nat) (hi : i ≤ l.length) (h : Od w B v l) (hl : l.length < 100000) (hB : B ≤ w.heap.size) (hv : w.heap[vb]? = some (.cells (enc d).toArray 23 (0, 0))) (hne : v.ownBlock ≠ some vb) :
    Calls Try.prog 52 #[v, .int .i64 i, .slice (some ⟨vb, 0, none⟩) 1 1] w fun e w' => ∃ v', e = .returned v' ∧ Hid (Turned w w' B v v' (l.take i ++ d :: l.drop i)) := by
  rcases Nat.lt_or_ge i l.length with h1 | h1
  case inr =>
    obtain rfl : i = l.length := by omega
    rw [List.take_length, List.drop_length]
    exact end_in d h hl hB hv
  obtain ⟨⟨hlen, hor⟩, hm⟩ := h
  rcases hor with ⟨rfl, h0⟩ | ⟨g, cap, cur, rfl, hBg, hg, hn, hc, hs, ht⟩
  · omega
  have hlen' : (l.take i ++ d :: l.drop i).length = l.length + 1 := by
    rw [List.length_append, List.length_take, List.length_cons, List.length_drop]
    omega
  have hvg : vb ≠ g := fun e => hne (by rw [e]; rfl)
  have hgw := lt_of_heap hg
  rcases Nat.lt_or_ge cap (l.length + 1) with h2 | h2
  · refine (grow_in d i h1 rfl hm hn h2 hg ht hv).mono ?_
    rintro e w' ⟨G, rfl, hR⟩
    obtain ⟨cur', hb, hg', hG1, hG2, hs', ht'⟩ := hR.out
    refine ⟨_, rfl, hid ⟨⟨?_, by omega⟩, ⟨hb.os, hb.tape, hb.output, hb.size, fun k hk _ => hb.block k hk⟩, .inr rfl⟩⟩
    rw [hlen']
    exact ⟨by rw [cellsD_length, hlen'], .inr ⟨w.heap.size, G, cur', rfl, hB, hg', hG1, hG2, hs', ht'⟩⟩
  · refine (shift_in d i h1 rfl hm h2 (by unfold maxLen at hc; omega) hs hg ht hvg hv).mono ?_
    rintro e w' ⟨rfl, cur', hR⟩
    obtain ⟨rfl, hs', ht'⟩ := hR.out
    refine ⟨_, rfl, hid ⟨⟨?_, by omega⟩, ⟨rfl, rfl, rfl, by simp [World.setRow], fun k hk hkr => heap_setRow_far w.drew g cur' (fun e => hkr (by rw [e]; rfl))⟩, .inl rfl⟩⟩
    rw [hlen']
    exact ⟨by rw [cellsD_length, hlen'], .inr ⟨g, cap, cur', rfl, hBg, setRow_heap w.drew g cur _ _ _ hg, h2, hc, hs', ht'⟩⟩
end Go.Proofs.Ytdemhghflanncaa
