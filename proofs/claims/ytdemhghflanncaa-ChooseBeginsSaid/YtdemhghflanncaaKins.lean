/- slices.Insert of one descriptor into a list of the call's own. -/
import Derived.Test.YtdemhghflanncaaKown
namespace Go.Proofs.Ytdemhghflanncaa
open Go.RowKit Go.Shelf Go.Lib

theorem heap_setRow_far (w : World) (g : Nat) (c : Array Value) {b : Nat} (hne : b ≠ g) : (w.setRow g c).heap[b]? = w.heap[b]? := by
  unfold World.setRow
  simp only [Array.getElem?_modify]
  rw [if_neg (by omega)]
theorem ovD {w : World} {g vb : Nat} {cur : Array Value} {d : De} (hne : vb ≠ g) (hg : w.heap[g]? = some (.cells cur 23 (0, 0))) (hk : cur.size ≠ 0) (hv : w.heap[vb]? = some (.cells (enc d).toArray 23 (0, 0))) (o lb cb : Nat) :
    (callFunc 56 #[.slice (some ⟨vb, 0, none⟩) 1 1, .slice (some ⟨g, o, none⟩) lb cb]).run Try.prog w = .ok (.value (.bool false)) w := by
  rw [run_callFunc_extern Try.func56 (by kernel_rfl) (by kernel_rfl) (by kernel_rfl) (e := Extern.SlicesOverlaps.overlaps #[27, 27] #[4]) (by kernel_rfl),
    Lib.run_overlaps_apart w 27 4 23 Try.underlying27 2 Try.sizeOf23 ⟨vb, 0, none⟩ ⟨g, o, none⟩ 1 1 lb cb hne 23 23 2 cur.size (by simp [World.shape?, hv, enc]) (by simp [World.shape?, hg]) hk (by simp [World.frozen?, hv]) (by simp [World.frozen?, hv])]
  rfl

theorem shift_list {cur : List Value} {l : List De} {d : De} {n i : Nat} (hi : i ≤ n) (hn : l.length = n) (hs : (n + 1) * 2 ≤ cur.length) (ht : cur.take (n * 2) = cellsD l) (cur1 cur2 : List Value)
    (h1 : cur1 = cur.take ((i + 1) * 2) ++ cellsD (l.drop i) ++ cur.drop ((i + 1) * 2 + (cellsD (l.drop i)).length)) (h2 : cur2 = cur1.take (i * 2) ++ enc d ++ cur1.drop (i * 2 + (enc d).length)) :
    cur1.length = cur.length ∧ cur2.length = cur.length ∧ cur2.take ((n + 1) * 2) = cellsD (l.take i ++ d :: l.drop i) := by
  have hX : (cellsD (l.drop i)).length = (n - i) * 2 := by rw [cellsD_length, List.length_drop, hn]
  have he : (enc d).length = 2 := rfl
  have e0 : cur.take (i * 2) = cellsD (l.take i) := by
    rw [← cellsD_take, ← ht, List.take_take, Nat.min_eq_left (by omega)]
  have l1 : cur1.length = cur.length := by
    rw [h1]
    simp only [List.length_append, List.length_take, List.length_drop, hX]
    omega
  have ltk : (cur.take ((i + 1) * 2)).length = i * 2 + 2 := by rw [List.length_take]; omega
  have e1 : cur1.take (i * 2) = cellsD (l.take i) := by
    rw [h1, List.append_assoc, List.take_append_of_le_length (by omega), List.take_take, Nat.min_eq_left (by omega), e0]
  have e2 : cur1.drop (i * 2 + 2) = cellsD (l.drop i) ++ cur.drop ((i + 1) * 2 + (cellsD (l.drop i)).length) := by
    rw [h1, List.append_assoc, List.drop_append_of_le_length (by omega), List.drop_of_length_le (by omega), List.nil_append]
  have l2 : cur2.length = cur.length := by
    rw [h2]
    simp only [List.length_append, List.length_take, List.length_drop, he, l1]
    omega
  refine ⟨l1, l2, ?_⟩
  rw [h2, he, e1, e2, cellsD_append, cellsD_cons, ← List.append_assoc, ← List.append_assoc]
  have hc : (cellsD (l.take i)).length = i * 2 := by rw [cellsD_length, List.length_take]; omega
  rw [List.take_append_of_le_length (by simp only [List.length_append, hc, he, hX]; omega), List.take_of_length_le (by simp only [List.length_append, hc, he, hX]; omega), List.append_assoc]

set_option maxHeartbeats 4000000 in
set_option maxRecDepth 100000 in
theorem shift_in {w : World} {g n cap vb : Nat} {cur : Array Value} {l : List De} (d : De) (i : Nat) (hi : i < n) (hn : l.length = n) (hm : n ≤ 100000) (hc : n + 1 ≤ cap) (hcm : cap ≤ 9223372036854775807) (hs : cur.size = cap * 2)
    (hg : w.heap[g]? = some (.cells cur 23 (0, 0))) (ht : cur.toList.take (n * 2) = cellsD l) (hne : vb ≠ g) (hv : w.heap[vb]? = some (.cells (enc d).toArray 23 (0, 0))) :
    Calls Try.prog 52 #[.slice (some ⟨g, 0, none⟩) n cap, .int .i64 i, .slice (some ⟨vb, 0, none⟩) 1 1] w fun e w' =>
      e = .returned (.slice (some ⟨g, 0, none⟩) (n + 1) cap) ∧ ∃ cur' : Array Value, Hid (w' = w.drew.setRow g cur' ∧ cur'.size = cap * 2 ∧ cur'.toList.take ((n + 1) * 2) = cellsD (l.take i ++ d :: l.drop i)) := by
  have mixed : Try.prog.follows .mixedOrders = true := by kernel_rfl
  have hz2 : ¬ ((i : Int) = (n : Int)) := by omega
  have hsz : (Try.prog.info? 23).map (·.size) = some 2 := by kernel_rfl
  have hov : ∀ o lb cb, (callFunc 56 #[.slice (some ⟨vb, 0, none⟩) 1 1, .slice (some ⟨g, o, none⟩) lb cb]).run Try.prog w = .ok (.value (.bool false)) w := fun o lb cb => ovD hne hg (by omega) hv o lb cb
  have hw1 : IntKind.i64.wrap ((i : Int) + 1) = (i : Int) + 1 := by rw [IntKind.wrap_i64]; omega
  have hw2 : IntKind.i64.wrap ((n : Int) + 1) = (n : Int) + 1 := by rw [IntKind.wrap_i64]; omega
  have hb1 : (0 : Int) ≤ (i : Int) + 1 := by omega
  have hin : i ≤ n := by omega
  have htn : ((i : Int) + 1).toNat = i + 1 := by omega
  have htn2 : ((n : Int) + 1).toNat = n + 1 := by omega
  have hb2 : ¬ (cap = i + 1) := by omega
  have hb3 : (i : Int) ≤ (n : Int) + 1 := by omega
  have hb4 : ¬ (cap = i) := by omega
  have hb5 : ¬ ((cap : Int) < (n : Int) + 1) := by omega
  obtain ⟨cur1, hcur1⟩ : ∃ cur1, cur1 = (cur.toList.take ((i + 1) * 2) ++ cellsD (l.drop i) ++ cur.toList.drop ((i + 1) * 2 + (cellsD (l.drop i)).length)).toArray := ⟨_, rfl⟩
  obtain ⟨cur2, hcur2⟩ : ∃ cur2, cur2 = (cur1.toList.take (i * 2) ++ enc d ++ cur1.toList.drop (i * 2 + (enc d).length)).toArray := ⟨_, rfl⟩
  have hsl : cur.toList.length = cap * 2 := by rw [Array.length_toList]; exact hs
  obtain ⟨hl1, hl2, hl3⟩ := shift_list (d := d) hin hn (by omega) ht cur1.toList cur2.toList (by rw [hcur1]) (by rw [hcur2])
  have hX : (cellsD (l.drop i)).length = (n - i) * 2 := by rw [cellsD_length, List.length_drop, hn]
  have hcp1 : ∀ ty dc sc, (Builtin.copy_ #[27, 27] ty #[.slice (some ⟨g, (i + 1) * 2, none⟩) (n - i) dc, .slice (some ⟨g, i * 2, none⟩) (n + 1 - i) sc]).run Try.prog w.drew = .ok (goInt (Nat.min (n + 1 - i) (n - i))) (w.drew.setRow g cur1) := fun ty dc sc => by
    rw [hcur1]
    refine run_copy_rowk w.drew _ _ ty 23 2 g ((i + 1) * 2) (n - i) dc ⟨g, i * 2, none⟩ (n + 1 - i) sc cur 23 (cellsD (l.drop i)) Try.underlying27 hsz hg (by rw [hX, show Nat.min (n + 1 - i) (n - i) = n - i from Nat.min_eq_right (by omega)]) (fun j v hj => ?_) (by rw [hX]; omega) (cellsD_one_cell _)
    rw [Addr.add_lit]
    rw [← cellsD_drop, ← ht, List.getElem?_drop, List.getElem?_take] at hj
    split at hj
    · rw [cell_of_row w.drew g _ cur _ (0, 0) hg]
      simpa using hj
    · cases hj
  obtain ⟨W1, hW1⟩ : ∃ W1, W1 = w.drew.setRow g cur1 := ⟨_, rfl⟩
  have hg1 : W1.heap[g]? = some (.cells cur1 23 (0, 0)) := by rw [hW1]; exact setRow_heap w.drew g cur _ _ _ hg
  have hv1 : W1.heap[vb]? = some (.cells (enc d).toArray 23 (0, 0)) := by rw [hW1, heap_setRow_far _ _ _ hne]; exact hv
  have hcp2 : ∀ ty dc, (Builtin.copy_ #[27, 27] ty #[.slice (some ⟨g, i * 2, none⟩) (n + 1 - i) dc, .slice (some ⟨vb, 0, none⟩) 1 1]).run Try.prog W1 = .ok (goInt (Nat.min 1 (n + 1 - i))) (W1.setRow g cur2) := fun ty dc => by
    rw [hcur2]
    refine run_copy_rowk W1 _ _ ty 23 2 g (i * 2) (n + 1 - i) dc ⟨vb, 0, none⟩ 1 1 cur1 23 (enc d) Try.underlying27 hsz hg1 (by rw [show Nat.min 1 (n + 1 - i) = 1 from Nat.min_eq_left (by omega)]; rfl) (fun j v hj => ?_) (by show i * 2 + 2 ≤ _; rw [← Array.length_toList]; omega) (by intro v hv; simp [enc] at hv; rcases hv with rfl | rfl <;> rfl)
    rw [Addr.add_lit, cell_of_row W1 vb _ _ _ (0, 0) hv1, Nat.zero_add]
    simpa using hj
  have HW1 : Hid ((∀ c, W1.setRow g c = w.drew.setRow g c) ∧ cur2.size = cap * 2 ∧ cur2.toList.take ((n + 1) * 2) = cellsD (l.take i ++ d :: l.drop i)) := hid ⟨fun c => by rw [hW1, setRow_setRow], by rw [← Array.length_toList]; omega, hl3⟩
  rw [← hW1] at hcp1
  clear hW1 hg1 hv1 hl1 hl2 hl3 hcur1 hcur2 hX hsl ht hg hv hs
  go_enter Try.func52, Try.ntmps52
  go_wp2_with (simp only [hov])
  go_region_law_o (refine step_copy_runI rfl _ _ 27 27 rfl _ _ (by simp [Act.eval, Act.put]) (by simp [Act.eval, Act.put]) (hcp1 _ _ _) ?_)
  go_wp2_with (at_builtin; refine wpList_copy_runI _ rfl _ _ 27 27 rfl _ _ rfl rfl (hcp2 _ _) ?_)
  go_ret
  exact ⟨rfl, cur2, hid ⟨HW1.out.1 cur2, HW1.out.2⟩⟩
end Go.Proofs.Ytdemhghflanncaa
