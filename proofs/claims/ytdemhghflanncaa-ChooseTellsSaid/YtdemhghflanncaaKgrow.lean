/- slices.Insert where there is no room, and at the end. -/
import Derived.Test.YtdemhghflanncaaKins
namespace Go.Proofs.Ytdemhghflanncaa
open Go.RowKit Go.Shelf Go.Lib

theorem below_setRow {B : Nat} {w W : World} (h : Below B w W) (g : Nat) (c : Array Value) (hg : B ≤ g) : Below B w (W.setRow g c) :=
  ⟨h.os, h.tape, h.output, by rw [show (W.setRow g c).heap.size = W.heap.size by simp [World.setRow]]; exact h.size, fun k hk => (heap_setRow_far W g c (show k ≠ g by omega)).trans (h.block k hk)⟩

theorem grow_list {cur : List Value} {l : List De} {d : De} {n i : Nat} (hi : i ≤ n) (hn : l.length = n) (hs : (n + 1) * 2 ≤ cur.length) (ht : cur.take (i * 2) = cellsD (l.take i)) (cur1 cur2 : List Value)
    (h1 : cur1 = cur.take (i * 2) ++ enc d ++ cur.drop (i * 2 + (enc d).length)) (h2 : cur2 = cur1.take ((i + 1) * 2) ++ cellsD (l.drop i) ++ cur1.drop ((i + 1) * 2 + (cellsD (l.drop i)).length)) :
    cur1.length = cur.length ∧ cur2.length = cur.length ∧ cur2.take ((n + 1) * 2) = cellsD (l.take i ++ d :: l.drop i) := by
  have hX : (cellsD (l.drop i)).length = (n - i) * 2 := by rw [cellsD_length, List.length_drop, hn]
  have he : (enc d).length = 2 := rfl
  have hc : (cellsD (l.take i)).length = i * 2 := by rw [cellsD_length, List.length_take]; omega
  have l1 : cur1.length = cur.length := by
    rw [h1]
    simp only [List.length_append, List.length_take, List.length_drop, he]
    omega
  have e1 : cur1.take ((i + 1) * 2) = cellsD (l.take i) ++ enc d := by
    rw [h1, List.take_append_of_le_length (by simp only [List.length_append, List.length_take, he]; omega), List.take_of_length_le (by simp only [List.length_append, List.length_take, he]; omega), ht]
  have l2 : cur2.length = cur.length := by
    rw [h2]
    simp only [List.length_append, List.length_take, List.length_drop, hX, l1]
    omega
  refine ⟨l1, l2, ?_⟩
  rw [h2, e1, cellsD_append, cellsD_cons, ← List.append_assoc]
  rw [List.take_append_of_le_length (by simp only [List.length_append, hc, he, hX]; omega), List.take_of_length_le (by simp only [List.length_append, hc, he, hX]; omega)]

set_option maxHeartbeats 4000000 in
set_option maxRecDepth 100000 in
theorem grow_in {w : World} {g n cap vb : Nat} {cur : Array Value} {l : List De} (d : De) (i : Nat) (hi : i < n) (hn : l.length = n) (hm : n ≤ 100000) (hnc : n ≤ cap) (hc : cap < n + 1)
    (hg : w.heap[g]? = some (.cells cur 23 (0, 0))) (ht : cur.toList.take (n * 2) = cellsD l) (hv : w.heap[vb]? = some (.cells (enc d).toArray 23 (0, 0))) :
    Calls Try.prog 52 #[.slice (some ⟨g, 0, none⟩) n cap, .int .i64 i, .slice (some ⟨vb, 0, none⟩) 1 1] w fun e w' =>
      ∃ G, e = .returned (.slice (some ⟨w.heap.size, 0, none⟩) (n + 1) G) ∧ Hid (∃ cur' : Array Value, Below w.heap.size w w' ∧ w'.heap[w.heap.size]? = some (.cells cur' 23 (0, 0)) ∧ n + 1 ≤ G ∧ G ≤ maxLen ∧ cur'.size = G * 2 ∧ cur'.toList.take ((n + 1) * 2) = cellsD (l.take i ++ d :: l.drop i)) := by
  have mixed : Try.prog.follows .mixedOrders = true := by kernel_rfl
  have hz2 : ¬ ((i : Int) = (n : Int)) := by omega
  have hsz : (Try.prog.info? 23).map (·.size) = some 2 := by kernel_rfl
  obtain ⟨i0, hi0, hz0, hzs, hzb⟩ := info_parts infoD
  have hgw := lt_of_heap hg
  have hvw := lt_of_heap hv
  have hkk : (n : Int) + 1 - (i : Int) = ((n + 1 - i : Nat) : Int) := by omega
  have hik : i + (n + 1 - i) = n + 1 := by omega
  have e0 : cur.toList.take (i * 2) = cellsD (l.take i) := by rw [← cellsD_take, ← ht, List.take_take, Nat.min_eq_left (by omega)]
  have hold : (Builtin.firstCells i0.size i (.slice (some ⟨g, 0, none⟩) i cap)).run Try.prog w.drew = .ok (cellsD (l.take i)).toArray w.drew := by
    rw [hzs]
    refine run_firstCells_some w.drew 2 i ⟨g, 0, none⟩ i cap (cellsD (l.take i)) (by rw [cellsD_length, List.length_take]; omega) (fun j v hj => ?_)
    rw [Addr.add_lit, Nat.zero_add, cell_of_row w.drew g _ cur _ (0, 0) hg]
    rw [← e0, List.getElem?_take] at hj
    split at hj
    · simpa using hj
    · cases hj
  obtain ⟨G, hG⟩ : ∃ G, G = grownCap w (n + 1) cap 23 := ⟨_, rfl⟩
  obtain ⟨ROW, hROW⟩ : ∃ ROW : Array Value, ROW = (cellsD (l.take i)).toArray ++ Builtin.zeroCells (Value.agg #[.int .i64 0, .int .i64 0]).cells (n + 1 - i) ++ Builtin.zeroCells (Value.agg #[.int .i64 0, .int .i64 0]).cells (G - (n + 1)) := ⟨_, rfl⟩
  have hrz : ∀ ty, (Builtin.append_ #[27, 3] ty #[.slice (some ⟨g, 0, none⟩) i cap, .int .i64 ((n : Int) + 1 - (i : Int))]).run Try.prog w =
      .ok (.slice (some ⟨w.heap.size, 0, none⟩) (n + 1) G) (w.drew.alloc (.cells ROW 23)) := fun ty => by
    have h := Lib.run_append_grow_zeros w 27 3 ty 23 i0 _ .i64 .i64 Try.underlying27 Try.underlying3 hi0 hz0 (some ⟨g, 0, none⟩) i cap (cellsD (l.take i)) hold (n + 1 - i) (by omega) (by omega) (by omega) (by omega) (by rw [hzb]; omega) (by rw [hzb, hik]; exact growslice_fits hc (by omega))
    rw [hik, ← hG, ← hROW] at h
    rw [hkk]
    exact h
  have hGn : n + 1 ≤ G := by rw [hG]; exact grownCap_ge w _ _ _
  have hGm : G ≤ maxLen := by rw [hG]; exact grownCap_le_maxLen w (n + 1) cap 23 (by unfold maxLen; omega)
  have hRs : ROW.toList.length = G * 2 := by
    rw [hROW, Array.length_toList, Array.size_append, Array.size_append, size_zeroCells, size_zeroCells]
    show (cellsD (l.take i)).length + (n + 1 - i) * 2 + (G - (n + 1)) * 2 = G * 2
    rw [cellsD_length, List.length_take]
    omega
  have hRt : ROW.toList.take (i * 2) = cellsD (l.take i) := by
    have : (cellsD (l.take i)).length = i * 2 := by rw [cellsD_length, List.length_take]; omega
    rw [hROW, Array.toList_append, Array.toList_append, List.append_assoc, List.take_append_of_le_length (by show i * 2 ≤ (cellsD (l.take i)).length; omega), List.take_of_length_le (by show (cellsD (l.take i)).length ≤ i * 2; omega)]
  obtain ⟨cur1, hcur1⟩ : ∃ cur1, cur1 = (ROW.toList.take (i * 2) ++ enc d ++ ROW.toList.drop (i * 2 + (enc d).length)).toArray := ⟨_, rfl⟩
  obtain ⟨cur2, hcur2⟩ : ∃ cur2, cur2 = (cur1.toList.take ((i + 1) * 2) ++ cellsD (l.drop i) ++ cur1.toList.drop ((i + 1) * 2 + (cellsD (l.drop i)).length)).toArray := ⟨_, rfl⟩
  obtain ⟨hl1, hl2, hl3⟩ := grow_list (d := d) (show i ≤ n by omega) hn (by omega) hRt cur1.toList cur2.toList (by rw [hcur1]) (by rw [hcur2])
  have hX : (cellsD (l.drop i)).length = (n - i) * 2 := by rw [cellsD_length, List.length_drop, hn]
  obtain ⟨W1, hW1⟩ : ∃ W1, W1 = w.drew.alloc (.cells ROW 23) := ⟨_, rfl⟩
  have hW1N : W1.heap[w.heap.size]? = some (.cells ROW 23 (0, 0)) := by rw [hW1]; exact heap_alloc_new w.drew _
  have hW1v : W1.heap[vb]? = some (.cells (enc d).toArray 23 (0, 0)) := by rw [hW1]; exact ((Below.heap_alloc w.drew _ _ hvw).trans hv)
  have hW1g : W1.heap[g]? = some (.cells cur 23 (0, 0)) := by rw [hW1]; exact ((Below.heap_alloc w.drew _ _ hgw).trans hg)
  have hcpA : ∀ (W : World), W.heap = W1.heap → ∀ ty dc, (Builtin.copy_ #[27, 27] ty #[.slice (some ⟨w.heap.size, i * 2, none⟩) (n + 1 - i) dc, .slice (some ⟨vb, 0, none⟩) 1 1]).run Try.prog W = .ok (goInt (Nat.min 1 (n + 1 - i))) (W.setRow w.heap.size cur1) := fun W hW ty dc => by
    rw [hcur1]
    refine run_copy_rowk W _ _ ty 23 2 w.heap.size (i * 2) (n + 1 - i) dc ⟨vb, 0, none⟩ 1 1 ROW 23 (enc d) Try.underlying27 hsz (by rw [hW]; exact hW1N) (by rw [show Nat.min 1 (n + 1 - i) = 1 from Nat.min_eq_left (by omega)]; rfl) (fun j v hj => ?_) (by show i * 2 + 2 ≤ _; rw [← Array.length_toList]; omega) (by intro v hv; simp [enc] at hv; rcases hv with rfl | rfl <;> rfl)
    rw [Addr.add_lit, cell_of_row W vb _ _ _ (0, 0) (by rw [hW]; exact hW1v), Nat.zero_add]
    simpa using hj
  have hcpB : ∀ (W : World), W.heap = (W1.setRow w.heap.size cur1).heap → ∀ ty dc sc, (Builtin.copy_ #[27, 27] ty #[.slice (some ⟨w.heap.size, (i + 1) * 2, none⟩) (n - i) dc, .slice (some ⟨g, i * 2, none⟩) (n - i) sc]).run Try.prog W = .ok (goInt (Nat.min (n - i) (n - i))) (W.setRow w.heap.size cur2) := fun W hW ty dc sc => by
    rw [hcur2]
    refine run_copy_rowk W _ _ ty 23 2 w.heap.size ((i + 1) * 2) (n - i) dc ⟨g, i * 2, none⟩ (n - i) sc cur1 23 (cellsD (l.drop i)) Try.underlying27 hsz (by rw [hW]; exact setRow_heap W1 _ ROW _ _ _ hW1N) (by rw [hX, show Nat.min (n - i) (n - i) = n - i from Nat.min_eq_left (by omega)]) (fun j v hj => ?_) (by rw [hX, ← Array.length_toList]; omega) (cellsD_one_cell _)
    rw [Addr.add_lit, cell_of_row W g _ cur _ (0, 0) (by rw [hW, heap_setRow_far _ _ _ (show g ≠ w.heap.size by omega)]; exact hW1g)]
    rw [← cellsD_drop, ← ht, List.getElem?_drop, List.getElem?_take] at hj
    split at hj
    · simpa using hj
    · cases hj
  have HR : Hid (∀ W : World, W.heap = ((W1.setRow w.heap.size cur1).setRow w.heap.size cur2).heap → W.os = w.os → W.tape = w.tape → W.output = w.output → ∃ cur' : Array Value, Below w.heap.size w W ∧ W.heap[w.heap.size]? = some (.cells cur' 23 (0, 0)) ∧ n + 1 ≤ G ∧ G ≤ maxLen ∧ cur'.size = G * 2 ∧ cur'.toList.take ((n + 1) * 2) = cellsD (l.take i ++ d :: l.drop i)) := hid fun W hW h1 h2 h3 => by
    have hB : Below w.heap.size w ((W1.setRow w.heap.size cur1).setRow w.heap.size cur2) := below_setRow (below_setRow (by rw [hW1]; exact ((Below.refl _ w).drew).alloc (Nat.le_refl _) _) _ _ (Nat.le_refl _)) _ _ (Nat.le_refl _)
    refine ⟨cur2, ⟨h1, h2, h3, by rw [hW]; exact hB.size, fun k hk => by rw [hW]; exact hB.block k hk⟩, ?_, hGn, hGm, by rw [← Array.length_toList]; omega, hl3⟩
    rw [hW]
    exact setRow_heap _ _ cur1 _ _ _ (setRow_heap W1 _ ROW _ _ _ hW1N)
  have hG63 : G ≤ 9223372036854775807 := by unfold maxLen at hGm; omega
  have hGi : ¬ (G = i) := by omega
  have hGim : ¬ (G = i + 1) := by omega
  have hci : ¬ (cap = i) := by omega
  have hE1 : ((w.alloc (.cells ROW 23)).drew).heap = (w.drew.alloc (.cells ROW 23)).heap := rfl
  subst hW1
  have hw1 : IntKind.i64.wrap ((i : Int) + 1) = (i : Int) + 1 := by rw [IntKind.wrap_i64]; omega
  have hw2 : IntKind.i64.wrap ((n : Int) + 1) = (n : Int) + 1 := by rw [IntKind.wrap_i64]; omega
  have hb1 : (0 : Int) ≤ (i : Int) + 1 := by omega
  have hin : i ≤ n := by omega
  have htn : ((i : Int) + 1).toNat = i + 1 := by omega
  have hb3 : (i : Int) ≤ (n : Int) := by omega
  have hb5 : (cap : Int) < (n : Int) + 1 := by omega
  clear hl1 hl2 hl3 hcur1 hcur2 hX ht hg hv hW1N hW1v hW1g hRs hRt hold hROW hG hkk hik e0
  go_enter Try.func52, Try.ntmps52
  go_wp2_with (first
    | (at_builtin; refine Lib.wpList_append_run _ rfl _ _ _ _ rfl _ _ rfl rfl _ _ (hrz _) ?_)
    | (at_builtin; refine wpList_copy_runI _ rfl _ _ 27 27 rfl _ _ rfl rfl (hcpA _ rfl _ _) ?_))
  go_region_law_o (refine step_copy_runI rfl _ _ 27 27 rfl (.slice (some ⟨w.heap.size, (i + 1) * 2, none⟩) (n - i) (G - (i + 1))) (.slice (some ⟨g, i * 2, none⟩) (n - i) (cap - i)) (by simp [Act.eval, Act.put]) (by simp [Act.eval, Act.put]) (hcpB (((w.alloc (.cells ROW 23)).drew.setRow w.heap.size cur1).drew) rfl _ _ _) ?_)
  go_wp2
  go_ret
  exact ⟨G, rfl, hid (HR.out _ rfl rfl rfl rfl)⟩
end Go.Proofs.Ytdemhghflanncaa
