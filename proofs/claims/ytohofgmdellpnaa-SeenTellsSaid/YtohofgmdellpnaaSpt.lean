/- Seen: the program's Put. -/
import Derived.Test.YtohofgmdellpnaaSpu
namespace Go.Proofs.Ytohofgmdellpnaa.Seen
open Go.RowKit Go.Shelf Go.Lib

/-- What Put leaves. -/
def PutR (w : World) (l : List Int) (x : Int) (e : Ending) (w' : World) : Prop := ∃ v, e = .returned (.tuple #[v, .int .i64 (ptE l x)]) ∧ Hid (Gi w' w.heap.size v (ptL l x) ∧ Below w.heap.size w w')
theorem PutR.none' {w w' : World} {l : List Int} {x q : Int} (hq : ptE l x = q) (h0 : q ≠ 0) (hb : Below w.heap.size w w') : PutR w l x (.returned (.tuple #[.slice none 0 0, .int .i64 q])) w' := by
  subst hq
  refine ⟨_, rfl, hid ⟨?_, hb⟩⟩
  unfold ptL
  rw [if_neg h0]
  exact Gi.nil _ _
theorem len3 (l : List Int) (x : Int) {n a b : Nat} (hl : l.length = n) (hn : n < 4096) : (l.take a).length + ([x] : List Int).length + (l.drop b).length ≤ 100000 := by
  rw [List.length_take, List.length_drop, hl]
  show _ + 1 + _ ≤ _
  omega
set_option maxHeartbeats 6400000 in
set_option maxRecDepth 100000 in
theorem put_any {w : World} {B n c : Nat} {A : Option Addr} {l : List Int} (h : Gs w B A n c 1 (cellsI l)) (hB : B ≤ w.heap.size) (x : Int) :
    Calls Try.prog 8 #[.slice A n c, .int .i64 x] w (PutR w l x) := by
  have mixed : Try.prog.follows .mixedOrders = true := by kernel_rfl
  have C := hid (find_any h hB x)
  have H := hid (h.mono hB)
  have hl := hid h.ilen
  have hcap := h.cap
  have hcm : n ≤ 140737488355328 := h.max
  by_cases h0 : fiE l x = 0
  case neg =>
    have he := hid (show ptE l x = fiE l x by unfold ptE; rw [if_pos h0])
    generalize fiE l x = q at h0 C he
    generalize haA l x = a1 at C
    generalize beA l x = a3 at C
    clear h hB
    go_enter Try.func8, Try.ntmps8
    go_wp2_with fail
    refine C.out.mono ?_
    rintro e w1 ⟨rfl, hb⟩
    go_wp2
    go_ret2
    exact PutR.none' he.out h0 hb.out
  case pos =>
    obtain ⟨hm, hx⟩ := fiE_zero.1 h0
    by_cases h1 : x ∈ l
    · have he := hid (show ptE l x = 12 by unfold ptE; rw [if_neg (by simp [h0]), if_pos h1])
      have ha : haA l x = true := by unfold haA; simp [h0, h1]
      rw [h0, ha] at C
      generalize beA l x = a3 at C
      clear h hB h0 ha h1 hm hx
      go_enter Try.func8, Try.ntmps8
      go_wp2_with fail
      refine C.out.mono ?_
      rintro e w1 ⟨rfl, hb⟩
      go_wp2
      go_ret2
      exact PutR.none' he.out (by decide) hb.out
    · have ha : haA l x = false := by unfold haA; simp [h0, h1]
      rw [h0, ha] at C
      by_cases h2 : n = 4096
      · have he := hid (show ptE l x = 9 by unfold ptE; rw [if_neg (by simp [h0]), if_neg h1, if_pos (by rw [hl.out, h2]; exact Nat.le_refl _)])
        have h2z : (n : Int) = 4096 := by omega
        generalize beA l x = a3 at C
        clear h hB h0 ha h1 hm hx h2
        go_enter Try.func8, Try.ntmps8
        go_wp2_with fail
        refine C.out.mono ?_
        rintro e w1 ⟨rfl, hb⟩
        go_wp2
        go_ret2
        exact PutR.none' he.out (by decide) hb.out
      · have hnn : n < 4096 := by have := hm.1; rw [hl.out] at this; omega
        have he : ptE l x = 0 := by unfold ptE; rw [if_neg (by simp [h0]), if_neg h1, if_neg (by rw [hl.out]; omega)]
        have hpl : ptL l x = insN l x := by unfold ptL; rw [if_pos he]
        have hbe : beA l x = lowN l x := by unfold beA; rw [if_pos h0]
        rw [hbe] at C
        have hins := insN_at hm.2.2 h1
        obtain ⟨a, haa⟩ : ∃ a, a = lowN l x := ⟨_, rfl⟩
        have han : a ≤ n := by rw [haa, ← hl.out]; exact lowN_le l x
        rw [← haa] at C hins
        have fin : Hid (∀ v w', Gi w' w.heap.size v (l.take a ++ [x] ++ l.drop a) → Below w.heap.size w w' → PutR w l x (.returned (.tuple #[v, .int .i64 0])) w') := hid fun v w' h1 h2 => ⟨v, by rw [he], hid ⟨by rw [hpl, hins]; simpa using h1, h2⟩⟩
        have hn4 : ¬ (n : Int) = 4096 := by omega
        have hn4b : ((n : Int) == 4096) = false := beq_eq_false_iff_ne.2 hn4
        clear h hB h0 ha h1 hm hx h2 he hpl hbe hins haa hn4
        have HS1 : Hid (∀ X, Below w.heap.size w X → Gs X X.heap.size A a c 1 (cellsI (l.take a))) := hid fun X hb => by
          rw [← cellsI_take]
          exact ((H.out.below hb).first han (by omega) (fun e => (H.out.nil e).2)).mono hb.size
        have hb5 : (a : Int) ≤ (n : Int) := by omega
        have hb3 : (a : Int) ≤ (c : Int) := by omega
        cases A with
        | none =>
          obtain ⟨hn0, hc0⟩ := H.out.nil rfl
          obtain rfl : a = 0 := by omega
          subst hn0 hc0
          have HS3 : Hid (∀ X, Below w.heap.size w X → Gs X X.heap.size none 0 0 1 (cellsI (l.drop 0))) := hid fun X hb => by
            rw [List.drop_zero]
            exact (H.out.below hb).mono hb.size
          have HCC : Hid (∀ w1, Below w.heap.size w w1 → Calls Try.prog 22 #[.slice (some ⟨w1.heap.size + 1, 0, none⟩) 3 3] ((w1.alloc (.cells #[.int .i64 x] 3)).alloc (.cells #[.slice none 0 0, .slice (some ⟨w1.heap.size, 0, none⟩) 1 1, .slice none 0 0] 22)).drew fun e w' => ∃ v, e = .returned v ∧ Hid (Gi w' w.heap.size v (l.take 0 ++ [x] ++ l.drop 0) ∧ Below w.heap.size w w')) := hid fun w1 hb => by
            have b2 := below_two w1 (.cells #[.int .i64 x] 3) (.cells #[.slice none 0 0, .slice (some ⟨w1.heap.size, 0, none⟩) 1 1, .slice none 0 0] 22)
            obtain ⟨hr1, hr2⟩ := heap_two w1 (.cells #[.int .i64 x] 3) (.cells #[.slice none 0 0, .slice (some ⟨w1.heap.size, 0, none⟩) 1 1, .slice none 0 0] 22)
            have b3 := hb.trans (b2.mono hb.size)
            have b4 : Below w.heap.size w ((w1.alloc (.cells #[.int .i64 x] 3)).alloc (.cells #[.slice none 0 0, .slice (some ⟨w1.heap.size, 0, none⟩) 1 1, .slice none 0 0] 22)).drew := b3.drew
            have hg2 := Gs.new (w := ((w1.alloc (.cells #[.int .i64 x] 3)).alloc (.cells #[.slice none 0 0, .slice (some ⟨w1.heap.size, 0, none⟩) 1 1, .slice none 0 0] 22)).drew) (cs := cellsI [x]) (k := 1) (n := 1) (c := 1) (e := 3) hr1 (lt_of_heap hr1) rfl (Nat.le_refl _) (by omega)
            refine (concat3 (w := World.drew _) hr2 (HS1.out _ b4) hg2 (HS3.out _ b4) (len3 l x hl.out (by omega))).mono ?_
            rintro e w3 ⟨v, rfl, hv⟩
            exact ⟨v, rfl, hid ⟨hv.out.1.mono b3.size, b4.trans (hv.out.2.mono b3.size)⟩⟩
          clear HS1 HS3 H
          go_enter Try.func8, Try.ntmps8
          go_wp2_with fail
          refine C.out.mono ?_
          rintro e w1 ⟨rfl, hb⟩
          go_wp2
          go_region_with ((go_at_call 22; refine (HCC.out w1 hb.out).mono ?_; rintro e w3 ⟨v, rfl, hv⟩))
          go_wp2
          go_ret2
          exact fin.out _ _ hv.out.1 hv.out.2
        | some A0 =>
          by_cases hca : c = a
          · subst hca
            have HS3 : Hid (∀ X, Below w.heap.size w X → Gs X X.heap.size (some A0) 0 0 1 (cellsI (l.drop c))) := hid fun X hb => by
              have h3 : l.drop c = [] := List.drop_of_length_le (by rw [hl.out]; omega)
              rw [h3]
              exact Gs.none' _ _ _ _ _
            have HCC : Hid (∀ w1, Below w.heap.size w w1 → Calls Try.prog 22 #[.slice (some ⟨w1.heap.size + 1, 0, none⟩) 3 3] ((w1.alloc (.cells #[.int .i64 x] 3)).alloc (.cells #[.slice (some A0) c c, .slice (some ⟨w1.heap.size, 0, none⟩) 1 1, .slice (some A0) 0 0] 22)).drew fun e w' => ∃ v, e = .returned v ∧ Hid (Gi w' w.heap.size v (l.take c ++ [x] ++ l.drop c) ∧ Below w.heap.size w w')) := hid fun w1 hb => by
              have b2 := below_two w1 (.cells #[.int .i64 x] 3) (.cells #[.slice (some A0) c c, .slice (some ⟨w1.heap.size, 0, none⟩) 1 1, .slice (some A0) 0 0] 22)
              obtain ⟨hr1, hr2⟩ := heap_two w1 (.cells #[.int .i64 x] 3) (.cells #[.slice (some A0) c c, .slice (some ⟨w1.heap.size, 0, none⟩) 1 1, .slice (some A0) 0 0] 22)
              have b3 := hb.trans (b2.mono hb.size)
              have b4 : Below w.heap.size w ((w1.alloc (.cells #[.int .i64 x] 3)).alloc (.cells #[.slice (some A0) c c, .slice (some ⟨w1.heap.size, 0, none⟩) 1 1, .slice (some A0) 0 0] 22)).drew := b3.drew
              have hg2 := Gs.new (w := ((w1.alloc (.cells #[.int .i64 x] 3)).alloc (.cells #[.slice (some A0) c c, .slice (some ⟨w1.heap.size, 0, none⟩) 1 1, .slice (some A0) 0 0] 22)).drew) (cs := cellsI [x]) (k := 1) (n := 1) (c := 1) (e := 3) hr1 (lt_of_heap hr1) rfl (Nat.le_refl _) (by omega)
              refine (concat3 (w := World.drew _) hr2 (HS1.out _ b4) hg2 (HS3.out _ b4) (len3 l x hl.out (by omega))).mono ?_
              rintro e w3 ⟨v, rfl, hv⟩
              exact ⟨v, rfl, hid ⟨hv.out.1.mono b3.size, b4.trans (hv.out.2.mono b3.size)⟩⟩
            clear HS1 HS3 H
            go_enter Try.func8, Try.ntmps8
            go_wp2_with fail
            refine C.out.mono ?_
            rintro e w1 ⟨rfl, hb⟩
            go_wp2
            go_region_with ((go_at_call 22; refine (HCC.out w1 hb.out).mono ?_; rintro e w3 ⟨v, rfl, hv⟩))
            go_wp2
            go_ret2
            exact fin.out _ _ hv.out.1 hv.out.2
          · have HS3 : Hid (∀ X, Below w.heap.size w X → Gs X X.heap.size (some (A0.add a)) (n - a) (c - a) 1 (cellsI (l.drop a))) := hid fun X hb => by
              have h3 := ((H.out.below hb).restA han (c' := c - a) (by omega)).mono hb.size
              rw [cellsI_drop, Nat.mul_one] at h3
              exact h3
            have HCC : Hid (∀ w1, Below w.heap.size w w1 → Calls Try.prog 22 #[.slice (some ⟨w1.heap.size + 1, 0, none⟩) 3 3] ((w1.alloc (.cells #[.int .i64 x] 3)).alloc (.cells #[.slice (some A0) a c, .slice (some ⟨w1.heap.size, 0, none⟩) 1 1, .slice (some (A0.add a)) (n - a) (c - a)] 22)).drew fun e w' => ∃ v, e = .returned v ∧ Hid (Gi w' w.heap.size v (l.take a ++ [x] ++ l.drop a) ∧ Below w.heap.size w w')) := hid fun w1 hb => by
              have b2 := below_two w1 (.cells #[.int .i64 x] 3) (.cells #[.slice (some A0) a c, .slice (some ⟨w1.heap.size, 0, none⟩) 1 1, .slice (some (A0.add a)) (n - a) (c - a)] 22)
              obtain ⟨hr1, hr2⟩ := heap_two w1 (.cells #[.int .i64 x] 3) (.cells #[.slice (some A0) a c, .slice (some ⟨w1.heap.size, 0, none⟩) 1 1, .slice (some (A0.add a)) (n - a) (c - a)] 22)
              have b3 := hb.trans (b2.mono hb.size)
              have b4 : Below w.heap.size w ((w1.alloc (.cells #[.int .i64 x] 3)).alloc (.cells #[.slice (some A0) a c, .slice (some ⟨w1.heap.size, 0, none⟩) 1 1, .slice (some (A0.add a)) (n - a) (c - a)] 22)).drew := b3.drew
              have hg2 := Gs.new (w := ((w1.alloc (.cells #[.int .i64 x] 3)).alloc (.cells #[.slice (some A0) a c, .slice (some ⟨w1.heap.size, 0, none⟩) 1 1, .slice (some (A0.add a)) (n - a) (c - a)] 22)).drew) (cs := cellsI [x]) (k := 1) (n := 1) (c := 1) (e := 3) hr1 (lt_of_heap hr1) rfl (Nat.le_refl _) (by omega)
              refine (concat3 (w := World.drew _) hr2 (HS1.out _ b4) hg2 (HS3.out _ b4) (len3 l x hl.out (by omega))).mono ?_
              rintro e w3 ⟨v, rfl, hv⟩
              exact ⟨v, rfl, hid ⟨hv.out.1.mono b3.size, b4.trans (hv.out.2.mono b3.size)⟩⟩
            clear HS1 HS3 H
            go_enter Try.func8, Try.ntmps8
            go_wp2_with fail
            refine C.out.mono ?_
            rintro e w1 ⟨rfl, hb⟩
            go_wp2
            go_region_with ((go_at_call 22; refine (HCC.out w1 hb.out).mono ?_; rintro e w3 ⟨v, rfl, hv⟩))
            go_wp2
            go_ret2
            exact fin.out _ _ hv.out.1 hv.out.2
end Go.Proofs.Ytohofgmdellpnaa.Seen
