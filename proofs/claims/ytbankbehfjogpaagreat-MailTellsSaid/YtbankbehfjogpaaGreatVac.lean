/- The document's dyads: May, Same, Twin, Minus; what is spoilt. -/
/- slices.Clone over limbs; dyad.Twin. -/
/- Package mass: Twin. -/
/- Package mass: halved. -/
/- Package mass: pairs. -/
/- Package mass: joined, over dyad.Add and over dyad.Sub. -/
/- Package mass: Same. -/
/- Package mass: Add, Sub. -/
/- Package mass: Split. -/
import Derived.Test.YtbankbehfjogpaaGreatVab
import Derived.Test.YtbankbehfjogpaaGreatVaa
namespace Go.Proofs.YtbankbehfjogpaaGreat
set_option maxRecDepth 100000
open Go.RowKit
set_option maxHeartbeats 1600000 in
theorem emay_any {A : Option Addr} {n c : Nat} {f : Nat → Nat} {w : World} (h : Rd w w.heap.size A n c f) (s : Bool) (x : Int) :
    Calls Tryz.prog 95 #[.agg #[.bool s, .slice A n c, .int .i64 x]] w fun e w' => e = .returned (.bool (decide (DMay s n f x))) ∧ Hid (Below w.heap.size w w') := by
  have bel : Below w.heap.size w (w.alloc (.cells #[.bool s, .slice A n c, .int .i64 x] 24)) := (Below.refl _ w).alloc (Nat.le_refl _) _
  have Cc := hid (May_any (h.below bel))
  have Hb := hid bel
  have hm := h.max
  have hcap := h.cap
  by_cases hf : Fit n f
  · rw [bool_of_dec hf] at Cc
    by_cases hx0 : x < 0
    · rw [bool_of_not (fun h : DMay s n f x => by have := h.2.1; omega)]
      clear h hf bel
      go_enter Tryz.func95, Tryz.ntmps95
      go_wp2_with fail
      refine Cc.out.mono ?_
      rintro e w' ⟨rfl, rfl⟩
      go_wp2
      go_ret
      exact ⟨rfl, Hb⟩
    · by_cases hx1 : 1024 < x
      · rw [bool_of_not (fun h : DMay s n f x => by have := h.2.2.1; omega)]
        clear h hf bel
        go_enter Tryz.func95, Tryz.ntmps95
        go_wp2_with fail
        refine Cc.out.mono ?_
        rintro e w' ⟨rfl, rfl⟩
        go_wp2
        go_ret
        exact ⟨rfl, Hb⟩
      · rcases Nat.eq_zero_or_pos n with h0 | h0
        · subst h0
          have hf0 := h.out 0 (Nat.le_refl _)
          by_cases hz : x = 0
          · subst hz
            cases s with
            | true =>
              rw [bool_of_not (fun h : DMay true 0 f 0 => by have := h.2.2.2.1 rfl; cases this)]
              clear h hf bel
              go_enter Tryz.func95, Tryz.ntmps95
              go_wp2_with fail
              refine Cc.out.mono ?_
              rintro e w' ⟨rfl, rfl⟩
              go_wp2
              go_ret
              exact ⟨rfl, Hb⟩
            | false =>
              rw [bool_of_dec (show DMay false 0 f 0 from ⟨hf, by omega, by omega, fun _ => rfl, fun h => absurd h (by omega)⟩)]
              clear h hf bel
              go_enter Tryz.func95, Tryz.ntmps95
              go_wp2_with fail
              refine Cc.out.mono ?_
              rintro e w' ⟨rfl, rfl⟩
              go_wp2
              go_ret
              exact ⟨rfl, Hb⟩
          · rw [bool_of_not (fun h : DMay s 0 f x => by have := h.2.2.2.2 (by omega); rw [hf0] at this; cases this)]
            have hz2 : (x == 0) = false := by simp [hz]
            clear h hf bel hz
            go_enter Tryz.func95, Tryz.ntmps95
            go_wp2_with fail
            refine Cc.out.mono ?_
            rintro e w' ⟨rfl, rfl⟩
            go_wp2
            go_ret
            exact ⟨rfl, Hb⟩
        · have hn0 : ((n : Int) == 0) = false := by simp; omega
          by_cases hz : x = 0
          · subst hz
            rw [bool_of_dec (show DMay s n f 0 from ⟨hf, by omega, by omega, fun h => by omega, fun h => absurd h (by omega)⟩)]
            clear h hf bel
            go_enter Tryz.func95, Tryz.ntmps95
            go_wp2_with fail
            refine Cc.out.mono ?_
            rintro e w' ⟨rfl, rfl⟩
            go_wp2
            go_ret
            exact ⟨rfl, Hb⟩
          · have hz2 : (x == 0) = false := by simp [hz]
            obtain ⟨b, off, rfl, hbB, hc⟩ := h.at_ h0
            have x0 := (bel.cell (p := ⟨b, off + 0, none⟩) hbB).trans (hc 0 h0)
            rw [Nat.add_zero] at x0
            by_cases hp : f 0 % 2 = 1
            · rw [bool_of_dec (show DMay s n f x from ⟨hf, by omega, by omega, fun h => by omega, fun _ => hp⟩)]
              generalize f 0 = y at *
              have hp2 : ((y : Int) % 2 == 1) = true := by simp; omega
              clear h hf bel hz hp hc
              go_enter Tryz.func95, Tryz.ntmps95
              go_wp2_with fail
              refine Cc.out.mono ?_
              rintro e w' ⟨rfl, rfl⟩
              go_wp2
              go_ret
              exact ⟨rfl, Hb⟩
            · rw [bool_of_not (fun h : DMay s n f x => hp (h.2.2.2.2 (by omega)))]
              generalize f 0 = y at *
              have hp2 : ((y : Int) % 2 == 1) = false := by simp; omega
              clear h hf bel hz hp hc
              go_enter Tryz.func95, Tryz.ntmps95
              go_wp2_with fail
              refine Cc.out.mono ?_
              rintro e w' ⟨rfl, rfl⟩
              go_wp2
              go_ret
              exact ⟨rfl, Hb⟩
  · rw [bool_of_not hf] at Cc
    rw [bool_of_not (fun h : DMay s n f x => hf h.1)]
    clear h hf bel
    go_enter Tryz.func95, Tryz.ntmps95
    go_wp2_with fail
    refine Cc.out.mono ?_
    rintro e w' ⟨rfl, rfl⟩
    go_wp2
    go_ret
    exact ⟨rfl, Hb⟩
set_option maxHeartbeats 3200000 in
theorem esame_raw {w : World} {A D : Option Addr} {n c k d : Nat} {f h : Nat → Nat} {s t : Bool} {x y : Int} {P : Prop} (ha : Rd w w.heap.size A n c f) (hb : Rd w w.heap.size D k d h) (HP : Hid (P ↔ (s = t ∧ x = y ∧ n = k ∧ ∀ j, f j = h j))) :
    Calls Tryz.prog 82 #[.agg #[.bool s, .slice A n c, .int .i64 x], .agg #[.bool t, .slice D k d, .int .i64 y]] w (Says w P) := by
  have B0 := hid (((Below.refl w.heap.size w).alloc (Nat.le_refl _) (.cells #[.bool s, .slice A n c, .int .i64 x] 24)).alloc (by simp) (.cells #[.bool t, .slice D k d, .int .i64 y] 24))
  have C1 := hid (rsame_any (ha.below B0.out) (hb.below B0.out))
  clear ha hb
  by_cases hst : s = t
  · subst hst
    by_cases hxy : x = y
    · subst hxy
      have HP2 : Hid (P ↔ (n = k ∧ ∀ j, f j = h j)) := ⟨fun p => (HP.out.1 p).2.2, fun q => HP.out.2 ⟨rfl, rfl, q⟩⟩
      clear HP
      go_enter Tryz.func82, Tryz.ntmps82
      go_wp2_with fail
      refine C1.out.mono ?_
      rintro e w1 ⟨r, rfl, hr, q, rfl⟩
      have Hr := hid hr
      clear hr
      go_wp2
      go_ret
      exact ⟨r, rfl, ⟨fun h => HP2.out.2 (Hr.out.1 h), fun h => Hr.out.2 (HP2.out.1 h)⟩, below_drewN B0.out q⟩
    · have hxy2 : (x == y) = false := by simp [hxy]
      have Hxy := hid hxy
      clear hxy C1
      go_enter Tryz.func82, Tryz.ntmps82
      go_wp2
      go_ret
      exact ⟨false, rfl, ⟨fun h => (by cases h), fun h => absurd (HP.out.1 h).2.1 Hxy.out⟩, B0.out⟩
  · have hst2 : (s == t) = false := by simp [hst]
    have Hst := hid hst
    clear hst C1
    go_enter Tryz.func82, Tryz.ntmps82
    go_wp2
    go_ret
    exact ⟨false, rfl, ⟨fun h => (by cases h), fun h => absurd (HP.out.1 h).1 Hst.out⟩, B0.out⟩
def Dv (w : World) (M : Int) (d : Value) : Prop := ∃ s v x V, d = .agg #[.bool s, v, .int .i64 ((x : Nat) : Int)] ∧ Val w V v ∧ Canon s V x ∧ x ≤ 1024 ∧ dv s V x = M
theorem Mk.far {w : World} {e : TypeId} {B g n c : Nat} {A : Option Addr} {f : Nat → Nat} (h : Mk w e B A n c f) (hg : g < B) (j : Nat) (u : Value) : Mk (w.setCell ⟨g, j, none⟩ u) e B A n c f :=
  ⟨h.cap, h.max, h.lt, h.out, by
    rcases h.own with h0 | ⟨b, cs, hA, hB, hh, hs, hc⟩
    · exact .inl h0
    · exact .inr ⟨b, cs, hA, hB, (Below.heap_setCell w ⟨g, j, none⟩ u b (by show b ≠ g; omega)).trans hh, hs, hc⟩⟩
theorem Mk.put3 {w : World} {e : TypeId} {B g n c : Nat} {A : Option Addr} {f : Nat → Nat} {s : Bool} {u : Value} {x : Int} (h : Mk w e B A n c f) (hg : g < B) : Mk (put3 w g s u x) e B A n c f := ((h.far hg 0 _).far hg 1 _).far hg 2 _
theorem Dbox.set1 {w : World} {g : Nat} {s : Bool} {v : Value} {x : Int} (h : Dbox w g s v x) (u : Value) : Dbox (w.setCell ⟨g, 1, none⟩ u) g s u x := heap_setCell_same w g 1 _ _ u h
theorem Dbox.set0 {w : World} {g : Nat} {s : Bool} {v : Value} {x : Int} (h : Dbox w g s v x) (t : Bool) : Dbox (w.setCell ⟨g, 0, none⟩ (.bool t)) g t v x := heap_setCell_same w g 0 _ _ (.bool t) h
theorem Dbox.far {w : World} {g k : Nat} {s : Bool} {v : Value} {x : Int} (h : Dbox w g s v x) (hk : g ≠ k) (j : Nat) (u : Value) : Dbox (w.setCell ⟨k, j, none⟩ u) g s v x := (Below.heap_setCell w ⟨k, j, none⟩ u g hk).trans h
theorem mk_of_row {w : World} {B n : Nat} {v : Value} {f : Nat → Nat} (h : w.ownsRow B 75 1 v n ((List.range n).map fun j => Value.int .u32 (f j : Int))) (hmax : n ≤ 140737488355328) (hlt : ∀ j, f j < 4294967296) (hout : ∀ j, n ≤ j → f j = 0) :
    ∃ A c, v = .slice A n c ∧ Mk w 75 B A n c f := by
  obtain ⟨_, hor⟩ := h
  rcases hor with ⟨rfl, rfl⟩ | ⟨g, cap, cur, rfl, hg, hh, hn, hc, hs, ht⟩
  · exact ⟨none, 0, rfl, ⟨Nat.le_refl _, hmax, hlt, hout, .inl ⟨rfl, rfl, rfl⟩⟩⟩
  · refine ⟨some ⟨g, 0, none⟩, cap, rfl, ⟨hn, hmax, hlt, hout, .inr ⟨g, cur, rfl, hg, hh, by omega, fun j hj => ?_⟩⟩⟩
    rw [← Array.getElem?_toList]
    have e : ((List.range n).map fun j => Value.int .u32 (f j : Int))[j]? = some (.int .u32 (f j : Int)) := by simp [hj]
    rw [← ht, List.getElem?_take, Nat.mul_one, if_pos hj] at e
    exact e
set_option maxHeartbeats 1600000 in
theorem etwin_any {A : Option Addr} {n c : Nat} {f : Nat → Nat} {w : World} (h : Rd w w.heap.size A n c f) (hnil : A = none → n = 0 ∧ c = 0) (hn : n ≤ 42) (s : Bool) (x : Int) :
    Calls Tryz.prog 45 #[.agg #[.bool s, .slice A n c, .int .i64 x]] w fun e w' => ∃ A' c', e = .returned (.agg #[.bool s, .slice A' n c', .int .i64 x]) ∧ Hid (Mk w' 75 w.heap.size A' n c' f) ∧ Hid (Below w.heap.size w w') := by
  have B0 := hid (((Below.refl w.heap.size w).alloc (Nat.le_refl _) (.cells #[.bool s, .slice A n c, .int .i64 x] 24)).alloc (by simp) (.cells #[.bool false, .slice none 0 0, .int .i64 0] 24))
  have P1 : Hid (Dbox _ (w.heap.size + 1) false (.slice none 0 0) 0) := heap_alloc2_new w (.cells #[.bool s, .slice A n c, .int .i64 x] 24) (.cells #[.bool false, .slice none 0 0, .int .i64 0] 24)
  have P0 : Hid (Dbox _ w.heap.size s (.slice A n c) x) := (Below.heap_alloc _ (.cells #[.bool false, .slice none 0 0, .int .i64 0] 24) _ (by simp)).trans (heap_alloc_new w (.cells #[.bool s, .slice A n c, .int .i64 x] 24))
  have Hcells := hid (cells_of_rd (h.below B0.out))
  have Hnil := hid hnil
  have H := hid h
  have hm := h.max
  clear h hnil
  obtain ⟨W, hW⟩ : ∃ W, W = (w.alloc (.cells #[.bool s, .slice A n c, .int .i64 x] 24)).alloc (.cells #[.bool false, .slice none 0 0, .int .i64 0] 24) := ⟨_, rfl⟩
  have HS : Hid (w.heap.size + 2 = W.heap.size) := by rw [hW]; simp [Hid]
  have HW := hid hW
  rw [← hW] at B0 P1 P0 Hcells
  clear hW
  go_enter Tryz.func45, Tryz.ntmps45
  go_upto_region 1 with fail
  rw [← HW.out]
  have a1 := (P0.out.alloc (.cells #[] 75)).c1
  go_wp2_with
    (at_builtin
     refine wpList_append_copy rfl (.tmp 3) (.tmp 5) 22 rfl 75 (.int .u32 0) 4 Tryz.underlying22 info_u32 rfl (by decide) rfl rfl (by simp) Hnil.out Hcells.out (by simp; intros; subst_vars; rfl) (by omega) ?_
     intro v1 w1 hown1 hbel1
     obtain ⟨A1, c1, rfl, hr1⟩ := mk_of_row hown1.out hm H.out.lt H.out.out
     have P0 := hid (P0.out.below hbel1.out P0.out.lt)
     have P1 := hid (P1.out.below hbel1.out P1.out.lt)
     have B1 := hid (B0.out.trans (hbel1.out.mono B0.out.size))
     have M1 := hid ((hr1.far (g := w.heap.size) (by have := HS.out; omega) 1 (.slice A1 n c1)))
     have b1 := P0.out.frozen 1
     have b2 := P0.out.c1
     have P0 := hid (P0.out.set1 (.slice A1 n c1))
     have P1 := hid (P1.out.far (k := w.heap.size) (by omega) 1 (.slice A1 n c1))
     have B1 := hid (B1.out.setCell (p := ⟨w.heap.size, 1, none⟩) (Nat.le_refl _) (.slice A1 n c1))
     have g0 := P1.out.frozen 0
     have g1 := P1.out.frozen 1
     have g2 := P1.out.frozen 2
     have e0 := P1.out.c0
     have e1 := P1.out.c1
     have e2 := P1.out.c2
     have d0 := P0.out.c0
     have d1 := P0.out.c1
     have d2 := P0.out.c2
     clear a1 hown1 hbel1)
  refine ret_one rfl rfl rfl (P1.out.store (t := s) (u := .slice A1 n c1) (y := x)) ?_
  exact ⟨_, _, rfl, (M1.out.put3 (by have := HS.out; omega)).mono (by have := HS.out; omega), below_put3 B1.out (by omega)⟩
open Go.RowKit
set_option maxHeartbeats 1600000 in
theorem clone_nil (w : World) : Calls Tryz.prog 34 #[.slice none 0 0] w fun e w' => e = .returned (.slice none 0 0) ∧ w = w' := by
  have hnil : ∀ w, (binOp .eql 22 (.slice none 0 0) (.slice none 0 0)).run Tryz.prog w = .ok (.bool true) w := fun w => Lib.run_eql_slice_nil w 22 75 none 0 0 0 0 Tryz.underlying22
  go_enter Tryz.func34, Tryz.ntmps34
  go_wp2
  go_ret
  exact ⟨rfl, rfl⟩
set_option maxHeartbeats 1600000 in
theorem clone_some {p : Addr} {n c : Nat} {f : Nat → Nat} {w : World} (h : Rd w w.heap.size (some p) n c f) (hn : n ≤ 42) :
    Calls Tryz.prog 34 #[.slice (some p) n c] w fun e w' => ∃ A' c', e = .returned (.slice A' n c') ∧ Hid (Mk w' 75 w.heap.size A' n c' f) ∧ Hid (Below w.heap.size w w') := by
  have Hcells := hid (cells_of_rd h)
  have H := hid h
  have hm := h.max
  have hnil : ∀ w, (binOp .eql 22 (.slice (some p) n c) (.slice none 0 0)).run Tryz.prog w = .ok (.bool false) w := fun w => Lib.run_eql_slice_nil w 22 75 (some p) n c 0 0 Tryz.underlying22
  clear h
  go_enter Tryz.func34, Tryz.ntmps34
  go_wp2_with (at_builtin; refine wpList_append_copy rfl (.tmp 5) (.tmp 6) 22 rfl 75 (.int .u32 0) 4 Tryz.underlying22 info_u32 rfl (by decide) rfl rfl (by simp) (fun h => by cases h) Hcells.out (by simp; intros; subst_vars; rfl) (by omega) ?_; intro v1 w1 hown1 hbel1)
  go_ret
  obtain ⟨A1, c1, rfl, hr1⟩ := mk_of_row hown1.out hm H.out.lt H.out.out
  exact ⟨_, _, rfl, hr1, hbel1⟩
theorem clone_any {A : Option Addr} {n c : Nat} {f : Nat → Nat} {w : World} (h : Rd w w.heap.size A n c f) (hnil : A = none → n = 0 ∧ c = 0) (hn : n ≤ 42) :
    Calls Tryz.prog 34 #[.slice A n c] w fun e w' => ∃ A' c', e = .returned (.slice A' n c') ∧ Hid (Mk w' 75 w.heap.size A' n c' f) ∧ Hid (Below w.heap.size w w') := by
  cases A with
  | none =>
    obtain ⟨rfl, rfl⟩ := hnil rfl
    refine (clone_nil w).mono ?_
    rintro e w' ⟨rfl, rfl⟩
    exact ⟨_, _, rfl, ⟨Nat.le_refl _, by omega, h.lt, h.out, .inl ⟨rfl, rfl, rfl⟩⟩, Below.refl _ _⟩
  | some p => exact clone_some h hn
set_option maxHeartbeats 1600000 in
theorem dtwin_any {A : Option Addr} {n c : Nat} {f : Nat → Nat} {w : World} (h : Rd w w.heap.size A n c f) (hnil : A = none → n = 0 ∧ c = 0) (hn : n ≤ 42) (s : Bool) (x : Int) :
    Calls Tryz.prog 73 #[.agg #[.bool s, .slice A n c, .int .i64 x]] w fun e w' => ∃ A' c', e = .returned (.agg #[.bool s, .slice A' n c', .int .i64 x]) ∧ Hid (Mk w' 75 w.heap.size A' n c' f) ∧ Hid (Below w.heap.size w w') := by
  have B0 := hid (((Below.refl w.heap.size w).alloc (Nat.le_refl _) (.cells #[.bool s, .slice A n c, .int .i64 x] 24)).alloc (by simp) (.cells #[.bool false, .slice none 0 0, .int .i64 0] 24))
  have P1 : Hid (Dbox _ (w.heap.size + 1) false (.slice none 0 0) 0) := heap_alloc2_new w (.cells #[.bool s, .slice A n c, .int .i64 x] 24) (.cells #[.bool false, .slice none 0 0, .int .i64 0] 24)
  have P0 : Hid (Dbox _ w.heap.size s (.slice A n c) x) := (Below.heap_alloc _ (.cells #[.bool false, .slice none 0 0, .int .i64 0] 24) _ (by simp)).trans (heap_alloc_new w (.cells #[.bool s, .slice A n c, .int .i64 x] 24))
  obtain ⟨W, hW⟩ : ∃ W, W = (w.alloc (.cells #[.bool s, .slice A n c, .int .i64 x] 24)).alloc (.cells #[.bool false, .slice none 0 0, .int .i64 0] 24) := ⟨_, rfl⟩
  have HS : Hid (w.heap.size + 2 = W.heap.size) := by rw [hW]; simp [Hid]
  have HW := hid hW
  rw [← hW] at B0 P1 P0
  have CC := hid (clone_any ((h.below B0.out).mono B0.out.size) hnil hn)
  clear h hnil hW
  have a0 := P0.out.c0
  have a1 := P0.out.c1
  have a2 := P0.out.c2
  go_enter Tryz.func73, Tryz.ntmps73
  go_upto_region 1 with fail
  rw [← HW.out]
  go_wp2_with fail
  refine CC.out.mono ?_
  rintro e w1 ⟨A1, c1, rfl, hr1, hbel1⟩
  have P0 := hid (P0.out.below hbel1.out P0.out.lt)
  have P1 := hid (P1.out.below hbel1.out P1.out.lt)
  have B1 := hid (B0.out.trans (hbel1.out.mono B0.out.size))
  have M1 := hid ((hr1.out.far (g := w.heap.size) (by have := HS.out; omega) 1 (.slice A1 n c1)))
  have b1 := P0.out.frozen 1
  have b2 := P0.out.c1
  have P0 := hid (P0.out.set1 (.slice A1 n c1))
  have P1 := hid (P1.out.far (k := w.heap.size) (by omega) 1 (.slice A1 n c1))
  have B1 := hid (B1.out.setCell (p := ⟨w.heap.size, 1, none⟩) (Nat.le_refl _) (.slice A1 n c1))
  have g0 := P1.out.frozen 0
  have g1 := P1.out.frozen 1
  have g2 := P1.out.frozen 2
  have e0 := P1.out.c0
  have e1 := P1.out.c1
  have e2 := P1.out.c2
  have d0 := P0.out.c0
  have d1 := P0.out.c1
  have d2 := P0.out.c2
  clear a0 a1 a2 CC hbel1
  go_wp2
  refine ret_one rfl rfl rfl (P1.out.store (t := s) (u := .slice A1 n c1) (y := x)) ?_
  exact ⟨_, _, rfl, (M1.out.put3 (by have := HS.out; omega)).mono (by have := HS.out; omega), below_put3 B1.out (by omega)⟩
open Go.RowKit Go.Shelf
attribute [local go_sem] Oper.semAt_some
theorem fst4_pre {s : List (Idx 4)} (h : s.map (·.1) = fst 4) : s.length = 4 := by
  have e := congrArg List.length h
  rwa [List.length_map, fst_length] at e
def TwI (w : World) (M : Nat → Dy) (Z : Nat) (pre : List (Idx 4)) (X : World) : Prop :=
  Mbox X (w.heap.size + 1) D0 ∧ Below w.heap.size w X ∧ ∃ R, Mbox X w.heap.size R ∧ (∀ k, k < 4 → k < pre.length → Twd Z X (M k) (R k)) ∧ ∀ k, k < 4 → ¬ k < pre.length → R k = M k
theorem mcells_at {w : World} {g : Nat} {M : Nat → Dy} (h : Mbox w g M) {k : Nat} (hk : k < 4) {m : Dy} (hm : M k = m) : w.cell? ⟨g, 3 * k, none⟩ = some (.bool m.s) ∧ w.cell? ⟨g, 3 * k + 1, none⟩ = some (.slice m.A m.n m.c) ∧ w.cell? ⟨g, 3 * k + 2, none⟩ = some (.int .i64 m.x) := by
  subst hm
  exact h.cell hk
set_option maxRecDepth 100000 in
set_option maxHeartbeats 4000000 in
theorem mtwin_any {w : World} {M : Nat → Dy} (h : Mrd w w.heap.size M) (hnil : ∀ k, k < 4 → (M k).A = none → (M k).n = 0 ∧ (M k).c = 0) (hn : ∀ k, k < 4 → (M k).n ≤ 42) :
    Calls Tryz.prog 32 #[.agg (mcells M)] w fun e w' => ∃ R, e = .returned (.agg (mcells R)) ∧ Hid (∀ k, k < 4 → Twd w.heap.size w' (M k) (R k)) ∧ Hid (Below w.heap.size w w') := by
  obtain ⟨W, hW⟩ : ∃ W, W = (w.alloc (.cells (mcells M) 26)).alloc (.cells #[.bool false, .slice none 0 0, .int .i64 0, .bool false, .slice none 0 0, .int .i64 0, .bool false, .slice none 0 0, .int .i64 0, .bool false, .slice none 0 0, .int .i64 0] 26) := ⟨_, rfl⟩
  have B0 := hid (show Below w.heap.size w W from hW ▸ ((Below.refl _ w).alloc (Nat.le_refl _) _).alloc (by simp) _)
  have P0 : Hid (Mbox W w.heap.size M) := hid (hW ▸ Mbox.alloc (show Mbox (w.alloc _) w.heap.size M from heap_alloc_new w _) _)
  have P1 : Hid (Mbox W (w.heap.size + 1) D0) := hid (hW ▸ (show Mbox _ (w.heap.size + 1) D0 from heap_alloc2_new w _ _))
  have HR := hid h
  have HW := hid hW
  have HN := hid hnil
  have Hn := hid hn
  clear hW h hnil hn
  refine (callsIn_wide (n := 9)).1 ?_
  refine callsIn_of_wp_marks Tryz.func32 rfl trivial (wpIn_wide.2 ?_) rfl
  simp only [Tryz.ntmps32, List.size_toArray, List.length_cons, List.length_nil, Nat.reduceAdd, Nat.reduceSub, Array.replicate_succ, Array.replicate_zero, List.push_toArray, List.append_toArray, List.nil_append, List.cons_append]
  go_upto_region 1 with fail
  rw [← HW.out]
  go_wp2_with fail
  refine (callsIn_wide.1 (parts_any 9 w.heap.size W)).mono ?_
  rintro e W1 ⟨rfl, hW1⟩
  have bS : Boxed W1 W.heap.size 114 (.pointer (some ⟨w.heap.size, 0, none⟩)) := by rw [hW1]; exact heap_alloc_new W _
  have B1 : Below W.heap.size W W1 := by rw [hW1]; exact (Below.refl _ W).alloc (Nat.le_refl _) _
  have hsz : w.heap.size + 2 = W.heap.size := by rw [HW.out]; simp
  have Q0 := hid (P0.out.below B1 P0.out.lt)
  have Q1 := hid (P1.out.below B1 P1.out.lt)
  have hs1 : W.heap.size + 1 = W1.heap.size := by rw [hW1]; simp
  have Hsz := hid hsz
  have Hs1 := hid hs1
  have HB1 := hid (B0.out.trans (B1.mono (by omega)))
  have HbS := hid bS
  have hI0 : TwI w M (W1.heap.size + 2) [] W1 := ⟨Q1.out, HB1.out, M, Q0.out, fun k _ hk => absurd hk (Nat.not_lt_zero _), fun _ _ _ => rfl⟩
  clear hW1 B1 bS hsz hs1
  go_wp2_with fail
  refine wpIn_wide.1 (range_overG (F := Fence.wide) (n := 9) (gf := 105) rfl (by omega) rfl trivial (enters_of Tryz.func105 (by kernel_rfl) rfl) (K := fun b => b = W.heap.size) (g := W.heap.size) rfl (fun b hb => by have := Hs1.out; have hb2 : b = W.heap.size := hb; omega)
    (parts_comesG 8 (by omega) HbS.out.cell HbS.out.lt) (fun _ => rfl) (TwI w M (W1.heap.size + 2)) (fun _ _ => False)
    ?keep (fun s X Y r h hg hr => h)
    (fun s X Y r h _ _ => h) hI0 ?a1 ?assign ?body ?done ?stop)
  case keep =>
    rintro s X Y r ⟨h1, h2, R, h3, h4, h5⟩ hg hr
    have a1 := Hsz.out
    have a2 := Hs1.out
    have a3 := h3.lt
    exact ⟨h1.grown hg (by omega), below_row h2 hg h2.size (by omega), R, h3.grown hg (by omega), fun k hk hk2 => (h4 k hk hk2).grown hg (by omega), h5⟩
  case assign =>
    intro l x W K hK
    gi_wp2
    exact hK
  case body =>
    intro l pre x Wx hpre hZ hI
    obtain ⟨k, hk⟩ := x
    obtain ⟨hkl, -⟩ := hpre.front
    dsimp only at hkl
    obtain ⟨hQ, hB, R, hR, hT, hS⟩ := hI
    have hRk := hS k hk (by omega)
    have HQ := hid hQ
    have HB := hid hB
    have HRb := hid hR
    have HT := hid hT
    have HS := hid hS
    have HZ := hid hZ
    have Hk := hid hk
    have Hkl := hid hkl
    have hr := (((HR.out k hk).below hB).mono hB.size)
    have hn := HN.out k hk
    have hm := Hn.out k hk
    obtain ⟨m, hmm⟩ : ∃ m, m = M k := ⟨_, rfl⟩
    rw [← hmm] at hr hn hm
    obtain ⟨y0, y1, y2⟩ := mcells_at hR hk (hRk.trans hmm.symm)
    have Hm := hid hmm
    clear hmm hB hR hT hS hQ hI0 hZ hkl hRk hpre
    obtain ⟨s, A, n, c, xx, f⟩ := m
    dsimp only at y0 y1 y2 hr hn hm
    have CC := hid (dtwin_any hr hn hm s xx)
    have Hs := hid (hr.max)
    clear hr hn hm
    unfold pptr
    gi_wp2_with fail
    refine ⟨trivial, ?_⟩
    refine (CallsIn.inRound l (callsIn_wide.2 CC.out)).mono ?_
    rintro e Wy ⟨A1, c1, rfl, hmk, hbel⟩
    have Ry := hid (HRb.out.below hbel.out HRb.out.lt)
    obtain ⟨z0, z1, z2⟩ := Ry.out.cell Hk.out
    have g0 := Ry.out.frozen (3 * k)
    have g1 := Ry.out.frozen (3 * k + 1)
    have g2 := Ry.out.frozen (3 * k + 2)
    clear y0 y1 y2
    gi_wp2
    show KeepsFrom _ _ (mput Wy w.heap.size k ⟨s, A1, n, c1, xx, f⟩) ∧ Kb _ _ (mput Wy w.heap.size k ⟨s, A1, n, c1, xx, f⟩) ∧ TwI w M _ _ (mput Wy w.heap.size k ⟨s, A1, n, c1, xx, f⟩)
    refine ⟨keeps_mput (keeps_below hbel.out), (kb_below hbel.out ?kb).mput ?n1, ?inv⟩
    case kb => intro b hb; have hb2 : b = W.heap.size := hb; have := Hs1.out; have := HZ.out; omega
    case n1 => intro hb; have hb2 : w.heap.size = W.heap.size := hb; have := Hsz.out; omega
    case inv =>
      have e1 := Hsz.out
      have e2 := Hs1.out
      have e3 := HZ.out
      have e4 := Hkl.out
      refine ⟨(HQ.out.below hbel.out HQ.out.lt).mput_far (k := k) (d := ⟨s, A1, n, c1, xx, f⟩) (by omega), below_mput (k := k) (d := ⟨s, A1, n, c1, xx, f⟩) (HB.out.trans (hbel.out.mono HB.out.size)) (Nat.le_refl _), updD R k ⟨s, A1, n, c1, xx, f⟩, Ry.out.put Hk.out ⟨s, A1, n, c1, xx, f⟩, fun j hj hj2 => ?_, fun j hj hj2 => ?_⟩
      · rw [List.length_append, List.length_singleton] at hj2
        by_cases hjk : j = k
        · subst hjk
          rw [updD_same, ← Hm.out]
          exact ⟨(hmk.out.mono (by omega)).mput (by omega), rfl, rfl, rfl, rfl⟩
        · rw [updD_ne _ _ hjk]
          exact ((HT.out j hj (by omega)).below hbel.out).mput (by omega)
      · rw [List.length_append, List.length_singleton] at hj2
        rw [updD_ne _ _ (by omega)]
        exact HS.out j hj (by omega)
  case done =>
    rintro D ys Wx hD hys ⟨hQ, hB, R, hR, hT, hS⟩ hK
    have e1 := Hsz.out
    have e2 := Hs1.out
    have hl := fst4_pre hys
    have HP := hid hR
    have HQ := hid hQ
    have g1 := grown_mstore Wx (w.heap.size + 1) R
    have hK' := (g1.block D (lt_of_heap hK) (by intro e; injection e with e; omega)).trans hK
    have g2 := grownBy_putObj' (mstore Wx (w.heap.size + 1) R) D (.deferred none)
    have HF := hid (show Mbox ((mstore Wx (w.heap.size + 1) R).putObj D (.deferred none)) (w.heap.size + 1) R from (hQ.store R).grown g2 (by omega))
    have HB2 := hid (below_row (below_row hB g1 hB.size (by omega)) g2 (Nat.le_trans hB.size g1.size) (by omega))
    have HT2 := hid (show ∀ k, k < 4 → Twd w.heap.size ((mstore Wx (w.heap.size + 1) R).putObj D (.deferred none)) (M k) (R k) from fun k hk => (((hT k hk (by omega)).grown g1 (by omega)).grown g2 (by omega)).mono (by omega))
    have HK := hid hK'
    clear e1 e2 hl hR hQ hB hT hS hK g1 g2 hK' hI0
    go_wp2_with (first
      | (with_reducible refine wp_mload rfl (.tmp 1) rfl w.heap.size R rfl HP.out ?_)
      | (with_reducible refine wp_mstore rfl (.tmp 2) (.tmp 12) rfl (w.heap.size + 1) D0 R rfl rfl HQ.out ?_)
      | fail)
    refine ⟨by simp, .inl ⟨_, _, rfl, run_takeDeferred HK.out, ?_⟩⟩
    exact ⟨_, mass_cell rfl _ _ (w.heap.size + 1) R rfl HF.out, R, rfl, HT2, HB2⟩
  case stop =>
    rintro D pre Wx hD _ h hK
    exact h.elim
open Go.RowKit Go.Shelf
attribute [local go_sem] Oper.semAt_some
def HaI (w : World) (H : Nat → Int) (D : Nat → Dy) (Z : Nat) (pre : List (Idx 4)) (X : World) : Prop :=
  Mbox X (w.heap.size + 1) D0 ∧ Boxed X (w.heap.size + 2) 35 (.int .i64 0) ∧ Below w.heap.size w X ∧
    ∃ R, Mbox X w.heap.size R ∧ (∀ k, k < 4 → k < pre.length → Owd Z X (H k) (R k) ∧ Okay (H k)) ∧ ∀ k, k < 4 → ¬ k < pre.length → R k = D k
def HaX (w : World) (H : Nat → Int) (X : World) : Prop := Mbox X (w.heap.size + 1) D0 ∧ Boxed X (w.heap.size + 2) 35 (.int .i64 10) ∧ Below w.heap.size w X ∧ ∃ k, k < 4 ∧ ¬ Okay (H k)
open Go.RowKit Go.Shelf
attribute [local go_sem] Oper.semAt_some
set_option maxRecDepth 100000 in
set_option maxHeartbeats 4000000 in
theorem pairs1_in (n : Nat) (hn : 1 ≤ n) (l Bs Bt g h : Nat) (R : World → World → Prop) (J Jx : List (Idx 4) → World → Prop)
    (hdr : ∀ W W' m, R W W' → R W (W'.drewN m)) (htr : ∀ W W' W'', R W W' → R W' W'' → R W W'')
    (hRa : ∀ W W' o, R W W' → R W (W'.alloc o)) (hJa : ∀ pre W o, J pre W → J pre (W.alloc o))
    (hJd : ∀ pre W m, J pre W → J pre (W.drewN m))
    (hY : ∀ pre x W, J pre W → Pre4 (pre ++ [x]) → YieldAt Fence.wide (n - 1) Tryz.prog l #[pptr g x.1, pptr h x.1] W fun e W' =>
      (e = .returned (.bool true) ∧ J (pre ++ [x]) W' ∧ R W W') ∨ (e = .returned (.bool false) ∧ Jx (pre ++ [x]) W'))
    (W : World) (hR0 : R W W) (hBs : W.cell? ⟨Bs, 0, none⟩ = some (.pointer (some ⟨g, 0, none⟩))) (hBt : W.cell? ⟨Bt, 0, none⟩ = some (.pointer (some ⟨h, 0, none⟩))) (h0 : J [] W) :
    CallsIn Fence.wide n Tryz.prog 108 #[.func (.yield l) #[] #[], .pointer (some ⟨Bs, 0, none⟩), .pointer (some ⟨Bt, 0, none⟩)] W fun e W' => (∃ v, e = .returned v) ∧
      ((∃ ys : List (Idx 4), ys.map (·.1) = fst 4 ∧ J ys W') ∨ (∃ pre : List (Idx 4), (∃ k, k ≤ 4 ∧ pre.map (·.1) = fst k) ∧ Jx pre W')) := by
  have i0 : ∀ w : World, (Instr.index 155 (.agg #[.pointer (some ⟨g, 0, none⟩), .pointer (some ⟨h, 0, none⟩), .pointer (some ⟨g, 3, none⟩), .pointer (some ⟨h, 3, none⟩), .pointer (some ⟨g, 6, none⟩), .pointer (some ⟨h, 6, none⟩), .pointer (some ⟨g, 9, none⟩), .pointer (some ⟨h, 9, none⟩)]) (.int .i64 0)).run Tryz.prog w = .ok (.agg #[.pointer (some ⟨g, 0, none⟩), .pointer (some ⟨h, 0, none⟩)]) w := fun _ => by kernel_rfl
  have i1 : ∀ w : World, (Instr.index 155 (.agg #[.pointer (some ⟨g, 0, none⟩), .pointer (some ⟨h, 0, none⟩), .pointer (some ⟨g, 3, none⟩), .pointer (some ⟨h, 3, none⟩), .pointer (some ⟨g, 6, none⟩), .pointer (some ⟨h, 6, none⟩), .pointer (some ⟨g, 9, none⟩), .pointer (some ⟨h, 9, none⟩)]) (.int .i64 1)).run Tryz.prog w = .ok (.agg #[.pointer (some ⟨g, 3, none⟩), .pointer (some ⟨h, 3, none⟩)]) w := fun _ => by kernel_rfl
  have i2 : ∀ w : World, (Instr.index 155 (.agg #[.pointer (some ⟨g, 0, none⟩), .pointer (some ⟨h, 0, none⟩), .pointer (some ⟨g, 3, none⟩), .pointer (some ⟨h, 3, none⟩), .pointer (some ⟨g, 6, none⟩), .pointer (some ⟨h, 6, none⟩), .pointer (some ⟨g, 9, none⟩), .pointer (some ⟨h, 9, none⟩)]) (.int .i64 2)).run Tryz.prog w = .ok (.agg #[.pointer (some ⟨g, 6, none⟩), .pointer (some ⟨h, 6, none⟩)]) w := fun _ => by kernel_rfl
  have i3 : ∀ w : World, (Instr.index 155 (.agg #[.pointer (some ⟨g, 0, none⟩), .pointer (some ⟨h, 0, none⟩), .pointer (some ⟨g, 3, none⟩), .pointer (some ⟨h, 3, none⟩), .pointer (some ⟨g, 6, none⟩), .pointer (some ⟨h, 6, none⟩), .pointer (some ⟨g, 9, none⟩), .pointer (some ⟨h, 9, none⟩)]) (.int .i64 3)).run Tryz.prog w = .ok (.agg #[.pointer (some ⟨g, 9, none⟩), .pointer (some ⟨h, 9, none⟩)]) w := fun _ => by kernel_rfl
  refine callsIn_of_wp Tryz.func108 rfl trivial ?_ rfl
  simp only [Tryz.ntmps108, List.size_toArray, List.length_cons, List.length_nil, Nat.reduceAdd, Nat.reduceSub, Array.replicate_succ, Array.replicate_zero, List.push_toArray, List.append_toArray, List.nil_append, List.cons_append]
  gi_wp2
  gi_quiet (fail)
  gi_wp2
  gi_loopw [35] (fun i wr => ∃ (k : Nat) (pre : List (Idx 4)), k ≤ 4 ∧ i = .int .i64 (k : Int) ∧ pre.map (·.1) = fst k ∧ J pre wr ∧ R W wr)
    (fun i _ => 4 - (intOf i).toNat)
  case atStart => exact ⟨0, [], by omega, rfl, rfl, hJd _ _ _ h0, hdr _ _ _ hR0⟩
  case round =>
    obtain ⟨k, pre, hk, rfl, hpre, hJs, hRr⟩ := hrel
    by_cases hk4 : k < 4
    · have hk1 : k + 1 ≤ 4 := by omega
      have hb : (pre ++ [(⟨k, hk4⟩ : Idx 4)]).map (·.1) = fst (k + 1) := by
        unfold fst at hpre ⊢
        rw [List.map_append, hpre, upto_succ]
        rfl
      obtain ⟨fn, tmps, assign, body, hy, hR⟩ := hY pre ⟨k, hk4⟩ (wr.alloc (.cells #[pptr g k, pptr h k] 154)) (hJa _ _ _ hJs) (pre4_of hb)
      dsimp only at hy
      unfold pptr at hy
      have hc : k = 0 ∨ k = 1 ∨ k = 2 ∨ k = 3 := by omega
      rcases hc with rfl | rfl | rfl | rfl
      all_goals
        simp only [Nat.mul_zero, Nat.mul_one, Nat.reduceMul] at hy
        gi_wp2
        refine hR.mono ?_
        rintro e W3 (⟨rfl, hJ3, hR3⟩ | ⟨rfl, hJx3⟩)
        · gi_wp2
          go_roundw
          case rel => exact ⟨_, _, hk1, rfl, hb, hJ3, htr _ _ _ (hRa _ _ _ hRr) hR3⟩
          case measure => simp [intOf]
        · gi_wp2
          refine bodyPost_ret (results_none rfl _ _ _) rfl ?_
          exact ⟨⟨_, rfl⟩, .inr ⟨_, ⟨_, hk1, hb⟩, hJx3⟩⟩
    · obtain rfl : k = 4 := by omega
      gi_wp2
      go_end0
      exact ⟨⟨_, rfl⟩, .inl ⟨_, hpre, hJs⟩⟩
theorem pairs_comesG (n : Nat) (hn : 1 ≤ n) {Bs Bt g h : Nat} {K : Nat → Prop} {w : World} (hBs : w.cell? ⟨Bs, 0, none⟩ = some (.pointer (some ⟨g, 0, none⟩))) (hBt : w.cell? ⟨Bt, 0, none⟩ = some (.pointer (some ⟨h, 0, none⟩))) (hlt : Bs < w.heap.size) (hlt2 : Bt < w.heap.size) (hKw : ∀ b, K b → b < w.heap.size) :
    ComesG Fence.wide n Tryz.prog 108 #[.pointer (some ⟨Bs, 0, none⟩), .pointer (some ⟨Bt, 0, none⟩)] (fun x : Idx 4 => #[pptr g x.1, pptr h x.1]) K Bs Pre4 (fun ys _ => ys.map (·.1) = fst 4) (fun pre => ∃ k, k ≤ 4 ∧ pre.map (·.1) = fst k) w := by
  intro l J Jx W hW hJg hY h0
  refine pairs1_in n hn l Bs Bt g h (fun X Y => w.heap.size ≤ X.heap.size → Kb K X Y) J Jx (fun X Y m k hX => ⟨(k hX).size, (k hX).block⟩) (fun X Y Z k1 k2 hX => (k1 hX).trans (k2 (Nat.le_trans hX (k1 hX).size)))
    (fun X Y o k hX => ⟨Nat.le_trans (k hX).size (by simp), fun b hb => (Below.heap_alloc Y o b (Nat.lt_of_lt_of_le (hKw b hb) (Nat.le_trans hX (k hX).size))).trans ((k hX).block b hb)⟩) (fun pre X o k => hJg _ _ _ k (World.grownBy_alloc X o _)) (fun pre X m k => hJg _ _ _ k (grownBy_drewN X m _))
    (fun pre x X k hg => ?_) W (fun _ => Kb.refl K W) ((hW.cell (p := ⟨Bs, 0, none⟩) hlt).trans hBs) ((hW.cell (p := ⟨Bt, 0, none⟩) hlt2).trans hBt) h0
  obtain ⟨fn, tmps, assign, body, hy, hR⟩ := hY pre x X hg k
  refine ⟨fn, tmps, assign, body, hy, hR.mono ?_⟩
  rintro e Y (⟨h1, h2, h3⟩ | h4)
  · exact .inl ⟨h1, h2, fun _ => h3⟩
  · exact .inr h4
set_option maxHeartbeats 1000000 in
theorem pairs_any (n : Nat) (g h : Nat) (w : World) :
    CallsIn Fence.wide n Tryz.prog 83 #[.pointer (some ⟨g, 0, none⟩), .pointer (some ⟨h, 0, none⟩)] w fun e w' => e = .returned (.func (.func 108) #[] #[.pointer (some ⟨w.heap.size, 0, none⟩), .pointer (some ⟨w.heap.size + 1, 0, none⟩)]) ∧ w' = (w.alloc (.cells #[.pointer (some ⟨g, 0, none⟩)] 114)).alloc (.cells #[.pointer (some ⟨h, 0, none⟩)] 114) := by
  refine callsIn_of_wp Tryz.func83 rfl trivial ?_ rfl
  simp only [Tryz.ntmps83, List.size_toArray, List.length_cons, List.length_nil, Nat.reduceAdd, Nat.reduceSub, Array.replicate_succ, Array.replicate_zero, List.push_toArray, List.append_toArray, List.nil_append, List.cons_append]
  gi_wp2
  go_ret
  exact ⟨rfl, rfl⟩
open Go.RowKit Go.Shelf
attribute [local go_sem] Oper.semAt_some
theorem new_at {w : World} {o : Obj} {g : Nat} (hg : g = w.heap.size) : (w.alloc o).heap[g]? = some o := by
  subst hg
  exact heap_alloc_new w o
def JoX (w : World) (H : Nat → Int) (X : World) : Prop := Mbox X (w.heap.size + 3) D0 ∧ Boxed X (w.heap.size + 4) 35 (.int .i64 10) ∧ Below w.heap.size w X ∧ ∃ k, k < 4 ∧ ¬ Okay (H k)
open Go.RowKit Go.Shelf
attribute [local go_sem] Oper.semAt_some
def Dsm (d e : Dy) : Prop := d.s = e.s ∧ d.x = e.x ∧ d.n = e.n ∧ ∀ j, d.f j = e.f j
def SaI (w : World) (D E : Nat → Dy) (pre : List (Idx 4)) (X : World) : Prop :=
  Mbox X w.heap.size D ∧ Mbox X (w.heap.size + 1) E ∧ Boxed X (w.heap.size + 2) 4 (.bool false) ∧ Below w.heap.size w X ∧ ∀ p ∈ pre, Dsm (D p.1) (E p.1)
def SaX (w : World) (D E : Nat → Dy) (X : World) : Prop := Boxed X (w.heap.size + 2) 4 (.bool false) ∧ Below w.heap.size w X ∧ ¬ ∀ k, k < 4 → Dsm (D k) (E k)
set_option maxRecDepth 100000 in
set_option maxHeartbeats 4000000 in
theorem msame_raw {w : World} {D E : Nat → Dy} {P : Prop} (h : Mrd w w.heap.size D) (h2 : Mrd w w.heap.size E) (HP : Hid (P ↔ ∀ k, k < 4 → Dsm (D k) (E k))) :
    Calls Tryz.prog 41 #[.agg (mcells D), .agg (mcells E)] w (Says w P) := by
  obtain ⟨W, hW⟩ : ∃ W, W = ((w.alloc (.cells (mcells D) 26)).alloc (.cells (mcells E) 26)).alloc (.cells #[.bool false] 4) := ⟨_, rfl⟩
  have B0 := hid (show Below w.heap.size w W from hW ▸ (((Below.refl _ w).alloc (Nat.le_refl _) _).alloc (by simp) _).alloc (by simp; omega) _)
  have P0 : Hid (Mbox W w.heap.size D) := hid (hW ▸ ((show Mbox (w.alloc _) w.heap.size D from new_at rfl).alloc _).alloc _)
  have P1 : Hid (Mbox W (w.heap.size + 1) E) := hid (hW ▸ (show Mbox ((w.alloc _).alloc _) (w.heap.size + 1) E from new_at (by simp)).alloc _)
  have P2 : Hid (Boxed W (w.heap.size + 2) 4 (.bool false)) := hid (hW ▸ (new_at (by simp)))
  have HR := hid h
  have HR2 := hid h2
  have HW := hid hW
  clear hW h h2
  refine (callsIn_wide (n := 9)).1 ?_
  refine callsIn_of_wp_marks Tryz.func41 rfl trivial (wpIn_wide.2 ?_) rfl
  simp only [Tryz.ntmps41, List.size_toArray, List.length_cons, List.length_nil, Nat.reduceAdd, Nat.reduceSub, Array.replicate_succ, Array.replicate_zero, List.push_toArray, List.append_toArray, List.nil_append, List.cons_append]
  go_upto_region 1 with fail
  rw [← HW.out]
  go_wp2_with fail
  refine (callsIn_wide.1 (pairs_any 9 w.heap.size (w.heap.size + 1) W)).mono ?_
  rintro e W1 ⟨rfl, hW1⟩
  have bS : Boxed W1 W.heap.size 114 (.pointer (some ⟨w.heap.size, 0, none⟩)) := by rw [hW1]; exact heap_alloc2_old W _ _
  have bT : Boxed W1 (W.heap.size + 1) 114 (.pointer (some ⟨w.heap.size + 1, 0, none⟩)) := by rw [hW1]; exact heap_alloc2_new W _ _
  have B1 : Below W.heap.size W W1 := by rw [hW1]; exact ((Below.refl _ W).alloc (Nat.le_refl _) _).alloc (by simp) _
  have hsz : w.heap.size + 3 = W.heap.size := by rw [HW.out]; simp
  have Q0 := hid (P0.out.below B1 P0.out.lt)
  have Q1 := hid (P1.out.below B1 P1.out.lt)
  have Q2 := hid (Boxed.below' P2.out B1 P2.out.lt)
  have hs1 : W.heap.size + 2 = W1.heap.size := by rw [hW1]; simp
  have Hsz := hid hsz
  have Hs1 := hid hs1
  have HB1 := hid (B0.out.trans (B1.mono (by omega)))
  have HbS := hid bS
  have HbT := hid bT
  have hI0 : SaI w D E [] W1 := ⟨Q0.out, Q1.out, Q2.out, HB1.out, fun p hp => by cases hp⟩
  clear hW1 B1 bS bT hsz hs1
  go_wp2_with fail
  refine wpIn_wide.1 (range_overG (F := Fence.wide) (n := 9) (gf := 108) rfl (by omega) rfl trivial (enters_of Tryz.func108 (by kernel_rfl) rfl) (K := fun b => b = W.heap.size ∨ b = W.heap.size + 1) (g := W.heap.size) (.inl rfl) ?kw
    (pairs_comesG 8 (by omega) HbS.out.cell HbT.out.cell HbS.out.lt HbT.out.lt ?kw2) (fun _ => rfl) (SaI w D E) (fun _ => SaX w D E)
    ?keep ?keepx
    (fun s X Y r h _ _ => h) hI0 ?a1 ?assign ?body ?done ?stop)
  case kw => intro b hb; have hb2 : b = W.heap.size ∨ b = W.heap.size + 1 := hb; have := Hs1.out; omega
  case kw2 => intro b hb; have hb2 : b = W.heap.size ∨ b = W.heap.size + 1 := hb; have := Hs1.out; omega
  case keep =>
    rintro s X Y r ⟨g1, g2, g3, g4, h5⟩ hg hr
    have a1 := Hsz.out
    have a2 := Hs1.out
    exact ⟨g1.grown hg (by omega), g2.grown hg (by omega), Boxed.grown' g3 hg (by omega), below_row g4 hg g4.size (by omega), h5⟩
  case keepx =>
    rintro s X Y r ⟨h1, h2, h3⟩ hg hr
    have a1 := Hsz.out
    have a2 := Hs1.out
    exact ⟨Boxed.grown' h1 hg (by omega), below_row h2 hg h2.size (by omega), h3⟩
  case assign =>
    intro l x W K hK
    gi_wp2
    exact hK
  case body =>
    intro l pre x Wx hpre hZ hI
    obtain ⟨k, hk⟩ := x
    obtain ⟨hA, hE, hQ, hB, hp⟩ := hI
    have HA0 := hid hA
    have HE0 := hid hE
    have HQ0 := hid hQ
    have HB := hid hB
    have Hp := hid hp
    have HZ := hid hZ
    have Hk := hid hk
    have hd := ((HR.out k hk).below hB).mono hB.size
    have hd2 := ((HR2.out k hk).below hB).mono hB.size
    obtain ⟨m, hmm⟩ : ∃ m, m = D k := ⟨_, rfl⟩
    obtain ⟨m2, hmm2⟩ : ∃ m, m = E k := ⟨_, rfl⟩
    rw [← hmm] at hd
    rw [← hmm2] at hd2
    obtain ⟨y0, y1, y2⟩ := mcells_at hA hk hmm.symm
    obtain ⟨v0, v1, v2⟩ := mcells_at hE hk hmm2.symm
    obtain ⟨P1, hP1⟩ : ∃ P1 : Prop, P1 ↔ Dsm m m2 := ⟨_, Iff.rfl⟩
    have HP1 : Hid (P1 ↔ Dsm (D k) (E k)) := hid (by rw [hP1, hmm, hmm2])
    clear hmm hmm2 hA hE hQ hB hp hI0 hZ hpre
    obtain ⟨s, A, n, c, xx, f⟩ := m
    obtain ⟨s2, A2, n2, c2, xx2, f2⟩ := m2
    dsimp only at y0 y1 y2 v0 v1 v2 hd hd2
    have CC := hid (fun w' (hb : Below Wx.heap.size Wx w') => dsame_raw (s := s) (t := s2) (x := xx) (y := xx2) ((hd.below hb).mono hb.size) ((hd2.below hb).mono hb.size) (hid hP1))
    clear hd hd2 hP1
    have CF : Hid (∀ w', Below Wx.heap.size Wx w' → (w'.cell? ⟨w.heap.size, 3 * k, none⟩ = some (.bool s) ∧ w'.cell? ⟨w.heap.size, 3 * k + 1, none⟩ = some (.slice A n c) ∧ w'.cell? ⟨w.heap.size, 3 * k + 2, none⟩ = some (.int .i64 xx) ∧
        w'.cell? ⟨w.heap.size + 1, 3 * k, none⟩ = some (.bool s2) ∧ w'.cell? ⟨w.heap.size + 1, 3 * k + 1, none⟩ = some (.slice A2 n2 c2) ∧ w'.cell? ⟨w.heap.size + 1, 3 * k + 2, none⟩ = some (.int .i64 xx2))) := hid fun w' hb =>
      ⟨(hb.cell (p := ⟨_, 3 * k, none⟩) HA0.out.lt).trans y0, (hb.cell (p := ⟨_, 3 * k + 1, none⟩) HA0.out.lt).trans y1, (hb.cell (p := ⟨_, 3 * k + 2, none⟩) HA0.out.lt).trans y2, (hb.cell (p := ⟨_, 3 * k, none⟩) HE0.out.lt).trans v0, (hb.cell (p := ⟨_, 3 * k + 1, none⟩) HE0.out.lt).trans v1, (hb.cell (p := ⟨_, 3 * k + 2, none⟩) HE0.out.lt).trans v2⟩
    have HBd : Hid (Below Wx.heap.size Wx Wx.drew) := hid (Below.refl Wx.heap.size Wx).drew
    clear y0 y1 y2 v0 v1 v2
    unfold pptr
    gi_wp2_with fail
    refine region_held (S := fun w' => w'.cell? ⟨w.heap.size, 3 * k, none⟩ = some (.bool s) ∧ w'.cell? ⟨w.heap.size, 3 * k + 1, none⟩ = some (.slice A n c) ∧ w'.cell? ⟨w.heap.size, 3 * k + 2, none⟩ = some (.int .i64 xx) ∧
        w'.cell? ⟨w.heap.size + 1, 3 * k, none⟩ = some (.bool s2) ∧ w'.cell? ⟨w.heap.size + 1, 3 * k + 1, none⟩ = some (.slice A2 n2 c2) ∧ w'.cell? ⟨w.heap.size + 1, 3 * k + 2, none⟩ = some (.int .i64 xx2)) (by kernel_rfl) (by kernel_rfl) (by rintro ⟨a, w, h⟩; exact h) (CF.out _ HBd.out) (fun hHeld => ?_)
    refine wpAnyH_take (i := 0) (v := ?v1) rfl (by kernel_rfl) (by kernel_rfl) (by kernel_rfl) (fun _ _ _ h => h) (Or.inl ⟨by rfl, ?y1⟩) (by assumption) ?r1
    case y1 => (intro w0 hSw; (try dsimp only at hSw); (try simp only [List.getElem_toArray, List.getElem_cons_zero]); go_simp; try with_reducible rfl)
    (try simp only [Act.put, List.setIfInBounds_toArray, List.set_cons_zero, List.set_cons_succ, List.getElem_toArray, List.getElem_cons_zero])
    refine wpAnyH_take (i := 1) (v := ?v2) rfl (by kernel_rfl) (by kernel_rfl) (by kernel_rfl) (fun _ _ _ h => h) (Or.inl ⟨by rfl, ?y2⟩) (by assumption) ?r2
    case y2 => (intro w0 hSw; (try dsimp only at hSw); (try simp only [List.getElem_toArray, List.getElem_cons_succ, List.getElem_cons_zero]); go_simp; try with_reducible rfl)
    (try simp only [Act.put, List.setIfInBounds_toArray, List.set_cons_zero, List.set_cons_succ, List.getElem_toArray, List.getElem_cons_succ, List.getElem_cons_zero])
    refine wpAnyH_take (i := 2) (v := ?v3) rfl (by kernel_rfl) (by kernel_rfl) (by kernel_rfl) (fun _ _ _ h => h) (Or.inl ⟨by rfl, ?y3⟩) (by assumption) ?r3
    case y3 => (intro w0 hSw; (try dsimp only at hSw); (try simp only [List.getElem_toArray, List.getElem_cons_succ, List.getElem_cons_zero]); go_simp; try with_reducible rfl)
    (try simp only [Act.put, List.setIfInBounds_toArray, List.set_cons_zero, List.set_cons_succ, List.getElem_toArray, List.getElem_cons_succ, List.getElem_cons_zero])
    refine wpAnyH_take (i := 3) (v := ?v4) rfl (by kernel_rfl) (by kernel_rfl) (by kernel_rfl) (fun _ _ _ h => h) (Or.inl ⟨by rfl, ?y4⟩) (by assumption) ?r4
    case y4 => (intro w0 hSw; (try dsimp only at hSw); (try simp only [List.getElem_toArray, List.getElem_cons_succ, List.getElem_cons_zero]); go_simp; try with_reducible rfl)
    (try simp only [Act.put, List.setIfInBounds_toArray, List.set_cons_zero, List.set_cons_succ, List.getElem_toArray, List.getElem_cons_succ, List.getElem_cons_zero])
    refine wpAnyH_take (i := 4) (v := ?v5) rfl (by kernel_rfl) (by kernel_rfl) (by kernel_rfl) (fun _ _ _ h => h) (Or.inl ⟨by rfl, ?y5⟩) (by assumption) ?r5
    case y5 => (intro w0 hSw; (try dsimp only at hSw); (try simp only [List.getElem_toArray, List.getElem_cons_succ, List.getElem_cons_zero]); go_simp; try with_reducible rfl)
    (try simp only [Act.put, List.setIfInBounds_toArray, List.set_cons_zero, List.set_cons_succ, List.getElem_toArray, List.getElem_cons_succ, List.getElem_cons_zero])
    refine wpAnyH_take (i := 5) (v := ?v6) rfl (by kernel_rfl) (by kernel_rfl) (by kernel_rfl) (fun _ _ _ h => h) (Or.inl ⟨by rfl, ?y6⟩) (by assumption) ?r6
    case y6 => (intro w0 hSw; (try dsimp only at hSw); (try simp only [List.getElem_toArray, List.getElem_cons_succ, List.getElem_cons_zero]); go_simp; try with_reducible rfl)
    (try simp only [Act.put, List.setIfInBounds_toArray, List.set_cons_zero, List.set_cons_succ, List.getElem_toArray, List.getElem_cons_succ, List.getElem_cons_zero])
    refine wpAnyH_ready (rs := [6]) (by kernel_rfl) (by simp) ?_
    refine AllReadyH.cons rfl (fun K hK => ?_) AllReadyH.nil
    (try simp only [Act.put, List.setIfInBounds_toArray, List.set_cons_zero, List.set_cons_succ, List.getElem_toArray, List.getElem_cons_succ, List.getElem_cons_zero])
    go_simp
    refine (CC.out _ HBd.out).mono ?_
    rintro e Wy ⟨r, rfl, Hr, hbel⟩
    have HBy := hid (HBd.out.trans (hbel.out.mono HBd.out.size))
    try dsimp only
    refine hK.out _ _ (CF.out _ HBy.out) (fun hHeld => ?_)
    clear hK K
    (try simp only [Act.put, List.setIfInBounds_toArray, List.set_cons_zero, List.set_cons_succ, List.getElem_toArray, List.getElem_cons_succ, List.getElem_cons_zero])
    refine wpAnyH_take (i := 7) (v := ?v7) rfl (by kernel_rfl) (by kernel_rfl) (by kernel_rfl) (fun _ _ _ h => h) (Or.inl ⟨by rfl, ?y7⟩) (by assumption) ?r7
    case y7 => (intro w0 hSw; (try dsimp only at hSw); (try simp only [List.getElem_toArray, List.getElem_cons_succ, List.getElem_cons_zero]); go_simp; try with_reducible rfl)
    (try simp only [Act.put, List.setIfInBounds_toArray, List.set_cons_zero, List.set_cons_succ, List.getElem_toArray, List.getElem_cons_succ, List.getElem_cons_zero])
    refine wpAnyH_done (by kernel_rfl) ?_ _
    clear hHeld
    have HQy := hid (Boxed.below' HQ0.out HBy.out HQ0.out.lt)
    have By := hid (HB.out.trans (HBy.out.mono HB.out.size))
    have q0 := HQy.out.cell
    have q1 := HQy.out.frozen
    cases r with
    | true =>
      clear q0 q1
      gi_wp2
      refine ⟨keeps_below HBy.out, kb_below HBy.out ?kb, HA0.out.below HBy.out HA0.out.lt, HE0.out.below HBy.out HE0.out.lt, HQy.out, By.out, ?_⟩
      case kb => intro b hb; have hb2 : b = W.heap.size ∨ b = W.heap.size + 1 := hb; have := Hs1.out; have := HZ.out; omega
      intro p hp
      rcases List.mem_append.1 hp with h | h
      · exact Hp.out p h
      · obtain rfl : p = ⟨k, Hk.out⟩ := by simpa using h
        exact HP1.out.1 (Hr.out.1 (by trivial))
    | false =>
      gi_wp2
      refine ⟨(keeps_below HBy.out).trans ((KeepsOthers.setCell _ ⟨w.heap.size + 2, 0, none⟩ _).from _), HQy.out.set _, By.out.setCell (p := ⟨w.heap.size + 2, 0, none⟩) (by show w.heap.size ≤ w.heap.size + 2; omega) _, fun hall => ?_⟩
      have := Hr.out.2 (HP1.out.2 (hall k Hk.out))
      cases this
  case done =>
    rintro D' ys Wx rfl hys ⟨hA, hE, hQ, hB, hp⟩ hK
    have e1 := Hsz.out
    have e2 := Hs1.out
    have q0 := hQ.cell
    have q1 := hQ.frozen
    have hK2 := (KeepsOthers.setCell Wx ⟨w.heap.size + 2, 0, none⟩ (.bool true)).same W1.heap.size _ hK rfl
    have g2 := grownBy_putObj' (Wx.setCell ⟨w.heap.size + 2, 0, none⟩ (.bool true)) W1.heap.size (.deferred none)
    have hc := (Boxed.grown' (hQ.set (.bool true)) g2 (by omega)).cell
    have hB2 := (hB.setCell (p := ⟨w.heap.size + 2, 0, none⟩) (by show w.heap.size ≤ w.heap.size + 2; omega) (.bool true))
    have HB2 := hid (below_row hB2 g2 hB2.size (by omega))
    have HK := hid hK2
    have Hc := hid hc
    have HY := hid (show ∀ k, k < 4 → Dsm (D k) (E k) from fun k hk => by obtain ⟨p, hm, e⟩ := mem_fst hys hk; have := hp p hm; rw [e] at this; exact this)
    clear e1 e2 hA hE hQ hB hp hK hK2 g2 hc hB2 hys hI0
    go_wp2
    refine ⟨by simp, .inl ⟨_, _, rfl, run_takeDeferred HK.out, ?_⟩⟩
    have hc := Hc.out
    refine ⟨.bool true, by simp [results, Tryz.f41, go_sem, hc], true, rfl, ⟨fun _ => HP.out.2 HY.out, fun _ => rfl⟩, HB2.out⟩
  case stop =>
    rintro D' pre Wx rfl ⟨k, hk, hpre⟩ ⟨hQ, hB, hN⟩ hK
    have HN := hid hN
    clear hN hpre
    gi_wp2
    refine ⟨by simp, .inl ⟨_, _, rfl, run_takeDeferred hK, ?_⟩⟩
    have e1 := Hsz.out
    have e2 := Hs1.out
    have g2 := grownBy_putObj' Wx W1.heap.size (.deferred none)
    have hc := (Boxed.grown' hQ g2 (by omega)).cell
    refine ⟨.bool false, by simp [results, Tryz.f41, go_sem, hc], false, rfl, ⟨(fun h => by cases h), fun h => absurd (HP.out.1 h) HN.out⟩, below_row hB g2 hB.size (by omega)⟩
open Go.RowKit Go.Shelf
open Go.RowKit Go.Shelf
theorem wp1_mstore {o : Oper} {a : Act} {w : World} {K : Act → World → Prop} {Q : Exit → Act → World → Prop} (x y : Operand) (ho : o.op = .store 26 x y)
    (g : Nat) (D E : Nat → Dy) (hx : a.eval x = .pointer (some ⟨g, 0, none⟩)) (hy : a.eval y = .agg (mcells E)) (hg : Mbox w g D) (h : K (a.put o.dst undef) (mstore w g E)) : o.wp Tryz.prog a w K Q :=
  wp_store_mid _ x y ho g 0 (mcells E) hx hy (hg.there E) (mass_size_ E) (mcells_one E) h
theorem Mbox.at_ {w : World} {g : Nat} {D : Nat → Dy} (h : Mbox w g D) (j : Nat) (v : Value) (hv : (mcells D)[j]? = some v) : w.cell? ⟨g, j, none⟩ = some v := by
  rw [cell_of_row w g j _ _ (0, 0) h]
  exact hv
theorem ite_go {c P Q : Prop} [Decidable c] (hc : c) (h : P) : if c then P else Q := by rw [if_pos hc]; exact h
def of4 {α : Type} (a b c d : α) : Nat → α
  | 0 => a
  | 1 => b
  | 2 => c
  | _ => d
theorem all_of4 {P : Nat → Prop} (h0 : P 0) (h1 : P 1) (h2 : P 2) (h3 : P 3) : ∀ k, k < 4 → P k := fun k hk => by
  have hc : k = 0 ∨ k = 1 ∨ k = 2 ∨ k = 3 := by omega
  rcases hc with rfl | rfl | rfl | rfl <;> assumption
abbrev d0 : Dy := ⟨false, none, 0, 0, 0, fun _ => 0⟩
def Serr (p : Prop) (H0 H1 : Int) (er : Int) : Prop := (p → ((Okay H0 ∧ Okay H1) ∧ er = 0) ∨ (¬ (Okay H0 ∧ Okay H1) ∧ er = 10)) ∧ (¬ p → er = 8)
def SRes (w : World) (p : Prop) (M : Nat → Int) (H0 H1 : Int) (e : Ending) (w' : World) : Prop :=
  ∃ K S er, e = .returned (.tuple #[.agg (mcells K), .agg (mcells S), .int .i64 er]) ∧ Hid (Serr p H0 H1 er) ∧
    Hid (∃ B, w.heap.size ≤ B ∧ Mow B w' (resM er (of4 H0 H1 (M 2) (M 3))) K ∧ Mow w.heap.size w' (resM er (of4 H0 H1 0 0)) S ∧ Mrd w' B S) ∧ Hid (Below w.heap.size w w')
def SpS (w : World) (g k B : Nat) (MK MS : Nat → Int) (K S : Nat → Dy) (X : World) : Prop :=
  Mbox X g K ∧ Mbox X k S ∧ Mow B X MK K ∧ Mow w.heap.size X MS S ∧ Mrd X B S ∧ Below w.heap.size w X ∧ w.heap.size ≤ g ∧ w.heap.size ≤ k ∧ g < B ∧ k < B ∧ g < k
end Go.Proofs.YtbankbehfjogpaaGreat
