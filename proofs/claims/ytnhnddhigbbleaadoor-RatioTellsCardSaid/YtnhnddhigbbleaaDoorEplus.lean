/- The document's signed bits: Plus. -/
import Derived.Test.YtnhnddhigbbleaaDoorEsig
import Derived.Test.YtnhnddhigbbleaaDoorRplus
namespace Go.Proofs.YtnhnddhigbbleaaDoor
open Go.RowKit

theorem Bt.short {w : World} {B V L : Nat} {A : Option Addr} {n c : Nat} (h : Bt w B V (.slice A n c)) (hV : V < tw L) : Bits w B A n c V ∧ n ≤ L := by
  obtain ⟨A', n', c', hv, hr, hl⟩ := h
  injection hv with h1 h2 h3
  subst h1 h2 h3
  exact ⟨hr, Bt.len hl hV hr⟩


set_option maxHeartbeats 3200000 in
theorem eplus_like {w : World} {L U V : Nat} {A D : Option Addr} {n c k d : Nat} {s : Bool} (h1 : Bt w w.heap.size U (.slice A n c)) (h2 : Bt w w.heap.size V (.slice D k d)) (hU : U < tw L) (hV : V < tw L) (hL : L ≤ 3900)  :
    Calls Tryd.prog 20 #[.agg #[.bool s, .slice A n c], .agg #[.bool s, .slice D k d]] w fun e w' => ∃ r, e = .returned r ∧ Hid (Sg w' (L + 1) (num s U + num s V) r) ∧ Hid (Below w.heap.size w w') := by
  obtain ⟨b1, l1⟩ := h1.short hU
  obtain ⟨b2, l2⟩ := h2.short hV
  have B0 := hid ((((Below.refl w.heap.size w).alloc (Nat.le_refl _) (.cells #[.bool s, .slice A n c] 45)).alloc (by simp) (.cells #[.bool s, .slice D k d] 45)).alloc (by simp <;> omega) (.cells #[.bool false, .slice none 0 0] 45))
  have P0 : Hid (Sbox _ w.heap.size s (.slice A n c)) := heap3_0 w (.cells #[.bool s, .slice A n c] 45) (.cells #[.bool s, .slice D k d] 45) (.cells #[.bool false, .slice none 0 0] 45)
  have P1 : Hid (Sbox _ (w.heap.size + 1) s (.slice D k d)) := heap3_1 w (.cells #[.bool s, .slice A n c] 45) (.cells #[.bool s, .slice D k d] 45) (.cells #[.bool false, .slice none 0 0] 45)
  have P2 : Hid (Sbox _ (w.heap.size + 2) false (.slice none 0 0)) := heap3_2 w (.cells #[.bool s, .slice A n c] 45) (.cells #[.bool s, .slice D k d] 45) (.cells #[.bool false, .slice none 0 0] 45)
  have X1 := hid b1
  have X2 := hid b2
  have HU := hid hU
  have HV := hid hV
  obtain ⟨W, hW⟩ : ∃ W, W = ((w.alloc (.cells #[.bool s, .slice A n c] 45)).alloc (.cells #[.bool s, .slice D k d] 45)).alloc (.cells #[.bool false, .slice none 0 0] 45) := ⟨_, rfl⟩
  have HW := hid hW
  rw [← hW] at B0 P0 P1 P2
  have L2 := hid P2.out.lt
  have CF : Hid (∀ w', Below W.heap.size W w' → w'.cell? ⟨w.heap.size, 0, none⟩ = some (.bool s) ∧ w'.cell? ⟨w.heap.size, 1, none⟩ = some (.slice A n c) ∧ w'.cell? ⟨w.heap.size + 1, 0, none⟩ = some (.bool s) ∧ w'.cell? ⟨w.heap.size + 1, 1, none⟩ = some (.slice D k d)) :=
    fun w' hb => ⟨(P0.out.below hb P0.out.lt).c0, (P0.out.below hb P0.out.lt).c1, (P1.out.below hb P1.out.lt).c0, (P1.out.below hb P1.out.lt).c1⟩
  have CG : Hid (∀ w' u v, Below W.heap.size W w' → ((w'.setCell ⟨w.heap.size + 2, 0, none⟩ u).setCell ⟨w.heap.size + 2, 1, none⟩ v).cell? ⟨w.heap.size, 0, none⟩ = some (.bool s) ∧ ((w'.setCell ⟨w.heap.size + 2, 0, none⟩ u).setCell ⟨w.heap.size + 2, 1, none⟩ v).cell? ⟨w.heap.size, 1, none⟩ = some (.slice A n c) ∧ ((w'.setCell ⟨w.heap.size + 2, 0, none⟩ u).setCell ⟨w.heap.size + 2, 1, none⟩ v).cell? ⟨w.heap.size + 1, 0, none⟩ = some (.bool s) ∧ ((w'.setCell ⟨w.heap.size + 2, 0, none⟩ u).setCell ⟨w.heap.size + 2, 1, none⟩ v).cell? ⟨w.heap.size + 1, 1, none⟩ = some (.slice D k d)) := by
    intro w' u v hb
    have h := ((P0.out.below hb P0.out.lt).far (k := w.heap.size + 2) (by omega) 0 u).far (k := w.heap.size + 2) (by omega) 1 v
    have h' := ((P1.out.below hb P1.out.lt).far (k := w.heap.size + 2) (by omega) 0 u).far (k := w.heap.size + 2) (by omega) 1 v
    exact ⟨h.c0, h.c1, h'.c0, h'.c1⟩
  have a0 := P0.out.c0
  have a1 := P0.out.c1
  have a2 := P1.out.c0
  have a3 := P1.out.c1
  clear h1 h2 hU hV b1 b2 hW P0 P1
  go_enter Tryd.func20, Tryd.ntmps20
  go_upto_region 1 with fail
  rw [← HW.out]
  go_upto_region 2 with fail
  have HBz := hid ((Below.refl W.heap.size W).drew)
  go_region_held3 (fun w' => w'.cell? ⟨w.heap.size, 0, none⟩ = some (.bool s) ∧ w'.cell? ⟨w.heap.size, 1, none⟩ = some (.slice A n c) ∧ w'.cell? ⟨w.heap.size + 1, 0, none⟩ = some (.bool s) ∧ w'.cell? ⟨w.heap.size + 1, 1, none⟩ = some (.slice D k d))
    (first | exact CF.out _ HBz.out | exact CG.out _ _ _ HBz.out)
    ((go_at_call 23
      refine (Plus_bits (X1.out.below (B0.out.trans (HBz.out.mono B0.out.size))) (X2.out.below (B0.out.trans (HBz.out.mono B0.out.size))) (B0.out.trans (HBz.out.mono B0.out.size)).size (B0.out.trans (HBz.out.mono B0.out.size)).size (by omega) (by omega)).mono ?_
      rintro e wb ⟨v, rfl, Ba, A2, n2, c2, rfl, Bv, Bl⟩
      have HBt := hid (show Bt wb wb.heap.size (U + V) (.slice A2 n2 c2) from ⟨A2, n2, c2, rfl, Bv, Bl⟩)
      have HBz := hid (HBz.out.trans (Ba.mono HBz.out.size))
      have P2 := hid (P2.out.below HBz.out L2.out)
      have g0 := P2.out.frozen 0
      have g1 := P2.out.frozen 1
      have e0 := P2.out.c0
      have e1 := P2.out.c1
      clear Ba Bv Bl))
  all_goals
    clear g0 g1 e0 e1
    go_wp2
    refine ret_sig rfl rfl rfl (P2.out.store (t := s) (u := .slice A2 n2 c2)) ?_
    refine ⟨_, rfl, ⟨s, A2, n2, c2, _, rfl, (HBt.out.stay P2.out).mono (Nat.le_of_eq (put2_size _ _ _ _).symm), ?_, ?_⟩, below_put2 (B0.out.trans (HBz.out.mono B0.out.size)) (by omega)⟩
    · have h1 := HU.out
      have h2 := HV.out
      rw [tw_succ]
      omega
    · exact num_like s U V


set_option maxHeartbeats 3200000 in
theorem eplus_more {w : World} {L U V : Nat} {A D : Option Addr} {n c k d : Nat} {s t : Bool} (h1 : Bt w w.heap.size U (.slice A n c)) (h2 : Bt w w.heap.size V (.slice D k d)) (hU : U < tw L) (hV : V < tw L) (hL : L ≤ 3900) (hst : ¬ s = t) (hle : V ≤ U) :
    Calls Tryd.prog 20 #[.agg #[.bool s, .slice A n c], .agg #[.bool t, .slice D k d]] w fun e w' => ∃ r, e = .returned r ∧ Hid (Sg w' (L + 1) (num s U + num t V) r) ∧ Hid (Below w.heap.size w w') := by
  obtain ⟨b1, l1⟩ := h1.short hU
  obtain ⟨b2, l2⟩ := h2.short hV
  have B0 := hid ((((Below.refl w.heap.size w).alloc (Nat.le_refl _) (.cells #[.bool s, .slice A n c] 45)).alloc (by simp) (.cells #[.bool t, .slice D k d] 45)).alloc (by simp <;> omega) (.cells #[.bool false, .slice none 0 0] 45))
  have P0 : Hid (Sbox _ w.heap.size s (.slice A n c)) := heap3_0 w (.cells #[.bool s, .slice A n c] 45) (.cells #[.bool t, .slice D k d] 45) (.cells #[.bool false, .slice none 0 0] 45)
  have P1 : Hid (Sbox _ (w.heap.size + 1) t (.slice D k d)) := heap3_1 w (.cells #[.bool s, .slice A n c] 45) (.cells #[.bool t, .slice D k d] 45) (.cells #[.bool false, .slice none 0 0] 45)
  have P2 : Hid (Sbox _ (w.heap.size + 2) false (.slice none 0 0)) := heap3_2 w (.cells #[.bool s, .slice A n c] 45) (.cells #[.bool t, .slice D k d] 45) (.cells #[.bool false, .slice none 0 0] 45)
  have X1 := hid b1
  have X2 := hid b2
  have HU := hid hU
  have HV := hid hV
  obtain ⟨W, hW⟩ : ∃ W, W = ((w.alloc (.cells #[.bool s, .slice A n c] 45)).alloc (.cells #[.bool t, .slice D k d] 45)).alloc (.cells #[.bool false, .slice none 0 0] 45) := ⟨_, rfl⟩
  have HW := hid hW
  rw [← hW] at B0 P0 P1 P2
  have L2 := hid P2.out.lt
  have CF : Hid (∀ w', Below W.heap.size W w' → w'.cell? ⟨w.heap.size, 0, none⟩ = some (.bool s) ∧ w'.cell? ⟨w.heap.size, 1, none⟩ = some (.slice A n c) ∧ w'.cell? ⟨w.heap.size + 1, 0, none⟩ = some (.bool t) ∧ w'.cell? ⟨w.heap.size + 1, 1, none⟩ = some (.slice D k d)) :=
    fun w' hb => ⟨(P0.out.below hb P0.out.lt).c0, (P0.out.below hb P0.out.lt).c1, (P1.out.below hb P1.out.lt).c0, (P1.out.below hb P1.out.lt).c1⟩
  have CG : Hid (∀ w' u v, Below W.heap.size W w' → ((w'.setCell ⟨w.heap.size + 2, 0, none⟩ u).setCell ⟨w.heap.size + 2, 1, none⟩ v).cell? ⟨w.heap.size, 0, none⟩ = some (.bool s) ∧ ((w'.setCell ⟨w.heap.size + 2, 0, none⟩ u).setCell ⟨w.heap.size + 2, 1, none⟩ v).cell? ⟨w.heap.size, 1, none⟩ = some (.slice A n c) ∧ ((w'.setCell ⟨w.heap.size + 2, 0, none⟩ u).setCell ⟨w.heap.size + 2, 1, none⟩ v).cell? ⟨w.heap.size + 1, 0, none⟩ = some (.bool t) ∧ ((w'.setCell ⟨w.heap.size + 2, 0, none⟩ u).setCell ⟨w.heap.size + 2, 1, none⟩ v).cell? ⟨w.heap.size + 1, 1, none⟩ = some (.slice D k d)) := by
    intro w' u v hb
    have h := ((P0.out.below hb P0.out.lt).far (k := w.heap.size + 2) (by omega) 0 u).far (k := w.heap.size + 2) (by omega) 1 v
    have h' := ((P1.out.below hb P1.out.lt).far (k := w.heap.size + 2) (by omega) 0 u).far (k := w.heap.size + 2) (by omega) 1 v
    exact ⟨h.c0, h.c1, h'.c0, h'.c1⟩
  have a0 := P0.out.c0
  have a1 := P0.out.c1
  have a2 := P1.out.c0
  have a3 := P1.out.c1
  clear h1 h2 hU hV b1 b2 hW P0 P1
  have CO : Hid (Calls Tryd.prog 35 #[.slice A n c, .slice D k d] W fun e w' => e = .returned (.int .i64 (cmpN U V)) ∧ W = w') := Order_any (X1.out.below B0.out) (X2.out.below B0.out)
  have hst2 : (s == t) = false := by simp [hst]
  have Hst := hid hst
  have Hle := hid hle
  obtain ⟨r, hr, hr2⟩ : ∃ r : Int, r = cmpN U V ∧ 0 ≤ r := ⟨_, rfl, by unfold cmpN; rw [if_neg (by omega)]; split <;> omega⟩
  rw [← hr] at CO
  clear hr hst hle
  go_enter Tryd.func20, Tryd.ntmps20
  go_upto_region 1 with fail
  rw [← HW.out]
  go_wp2_with fail
  refine CO.out.mono ?_
  rintro e w' ⟨rfl, rfl⟩
  clear CO
  go_upto_region 4 with fail
  have HBz := hid ((Below.refl W.heap.size W).drew)
  go_region_held3 (fun w' => w'.cell? ⟨w.heap.size, 0, none⟩ = some (.bool s) ∧ w'.cell? ⟨w.heap.size, 1, none⟩ = some (.slice A n c) ∧ w'.cell? ⟨w.heap.size + 1, 0, none⟩ = some (.bool t) ∧ w'.cell? ⟨w.heap.size + 1, 1, none⟩ = some (.slice D k d))
    (first | exact CF.out _ HBz.out | exact CG.out _ _ _ HBz.out)
    ((go_at_call 36
      refine (Minus_bits (X1.out.below (B0.out.trans (HBz.out.mono B0.out.size))) (X2.out.below (B0.out.trans (HBz.out.mono B0.out.size))) (B0.out.trans (HBz.out.mono B0.out.size)).size (B0.out.trans (HBz.out.mono B0.out.size)).size (by omega) Hle.out).mono ?_
      rintro e wb ⟨v, rfl, Ba, A2, n2, c2, rfl, Bv, Bl⟩
      have HBt := hid (show Bt wb wb.heap.size (U - V) (.slice A2 n2 c2) from ⟨A2, n2, c2, rfl, Bv, Bl⟩)
      have HBz := hid (HBz.out.trans (Ba.mono HBz.out.size))
      have P2 := hid (P2.out.below HBz.out L2.out)
      have g0 := P2.out.frozen 0
      have g1 := P2.out.frozen 1
      have e0 := P2.out.c0
      have e1 := P2.out.c1
      clear Ba Bv Bl))
  all_goals
    clear g0 g1 e0 e1
    go_wp2
    refine ret_sig rfl rfl rfl (P2.out.store (t := s) (u := .slice A2 n2 c2)) ?_
    refine ⟨_, rfl, ⟨s, A2, n2, c2, _, rfl, (HBt.out.stay P2.out).mono (Nat.le_of_eq (put2_size _ _ _ _).symm), ?_, ?_⟩, below_put2 (B0.out.trans (HBz.out.mono B0.out.size)) (by omega)⟩
    · have h1 := HU.out
      have h2 := HV.out
      rw [tw_succ]
      omega
    · exact num_unlike Hst.out Hle.out


set_option maxHeartbeats 3200000 in
theorem eplus_less {w : World} {L U V : Nat} {A D : Option Addr} {n c k d : Nat} {s t : Bool} (h1 : Bt w w.heap.size U (.slice A n c)) (h2 : Bt w w.heap.size V (.slice D k d)) (hU : U < tw L) (hV : V < tw L) (hL : L ≤ 3900) (hst : ¬ s = t) (hle : U < V) :
    Calls Tryd.prog 20 #[.agg #[.bool s, .slice A n c], .agg #[.bool t, .slice D k d]] w fun e w' => ∃ r, e = .returned r ∧ Hid (Sg w' (L + 1) (num s U + num t V) r) ∧ Hid (Below w.heap.size w w') := by
  obtain ⟨b1, l1⟩ := h1.short hU
  obtain ⟨b2, l2⟩ := h2.short hV
  have B0 := hid ((((Below.refl w.heap.size w).alloc (Nat.le_refl _) (.cells #[.bool s, .slice A n c] 45)).alloc (by simp) (.cells #[.bool t, .slice D k d] 45)).alloc (by simp <;> omega) (.cells #[.bool false, .slice none 0 0] 45))
  have P0 : Hid (Sbox _ w.heap.size s (.slice A n c)) := heap3_0 w (.cells #[.bool s, .slice A n c] 45) (.cells #[.bool t, .slice D k d] 45) (.cells #[.bool false, .slice none 0 0] 45)
  have P1 : Hid (Sbox _ (w.heap.size + 1) t (.slice D k d)) := heap3_1 w (.cells #[.bool s, .slice A n c] 45) (.cells #[.bool t, .slice D k d] 45) (.cells #[.bool false, .slice none 0 0] 45)
  have P2 : Hid (Sbox _ (w.heap.size + 2) false (.slice none 0 0)) := heap3_2 w (.cells #[.bool s, .slice A n c] 45) (.cells #[.bool t, .slice D k d] 45) (.cells #[.bool false, .slice none 0 0] 45)
  have X1 := hid b1
  have X2 := hid b2
  have HU := hid hU
  have HV := hid hV
  obtain ⟨W, hW⟩ : ∃ W, W = ((w.alloc (.cells #[.bool s, .slice A n c] 45)).alloc (.cells #[.bool t, .slice D k d] 45)).alloc (.cells #[.bool false, .slice none 0 0] 45) := ⟨_, rfl⟩
  have HW := hid hW
  rw [← hW] at B0 P0 P1 P2
  have L2 := hid P2.out.lt
  have CF : Hid (∀ w', Below W.heap.size W w' → w'.cell? ⟨w.heap.size, 0, none⟩ = some (.bool s) ∧ w'.cell? ⟨w.heap.size, 1, none⟩ = some (.slice A n c) ∧ w'.cell? ⟨w.heap.size + 1, 0, none⟩ = some (.bool t) ∧ w'.cell? ⟨w.heap.size + 1, 1, none⟩ = some (.slice D k d)) :=
    fun w' hb => ⟨(P0.out.below hb P0.out.lt).c0, (P0.out.below hb P0.out.lt).c1, (P1.out.below hb P1.out.lt).c0, (P1.out.below hb P1.out.lt).c1⟩
  have CG : Hid (∀ w' u v, Below W.heap.size W w' → ((w'.setCell ⟨w.heap.size + 2, 0, none⟩ u).setCell ⟨w.heap.size + 2, 1, none⟩ v).cell? ⟨w.heap.size, 0, none⟩ = some (.bool s) ∧ ((w'.setCell ⟨w.heap.size + 2, 0, none⟩ u).setCell ⟨w.heap.size + 2, 1, none⟩ v).cell? ⟨w.heap.size, 1, none⟩ = some (.slice A n c) ∧ ((w'.setCell ⟨w.heap.size + 2, 0, none⟩ u).setCell ⟨w.heap.size + 2, 1, none⟩ v).cell? ⟨w.heap.size + 1, 0, none⟩ = some (.bool t) ∧ ((w'.setCell ⟨w.heap.size + 2, 0, none⟩ u).setCell ⟨w.heap.size + 2, 1, none⟩ v).cell? ⟨w.heap.size + 1, 1, none⟩ = some (.slice D k d)) := by
    intro w' u v hb
    have h := ((P0.out.below hb P0.out.lt).far (k := w.heap.size + 2) (by omega) 0 u).far (k := w.heap.size + 2) (by omega) 1 v
    have h' := ((P1.out.below hb P1.out.lt).far (k := w.heap.size + 2) (by omega) 0 u).far (k := w.heap.size + 2) (by omega) 1 v
    exact ⟨h.c0, h.c1, h'.c0, h'.c1⟩
  have a0 := P0.out.c0
  have a1 := P0.out.c1
  have a2 := P1.out.c0
  have a3 := P1.out.c1
  clear h1 h2 hU hV b1 b2 hW P0 P1
  have CO : Hid (Calls Tryd.prog 35 #[.slice A n c, .slice D k d] W fun e w' => e = .returned (.int .i64 (cmpN U V)) ∧ W = w') := Order_any (X1.out.below B0.out) (X2.out.below B0.out)
  have hst2 : (s == t) = false := by simp [hst]
  have Hst := hid hst
  have Hle := hid hle
  obtain ⟨r, hr, hr2⟩ : ∃ r : Int, r = cmpN U V ∧ r < 0 := ⟨_, rfl, by unfold cmpN; rw [if_pos hle]; omega⟩
  rw [← hr] at CO
  clear hr hst hle
  go_enter Tryd.func20, Tryd.ntmps20
  go_upto_region 1 with fail
  rw [← HW.out]
  go_wp2_with fail
  refine CO.out.mono ?_
  rintro e w' ⟨rfl, rfl⟩
  clear CO
  go_upto_region 5 with fail
  have HBz := hid ((Below.refl W.heap.size W).drew)
  go_region_held3 (fun w' => w'.cell? ⟨w.heap.size, 0, none⟩ = some (.bool s) ∧ w'.cell? ⟨w.heap.size, 1, none⟩ = some (.slice A n c) ∧ w'.cell? ⟨w.heap.size + 1, 0, none⟩ = some (.bool t) ∧ w'.cell? ⟨w.heap.size + 1, 1, none⟩ = some (.slice D k d))
    (first | exact CF.out _ HBz.out | exact CG.out _ _ _ HBz.out)
    ((go_at_call 36
      refine (Minus_bits (X2.out.below (B0.out.trans (HBz.out.mono B0.out.size))) (X1.out.below (B0.out.trans (HBz.out.mono B0.out.size))) (B0.out.trans (HBz.out.mono B0.out.size)).size (B0.out.trans (HBz.out.mono B0.out.size)).size (by omega) (Nat.le_of_lt Hle.out)).mono ?_
      rintro e wb ⟨v, rfl, Ba, A2, n2, c2, rfl, Bv, Bl⟩
      have HBt := hid (show Bt wb wb.heap.size (V - U) (.slice A2 n2 c2) from ⟨A2, n2, c2, rfl, Bv, Bl⟩)
      have HBz := hid (HBz.out.trans (Ba.mono HBz.out.size))
      have P2 := hid (P2.out.below HBz.out L2.out)
      have g0 := P2.out.frozen 0
      have g1 := P2.out.frozen 1
      have e0 := P2.out.c0
      have e1 := P2.out.c1
      clear Ba Bv Bl))
  all_goals
    clear g0 g1 e0 e1
    go_wp2
    refine ret_sig rfl rfl rfl (P2.out.store (t := t) (u := .slice A2 n2 c2)) ?_
    refine ⟨_, rfl, ⟨t, A2, n2, c2, _, rfl, (HBt.out.stay P2.out).mono (Nat.le_of_eq (put2_size _ _ _ _).symm), ?_, ?_⟩, below_put2 (B0.out.trans (HBz.out.mono B0.out.size)) (by omega)⟩
    · have h1 := HU.out
      have h2 := HV.out
      rw [tw_succ]
      omega
    · rw [Int.add_comm]; exact num_unlike (fun h => Hst.out h.symm) (Nat.le_of_lt Hle.out)


theorem eplus_any {w : World} {L : Nat} {M N : Int} {v u : Value} (h1 : Sg w L M v) (h2 : Sg w L N u) (hL : L ≤ 3900) :
    Calls Tryd.prog 20 #[v, u] w fun e w' => ∃ r, e = .returned r ∧ Hid (Sg w' (L + 1) (M + N) r) ∧ Hid (Below w.heap.size w w') := by
  obtain ⟨s, A, n, c, U, rfl, hb, hU, rfl⟩ := h1
  obtain ⟨t, D, k, d, V, rfl, hb2, hV, rfl⟩ := h2
  by_cases hst : s = t
  · subst hst
    exact eplus_like hb hb2 hU hV hL
  · rcases Nat.lt_or_ge U V with h | h
    · exact eplus_less hb hb2 hU hV hL hst h
    · exact eplus_more hb hb2 hU hV hL hst h

end Go.Proofs.YtnhnddhigbbleaaDoor
