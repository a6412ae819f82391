/- The document's fields, taken: May, Done, Number. -/
/- The document's fields, taken: Dyad. -/
/- FieldTakes, walked. -/
import Derived.Test.YtmaggpigodkhhaaJdy
import Derived.Test.YtmaggpigodkhhaaJref
import Derived.StillTailTactics
import Derived.Test.YtmaggpigodkhhaaJtd
import Derived.Test.YtmaggpigodkhhaaFset
import Derived.Test.YtmaggpigodkhhaaEmay
import Derived.Deep.RegionHeld3
import Derived.Deep.AppendLies
import Derived.Test.YtmaggpigodkhhaaJputs

namespace Go.Proofs.Ytmaggpigodkhhaa
open Go.RowKit

set_option maxHeartbeats 1600000 in
theorem rfMay_any (A : Option Addr) (n c : Nat) (p : Int) (w : World) (_hm : n ≤ 140737488355328) :
    Calls Try.prog 33 #[.agg #[.slice A n c, .int .i64 p]] w fun e w' => e = .returned (.bool (decide (0 ≤ p ∧ p ≤ n))) ∧ Hid (Below w.heap.size w w') := by
  have B0 := hid ((Below.refl w.heap.size w).alloc (Nat.le_refl _) (.cells #[.slice A n c, .int .i64 p] 39))
  have hcase : (¬ 0 ≤ p) ∨ (0 ≤ p ∧ ¬ p ≤ (n : Int)) ∨ (0 ≤ p ∧ p ≤ (n : Int)) := by omega
  rcases hcase with h1 | ⟨h1, h2⟩ | ⟨h1, h2⟩
  all_goals
    go_enter Try.func33, Try.ntmps33
    go_wp2
    go_ret
    refine ⟨?_, B0⟩
    congr 2
    simp
    try omega

set_option maxHeartbeats 1600000 in
theorem rfDone_any (A : Option Addr) (n c : Nat) (p : Int) (w : World) (_hm : n ≤ 140737488355328) :
    Calls Try.prog 18 #[.agg #[.slice A n c, .int .i64 p]] w fun e w' => e = .returned (.bool (decide (p = n))) ∧ Hid (Below w.heap.size w w') := by
  have B0 := hid ((Below.refl w.heap.size w).alloc (Nat.le_refl _) (.cells #[.slice A n c, .int .i64 p] 39))
  by_cases h2 : p = (n : Int)
  all_goals
    first
      | (have he : (p == (n : Int)) = true := by simp [h2])
      | (have he : (p == (n : Int)) = false := by simp [h2])
    first
      | rw [bool_of_dec h2]
      | rw [bool_of_not h2]
    clear h2
    go_enter Try.func18, Try.ntmps18
    go_wp2
    go_ret
    exact ⟨rfl, B0⟩

set_option maxRecDepth 100000 in
set_option maxHeartbeats 6400000 in
theorem rfNumber_any {w : World} {n c : Nat} {A : Option Addr} {xs : List Nat} (h : By w w.heap.size A n c xs) {p : Int} (hpp : -9223372036854775808 ≤ p ∧ p ≤ 9223372036854775807) {z : Int} (hzz : -9223372036854775808 ≤ z ∧ z ≤ 9223372036854775807) :
    Calls Try.prog 13 #[.agg #[.slice A n c, .int .i64 p], .int .i64 z] w (NRes w n xs p z) := by
  obtain ⟨W, hW⟩ : ∃ W, W = (w.alloc (.cells #[.slice A n c, .int .i64 p] 39)).alloc (.cells #[.slice none 0 0, .int .i64 0] 39) := ⟨_, rfl⟩
  have B0 := hid (show Below w.heap.size w W from hW ▸ ((Below.refl w.heap.size w).alloc (Nat.le_refl _) _).alloc (by simp) _)
  have R0 : Hid (Rbox W 39 w.heap.size A n c p) := hid (hW ▸ (Below.heap_alloc _ _ _ (by simp)).trans (heap_alloc_new w _))
  have Z0 : Hid (Rbox W 39 (w.heap.size + 1) none 0 0 0) := hid (hW ▸ heap_alloc2_new w _ _)
  have HW := hid hW
  have HX := hid h
  have hmax := h.max
  have hcap := h.cap
  clear hW h
  have C := rfMay_any A n c p W hmax
  have b0 := R0.out.c0
  have b1 := R0.out.c1
  by_cases h1 : 0 ≤ p ∧ p ≤ (n : Int)
  · rw [bool_of_dec h1] at C
    have HC := hid C
    obtain ⟨q, rfl⟩ : ∃ q : Nat, p = q := ⟨p.toNat, by omega⟩
    clear C
    by_cases h2 : 1 ≤ z ∧ z ≤ 8
    · obtain ⟨k, rfl⟩ : ∃ k : Nat, z = k := ⟨z.toNat, by omega⟩
      go_enter Try.func13, Try.ntmps13
      go_upto_region 1 with fail
      rw [← HW.out]
      go_wp2_with fail
      refine HC.out.mono ?_
      rintro e w1 ⟨rfl, hb1⟩
      have R1 := hid (R0.out.below hb1.out R0.out.lt)
      have Z1 := hid (Z0.out.below hb1.out Z0.out.lt)
      have B1 := hid (B0.out.trans (hb1.out.mono B0.out.size))
      have e0 := R1.out.c0
      have e1 := R1.out.c1
      have f0 := Z1.out.frozen 0
      have f1 := Z1.out.frozen 1
      have c0 := Z1.out.c0
      have c1 := Z1.out.c1
      clear b0 b1
      by_cases hs : n < q + k
      · have hsub : IntKind.i64.wrap ((n : Int) - (q : Int)) = (n : Int) - (q : Int) := IntWalk.i64_in _ (by omega)
        have hlt : (n : Int) - (q : Int) < (k : Int) := by omega
        have HE : Hid ((40 : Int) = nE n q k) := hid (by unfold nE; rw [if_neg (by omega), if_neg (by omega), if_pos (by omega)])
        go_wp2
        refine ret_rest rfl rfl rfl rfl rfl ((Z1.out.set0 (D := none) (m := 0) (d := 0)).set1 0) ?_
        exact NRes.bad HE.out (by omega) ((B1.out.setCell (p := ⟨w.heap.size + 1, 0, none⟩) (by simp) _).setCell (p := ⟨w.heap.size + 1, 1, none⟩) (by simp) _)
      · have HE : Hid ((0 : Int) = nE n q k) := hid (by unfold nE; rw [if_neg (by omega), if_neg (by omega), if_neg (by omega)])
        obtain ⟨V, hV⟩ : ∃ V, V = bn ((xs.drop q).take k) := ⟨_, rfl⟩
        have HV := hid hV
        obtain ⟨b, off, rfl, hbB, -⟩ := HX.out.at_ (by omega)
        have hsub : IntKind.i64.wrap ((n : Int) - (q : Int)) = (n : Int) - (q : Int) := IntWalk.i64_in _ (by omega)
        have hlt : ¬ (n : Int) - (q : Int) < (k : Int) := by omega
        obtain ⟨T, hT⟩ : ∃ T : Nat, T = q + k := ⟨_, rfl⟩
        have hadd : IntKind.i64.wrap ((q : Int) + (k : Int)) = (T : Int) := by rw [IntWalk.i64_in _ (by omega)]; omega
        have hadd2 : (q : Int) + (k : Int) = (T : Int) := by omega
        have hTk : T - q = k := by omega
        have hqT : q ≤ T := by omega
        have hTc : T ≤ c := by have := HX.out.cap; omega
        have hTc2 : (T : Int) ≤ (c : Int) := by omega
        have hcq : c ≠ q := by omega
        have hT0 : (0 : Int) ≤ (T : Int) := by omega
        have HT := hid hT
        have hTw : IntKind.i64.wrap (T : Int) = (T : Int) := IntWalk.i64_in _ (by omega)
        clear hV hT
        have HS := hid ((HX.out.below B1.out.drew).part q (q + k) k rfl (by omega))
        rw [List.drop_take, show q + k - q = k by omega] at HS
        go_upto_region 7 with fail
        refine wp_region_still_tail 17 (by kernel_rfl) (by kernel_rfl) ?_
        simp only [List.take_succ_cons, List.take_zero, List.drop_succ_cons, List.drop_zero]
        repeat still_step
        still_call ((rOf_any HS.out (by omega)).mono (fun e w' h => ⟨h.1, h.2.symm⟩))
        repeat still_step
        try refine wpStill_nil ?_
        change wpList _ _ _ _ _ w1.drew
        have f0 : w1.drew.frozen? ⟨w.heap.size + 1, 0, none⟩ = false := f0
        have f1 : w1.drew.frozen? ⟨w.heap.size + 1, 1, none⟩ = false := f1
        have c0 : w1.drew.cell? ⟨w.heap.size + 1, 0, none⟩ = some (.slice none 0 0) := c0
        have c1 : w1.drew.cell? ⟨w.heap.size + 1, 1, none⟩ = some (.int .i64 0) := c1
        have Z2 := hid Z1.out.drew
        have B2 := hid B1.out.drew
        rw [← HV.out]
        generalize w1.drew = w2 at *
        go_wp2
        refine ret_rest rfl rfl rfl rfl rfl ((Z2.out.set0 (D := some ⟨b, off, none⟩) (m := n) (d := c)).set1 (T : Int)) ?_
        have B4 := (B2.out.setCell (p := ⟨w.heap.size + 1, 0, none⟩) (by simp) (.slice (some ⟨b, off, none⟩) n c)).setCell (p := ⟨w.heap.size + 1, 1, none⟩) (by simp) (.int .i64 (T : Int))
        exact ⟨_, n, c, V, 0, (T : Int), rfl, HE, by rw [if_pos rfl]; exact HX.out.below B4, by rw [if_pos rfl]; exact hid (by have := HT.out; omega), by rw [if_pos rfl, Int.toNat_natCast, Int.toNat_natCast]; exact HV, B4⟩
    · have HE : Hid ((2 : Int) = nE n q z) := hid (by unfold nE; rw [if_neg (by omega), if_pos h2])
      have hcase : z < 1 ∨ (¬ z < 1 ∧ 8 < z) := by omega
      rcases hcase with h3 | ⟨h3, h4⟩
      all_goals
        go_enter Try.func13, Try.ntmps13
        go_upto_region 1 with fail
        rw [← HW.out]
        go_wp2_with fail
        refine HC.out.mono ?_
        rintro e w1 ⟨rfl, hb1⟩
        have Z1 := hid (Z0.out.below hb1.out Z0.out.lt)
        have B1 := hid (B0.out.trans (hb1.out.mono B0.out.size))
        have f0 := Z1.out.frozen 0
        have f1 := Z1.out.frozen 1
        have c0 := Z1.out.c0
        have c1 := Z1.out.c1
        clear b0 b1
        go_wp2
        refine ret_rest rfl rfl rfl rfl rfl ((Z1.out.set0 (D := none) (m := 0) (d := 0)).set1 0) ?_
        exact NRes.bad HE.out (by omega) ((B1.out.setCell (p := ⟨w.heap.size + 1, 0, none⟩) (by simp) _).setCell (p := ⟨w.heap.size + 1, 1, none⟩) (by simp) _)
  · rw [bool_of_not h1] at C
    have HC := hid C
    have HE : Hid ((8 : Int) = nE n p z) := hid (by unfold nE; rw [if_pos h1])
    clear C
    go_enter Try.func13, Try.ntmps13
    go_upto_region 1 with fail
    rw [← HW.out]
    go_wp2_with fail
    refine HC.out.mono ?_
    rintro e w1 ⟨rfl, hb1⟩
    have Z1 := hid (Z0.out.below hb1.out Z0.out.lt)
    have B1 := hid (B0.out.trans (hb1.out.mono B0.out.size))
    have f0 := Z1.out.frozen 0
    have f1 := Z1.out.frozen 1
    have c0 := Z1.out.c0
    have c1 := Z1.out.c1
    clear b0 b1
    go_wp2
    refine ret_rest rfl rfl rfl rfl rfl ((Z1.out.set0 (D := none) (m := 0) (d := 0)).set1 0) ?_
    exact NRes.bad HE.out (by omega) ((B1.out.setCell (p := ⟨w.heap.size + 1, 0, none⟩) (by simp) _).setCell (p := ⟨w.heap.size + 1, 1, none⟩) (by simp) _)


end Go.Proofs.Ytmaggpigodkhhaa


namespace Go.Proofs.Ytmaggpigodkhhaa
open Go.RowKit

theorem By.cellAt {w : World} {B n c b off : Nat} {xs : List Nat} (h : By w B (some ⟨b, off, none⟩) n c xs) {j : Nat} (hj : j < n) : w.cell? ⟨b, off + j, none⟩ = some (.int .u8 (xs.getD j 0 : Int)) := by
  obtain ⟨b', off', e, _, hc⟩ := h.at_ (by omega)
  injection e with e
  injection e with e1 e2
  subst e1
  subst e2
  refine hc j _ ?_
  rw [List.getD_eq_getElem?_getD, List.getElem?_eq_getElem (by rw [h.len]; exact hj)]
  rfl

/-- 'append(x, u)' over limbs, x a row of the call's own, at a step of a region that draws its order. -/
theorem step_app_limb {ops : Array Oper} {o : Oper} {a : Act} {K : Act → World → Prop} {Q : Exit → Act → World → Prop} {E : Prop} (hgd : o.guard = none) (s x : Operand)
    (ho : o.op = .call { callee := .builtin .append, args := #[s, x], argTypes := #[24, 24] }) {Y : World} {B k b U : Nat} {fr : Nat × Nat} {v : Value} {f : Nat → Nat} (hs : a.eval s = v) (hx : a.eval x = .slice (some ⟨b, 0, none⟩) 1 1)
    (hown : Lgr Y B f k v) (hB : B ≤ Y.heap.size) (hblk : Y.heap[b]? = some (.cells #[.int .u32 (U : Int)] 50 fr)) (hU : U = f k) (hk : k ≤ 1000)
    (h : ∀ v' w', Hid (Lgr w' B f (k + 1) v') → Hid (Below B Y w') → K (a.put o.dst v') w') : if Region.wanted o (yielded ops a.tmps) = true then Oper.wp Try.prog o a Y K Q else E := by
  obtain ⟨i, hi, hz, hsz, hby⟩ := info_one info_u32
  refine step_append_lies Y hgd s x 24 ho B 50 i (.int .u32 0) 1 4 Try.underlying24 hi hz hsz hby rfl (by decide) v k _ hs hown ⟨b, 0, none⟩ 1 1 [.int .u32 (U : Int)] hx rfl (World.news_of_block hblk) (fun u hu => by simp at hu; subst hu; rfl) (by omega) (by unfold maxLen; omega) (by omega) hB _ rfl ?_
  intro g cap w' h1 h2 h3 h4
  refine h _ w' (hid ?_) (hid ((Below.refl _ _).grown h2 hB ?_))
  · unfold Lgr
    rw [List.range_succ, List.map_append]
    rw [hU] at h1
    exact h1
  · intro q hq
    rcases hown with ⟨_, ⟨rfl, _⟩ | ⟨g', cap', cur, rfl, hg, _⟩⟩
    · cases hq
    · injection hq with hq
      subst hq
      exact hg
theorem Lgr.drew' {w : World} {B n : Nat} {f : Nat → Nat} {v : Value} (h : Lgr w B f n v) : Lgr w.drew B f n v := h
theorem Lgr.shape' {w : World} {B n : Nat} {f : Nat → Nat} {v : Value} (h : Lgr w B f n v) : ∃ A c, v = .slice A n c := by
  obtain ⟨_, hor⟩ := h
  rcases hor with ⟨rfl, rfl⟩ | ⟨k, cap, cur, rfl, _⟩
  · exact ⟨_, _, rfl⟩
  · exact ⟨_, _, rfl⟩
theorem Lgr.alloc' {w : World} {B n : Nat} {f : Nat → Nat} {v : Value} (h : Lgr w B f n v) (o : Obj) : Lgr (w.alloc o) B f n v := by
  obtain ⟨hl, hor⟩ := h
  refine ⟨hl, ?_⟩
  rcases hor with h0 | ⟨k, cap, cur, rfl, hk, hh, hr⟩
  · exact .inl h0
  · exact .inr ⟨k, cap, cur, rfl, hk, (Below.heap_alloc _ _ k (lt_of_heap hh)).trans hh, hr⟩

theorem hb_y1 (w : World) (o : Obj) : (w.alloc o).drew.heap[w.heap.size]? = some o := heap_alloc_new w o
theorem hb_y2 (w : World) (o : Obj) : (w.drew.alloc o).heap[w.heap.size]? = some o := heap_alloc_new w o
theorem y_b1 {w1 w w' : World} {o : Obj} {B C : Nat} (hb : Below B w1 w) (hB : B ≤ w.heap.size) (h : Hid (Below C (w.alloc o).drew w')) (hC : B ≤ C) : Hid (Below B w1 w') := hid ((hb.alloc hB o).drew.trans (h.out.mono hC))
theorem y_b2 {w1 w w' : World} {o : Obj} {B C : Nat} (hb : Below B w1 w) (hB : B ≤ w.heap.size) (h : Hid (Below C (w.drew.alloc o) w')) (hC : B ≤ C) : Hid (Below B w1 w') := hid ((hb.drew.alloc hB o).trans (h.out.mono hC))
theorem y_s1 {w w' : World} {o : Obj} {C D : Nat} (hw : D ≤ w.heap.size) (h : Hid (Below C (w.alloc o).drew w')) : Hid (D ≤ w'.heap.size) := hid (Nat.le_trans hw (Nat.le_trans (by show _ ≤ (w.alloc o).heap.size; simp) h.out.size))
theorem y_s2 {w w' : World} {o : Obj} {C D : Nat} (hw : D ≤ w.heap.size) (h : Hid (Below C (w.drew.alloc o) w')) : Hid (D ≤ w'.heap.size) := hid (Nat.le_trans hw (Nat.le_trans (by show w.heap.size ≤ (w.drew.alloc o).heap.size; simp) h.out.size))
theorem y_d1 {w w' : World} {o : Obj} {C g : Nat} {s : Bool} {v : Value} {x : Int} (hd : Dbox w g s v x) (h : Hid (Below C (w.alloc o).drew w')) (hg : g < C) : Hid (Dbox w' g s v x) := hid (Dbox.below (Dbox.drew (Dbox.alloc hd o)) h.out hg)
theorem y_d2 {w w' : World} {o : Obj} {C g : Nat} {s : Bool} {v : Value} {x : Int} (hd : Dbox w g s v x) (h : Hid (Below C (w.drew.alloc o) w')) (hg : g < C) : Hid (Dbox w' g s v x) := hid (Dbox.below (Dbox.alloc (Dbox.drew hd) o) h.out hg)

set_option maxRecDepth 100000 in
set_option maxHeartbeats 12800000 in
theorem rfDyad_any {w : World} {n c : Nat} {A : Option Addr} {xs : List Nat} (h : By w w.heap.size A n c xs) {p : Int} (hpp : -9223372036854775808 ≤ p ∧ p ≤ 9223372036854775807) (hn : n ≤ 5000) :
    Calls Try.prog 15 #[.agg #[.slice A n c, .int .i64 p]] w (DTRes w n xs p) := by
  obtain ⟨W, hW⟩ : ∃ W, W = ((w.alloc (.cells #[.slice A n c, .int .i64 p] 39)).alloc (.cells #[.slice none 0 0, .int .i64 0] 39)).alloc (.cells #[.bool false, .slice none 0 0, .int .i64 0] 26) := ⟨_, rfl⟩
  have B0 := hid (show Below w.heap.size w W from hW ▸ (((Below.refl w.heap.size w).alloc (Nat.le_refl _) _).alloc (by simp) _).alloc (by simp; omega) _)
  have R0 : Hid (Rbox W 39 w.heap.size A n c p) := hid (hW ▸ heap3_0 w _ _ _)
  have Y0 : Hid (Rbox W 39 (w.heap.size + 1) none 0 0 0) := hid (hW ▸ heap3_1 w _ _ _)
  have Z0 : Hid (Dbox W (w.heap.size + 2) false (.slice none 0 0) 0) := hid (hW ▸ heap3_2 w _ _ _)
  have HW := hid hW
  have HX := hid h
  have hmax := h.max
  have hcap := h.cap
  have hlen := h.len
  have HWS := hid (show w.heap.size + 3 ≤ W.heap.size by have := Z0.out.lt; omega)
  clear hW h
  have C := rfMay_any A n c p W hmax
  have b0 := R0.out.c0
  have b1 := R0.out.c1
  by_cases h1 : 0 ≤ p ∧ p ≤ (n : Int)
  · rw [bool_of_dec h1] at C
    have HC := hid C
    obtain ⟨q, rfl⟩ : ∃ q : Nat, p = q := ⟨p.toNat, by omega⟩
    have HDE : Hid (dEr n xs (q : Int) = dE (xs.drop q)) := hid (by unfold dEr; rw [if_pos h1]; rfl)
    obtain ⟨m, hm⟩ : ∃ m, m = n - q := ⟨_, rfl⟩
    have hqn : q ≤ n := by omega
    have hqc : q ≤ c := by omega
    have hnq : n - q = m := hm.symm
    have HL : Hid ((xs.drop q).length = m) := hid (by rw [List.length_drop, hlen, hnq])
    have hmi : (n : Int) - (q : Int) = (m : Int) := by omega
    have Hm := hid hm
    clear C hm
    have hcase : n = 0 ∨ (0 < n ∧ m < 4) ∨ 4 ≤ m := by omega
    rcases hcase with h0 | ⟨h0, h4⟩ | h4
    · have hm4 : (m : Int) < 4 := by omega
      have HE : Hid ((40 : Int) = dEr n xs (q : Int)) := hid (by rw [HDE.out]; exact dE_short (.inl (by rw [HL.out]; omega)))
      clear h0
      go_enter Try.func15, Try.ntmps15
      go_upto_region 1 with fail
      rw [← HW.out]
      go_wp2_with fail
      refine HC.out.mono ?_
      rintro e w1 ⟨rfl, hb1⟩
      have R1 := hid (R0.out.below hb1.out R0.out.lt)
      have Y1 := hid (Y0.out.below hb1.out Y0.out.lt)
      have Z1 := hid (Z0.out.below hb1.out Z0.out.lt)
      have B1 := hid (B0.out.trans (hb1.out.mono B0.out.size))
      have e0 := R1.out.c0
      have e1 := R1.out.c1
      have HB1 := hid (show W.heap.size ≤ w1.heap.size from hb1.out.size)
      clear b0 b1 HC hb1
      have f0 := Y1.out.frozen 0
      have f1 := Y1.out.frozen 1
      have c0 := Y1.out.c0
      have c1 := Y1.out.c1
      have g0 := Z1.out.frozen 0
      have g1 := Z1.out.frozen 1
      have g2 := Z1.out.frozen 2
      have d0 := Z1.out.c0
      have d1 := Z1.out.c1
      have d2 := Z1.out.c2
      cases A with
      | none =>
        go_wp2
        refine ret_rest_dyad rfl rfl rfl rfl rfl (((((Y1.out.set0 (D := none) (m := 0) (d := 0)).set1 0).far (k := w.heap.size + 2) (by omega) 0 (.bool false)).far (k := w.heap.size + 2) (by omega) 1 (.slice none 0 0)).far (k := w.heap.size + 2) (by omega) 2 (.int .i64 0)) (((Z1.out.far (k := w.heap.size + 1) (by omega) 0 (.slice none 0 0)).far (k := w.heap.size + 1) (by omega) 1 (.int .i64 0)).store (t := false) (u := .slice none 0 0) (y := 0)) ?_
        exact DTRes.bad HE.out (by omega) (below_put3 (((B1.out).setCell (p := ⟨w.heap.size + 1, 0, none⟩) (by simp) _).setCell (p := ⟨w.heap.size + 1, 1, none⟩) (by simp) _) (by omega))
      | some a =>
        obtain ⟨ab, ao, ap⟩ := a
        by_cases hcq : c = q
        all_goals
          go_wp2
          refine ret_rest_dyad rfl rfl rfl rfl rfl (((((Y1.out.set0 (D := none) (m := 0) (d := 0)).set1 0).far (k := w.heap.size + 2) (by omega) 0 (.bool false)).far (k := w.heap.size + 2) (by omega) 1 (.slice none 0 0)).far (k := w.heap.size + 2) (by omega) 2 (.int .i64 0)) (((Z1.out.far (k := w.heap.size + 1) (by omega) 0 (.slice none 0 0)).far (k := w.heap.size + 1) (by omega) 1 (.int .i64 0)).store (t := false) (u := .slice none 0 0) (y := 0)) ?_
          exact DTRes.bad HE.out (by omega) (below_put3 (((B1.out).setCell (p := ⟨w.heap.size + 1, 0, none⟩) (by simp) _).setCell (p := ⟨w.heap.size + 1, 1, none⟩) (by simp) _) (by omega))
    · obtain ⟨b, off, rfl, hbB, -⟩ := HX.out.at_ h0
      have HE : Hid ((40 : Int) = dEr n xs (q : Int)) := hid (by rw [HDE.out]; exact dE_short (.inl (by rw [HL.out]; omega)))
      go_enter Try.func15, Try.ntmps15
      go_upto_region 1 with fail
      rw [← HW.out]
      go_wp2_with fail
      refine HC.out.mono ?_
      rintro e w1 ⟨rfl, hb1⟩
      have R1 := hid (R0.out.below hb1.out R0.out.lt)
      have Y1 := hid (Y0.out.below hb1.out Y0.out.lt)
      have Z1 := hid (Z0.out.below hb1.out Z0.out.lt)
      have B1 := hid (B0.out.trans (hb1.out.mono B0.out.size))
      have e0 := R1.out.c0
      have e1 := R1.out.c1
      have HB1 := hid (show W.heap.size ≤ w1.heap.size from hb1.out.size)
      clear b0 b1 HC hb1
      have f0 := Y1.out.frozen 0
      have f1 := Y1.out.frozen 1
      have c0 := Y1.out.c0
      have c1 := Y1.out.c1
      have g0 := Z1.out.frozen 0
      have g1 := Z1.out.frozen 1
      have g2 := Z1.out.frozen 2
      have d0 := Z1.out.c0
      have d1 := Z1.out.c1
      have d2 := Z1.out.c2
      have hm4 : (m : Int) < 4 := by omega
      by_cases hcq : c = q
      all_goals
        go_wp2
        refine ret_rest_dyad rfl rfl rfl rfl rfl (((((Y1.out.set0 (D := none) (m := 0) (d := 0)).set1 0).far (k := w.heap.size + 2) (by omega) 0 (.bool false)).far (k := w.heap.size + 2) (by omega) 1 (.slice none 0 0)).far (k := w.heap.size + 2) (by omega) 2 (.int .i64 0)) (((Z1.out.far (k := w.heap.size + 1) (by omega) 0 (.slice none 0 0)).far (k := w.heap.size + 1) (by omega) 1 (.int .i64 0)).store (t := false) (u := .slice none 0 0) (y := 0)) ?_
        exact DTRes.bad HE.out (by omega) (below_put3 (((B1.out).setCell (p := ⟨w.heap.size + 1, 0, none⟩) (by simp) _).setCell (p := ⟨w.heap.size + 1, 1, none⟩) (by simp) _) (by omega))
    · obtain ⟨b, off, rfl, hbB, -⟩ := HX.out.at_ (by omega)
      have hcq : c ≠ q := by omega
      go_enter Try.func15, Try.ntmps15
      go_upto_region 1 with fail
      rw [← HW.out]
      go_wp2_with fail
      refine HC.out.mono ?_
      rintro e w1 ⟨rfl, hb1⟩
      have R1 := hid (R0.out.below hb1.out R0.out.lt)
      have Y1 := hid (Y0.out.below hb1.out Y0.out.lt)
      have Z1 := hid (Z0.out.below hb1.out Z0.out.lt)
      have B1 := hid (B0.out.trans (hb1.out.mono B0.out.size))
      have e0 := R1.out.c0
      have e1 := R1.out.c1
      have HB1 := hid (show W.heap.size ≤ w1.heap.size from hb1.out.size)
      clear b0 b1 HC hb1
      have f0 := Y1.out.frozen 0
      have f1 := Y1.out.frozen 1
      have c0 := Y1.out.c0
      have c1 := Y1.out.c1
      have g0 := Z1.out.frozen 0
      have g1 := Z1.out.frozen 1
      have g2 := Z1.out.frozen 2
      have d0 := Z1.out.c0
      have d1 := Z1.out.c1
      have d2 := Z1.out.c2
      have HY := HX.out.part q n m (by omega) (Nat.le_refl _)
      rw [List.take_of_length_le (by rw [hlen]; exact Nat.le_refl _)] at HY
      replace HY := hid HY
      obtain ⟨ys, hys⟩ : ∃ ys, ys = xs.drop q := ⟨_, rfl⟩
      have HYS := hid hys
      rw [← hys] at HY HL HDE
      have HY1 := hid (HY.out.below B1.out)
      have b3 := HY1.out.cellAt (j := 3) (by omega)
      have b0 := HY1.out.cellAt (j := 0) (by omega)
      rw [Nat.add_zero] at b0
      have hcl : cntOf ys < 256 := HY.out.nth 3
      have hsl : sgOf ys < 256 := HY.out.nth 0
      rw [show ys.getD 3 0 = cntOf ys from rfl] at b3
      rw [show ys.getD 0 0 = sgOf ys from rfl] at b0
      obtain ⟨cn, hcn⟩ : ∃ cn, cn = cntOf ys := ⟨_, rfl⟩
      obtain ⟨sg, hsg⟩ : ∃ sg, sg = sgOf ys := ⟨_, rfl⟩
      rw [← hcn] at b3 hcl
      rw [← hsg] at b0 hsl
      have Hcn := hid hcn
      have Hsg := hid hsg
      have hm4 : ¬ (m : Int) < 4 := by omega
      have hw1 : IntKind.i64.wrap (4 * (cn : Int)) = 4 * (cn : Int) := IntWalk.i64_in _ (by omega)
      have hw2 : IntKind.i64.wrap (4 + 4 * (cn : Int)) = 4 + 4 * (cn : Int) := IntWalk.i64_in _ (by omega)
      have hm3 : (3 : Int) < (m : Int) := by omega
      clear hcn hsg hys
      by_cases h5 : m < 4 + 4 * cn
      · have HE : Hid ((40 : Int) = dEr n xs (q : Int)) := hid (by rw [HDE.out]; exact dE_short (.inr (by rw [HL.out, ← Hcn.out]; exact h5)))
        have h5i : (m : Int) < 4 + 4 * (cn : Int) := by omega
        go_wp2
        refine ret_rest_dyad rfl rfl rfl rfl rfl (((((Y1.out.set0 (D := none) (m := 0) (d := 0)).set1 0).far (k := w.heap.size + 2) (by omega) 0 (.bool false)).far (k := w.heap.size + 2) (by omega) 1 (.slice none 0 0)).far (k := w.heap.size + 2) (by omega) 2 (.int .i64 0)) (((Z1.out.far (k := w.heap.size + 1) (by omega) 0 (.slice none 0 0)).far (k := w.heap.size + 1) (by omega) 1 (.int .i64 0)).store (t := false) (u := .slice none 0 0) (y := 0)) ?_
        exact DTRes.bad HE.out (by omega) (below_put3 (((B1.out).setCell (p := ⟨w.heap.size + 1, 0, none⟩) (by simp) _).setCell (p := ⟨w.heap.size + 1, 1, none⟩) (by simp) _) (by omega))
      have h5i : ¬ (m : Int) < 4 + 4 * (cn : Int) := by omega
      obtain ⟨E, hE⟩ : ∃ E, E = expOf ys := ⟨_, rfl⟩
      have hEl : E < 65536 := by
        rw [hE]
        exact Nat.lt_of_lt_of_le (bn_lt (fun x hx => take_mem HY.out.lt hx)) (Nat.le_trans (Nat.pow_le_pow_right (by omega) (by rw [List.length_take]; exact Nat.min_le_left _ _)) (by decide))
      have HE2 := hid hE
      have hwE : IntKind.i64.wrap (E : Int) = (E : Int) := IntWalk.i64_in _ (by omega)
      have HS := hid (fun (w' : World) (hb : Below w1.heap.size w1 w') => ((HY1.out.mono (by have := B1.out.size; omega)).below hb).part 1 3 2 rfl (by omega))
      have hcap2 := HY1.out.cap
      have hc3 : (3 : Int) ≤ ((c - q : Nat) : Int) := by omega
      have hc1 : c - q ≠ 1 := by omega
      have hm0 : (0 : Int) < (m : Int) := by omega
      have hm00 : 0 < m := by omega
      have hm01 : m ≠ 0 := by omega
      have hsd : ((sg : Int) == 1) = decide (sg = 1) := by
        by_cases h : sg = 1
        · subst h; rfl
        · rw [decide_eq_false h]; simp; omega
      clear hE
      go_upto_region 6 with fail
      go_cut [6] (fun v6 wx => ∃ g, v6 = .pointer (some ⟨g, 0, none⟩) ∧ Hid (w1.heap.size ≤ g) ∧ Hid (Dbox wx g (decide (sg = 1)) (.slice none 0 0) (E : Int)) ∧ Hid (Below w1.heap.size w1 wx))
      case first =>
        have HB0 := hid (Below.refl w1.heap.size w1)
        have CF : Hid (∀ w', Below w1.heap.size w1 w' → w'.cell? ⟨b, off + q, none⟩ = some (.int .u8 (sg : Int))) := hid (fun w' hb => (hb.cell (p := ⟨b, off + q, none⟩) (by have := B1.out.size; show b < _; omega)).trans b0)
        go_region_held3 (fun w' => w'.cell? ⟨b, off + q, none⟩ = some (.int .u8 (sg : Int)))
          ((refine CF.out _ ?_; repeat' (first | with_reducible exact HB0.out | with_reducible refine Below.setCell ?_ ?_ _ | with_reducible refine Below.alloc ?_ ?_ _ | with_reducible refine Below.drew ?_ | with_reducible exact Nat.le_refl _ | (simp; done) | (simp; omega))))
          (first
          | (go_at_call 22
             refine (rOf_any (HS.out _ (by (repeat' (first | with_reducible exact HB0.out | with_reducible refine Below.alloc ?_ ?_ _ | with_reducible refine Below.drew ?_ | with_reducible exact Nat.le_refl _)))) (by omega)).mono ?_
             rintro e wx ⟨rfl, rfl⟩
             rw [List.drop_take, show 3 - 1 = 2 from rfl, show bn ((ys.drop 1).take 2) = expOf ys from rfl, ← HE2.out]))
        all_goals
          clear CF HS
          go_wp2_with fail
          go_meet
          exact ⟨_, rfl, hid (Nat.le_refl _), hid (heap_alloc_new w1 _), hid (((Below.refl w1.heap.size w1).alloc (Nat.le_refl _) _).drew)⟩
      obtain ⟨g, rfl, hg, hP, hb2⟩ := hcut
      have hlf : ∀ j, limOf ys j < 4294967296 := fun j => by rw [HYS.out]; exact lim_lt HX.out.lt j
      have HN := hid (fun k (h : k < cntOf ys) => (show bn ((xs.drop (q + 4 + 4 * k)).take 4) = limOf ys k by rw [HYS.out] at h ⊢; exact limOf_succ h))
      have Hout : Hid (∀ j, cn ≤ j → limOf ys j = 0) := hid (fun j hj => by unfold limOf; exact lof_out (by rw [← Hcn.out]; exact hj))
      obtain ⟨lf, hlfe⟩ : ∃ lf, lf = limOf ys := ⟨_, rfl⟩
      rw [← hlfe] at hlf HN Hout
      have Hlf := hid hlfe
      have HF := hid hlf
      obtain ⟨sb, hsb⟩ : ∃ sb, sb = decide (sg = 1) := ⟨_, rfl⟩
      rw [← hsb] at hP
      have Hsb := hid hsb
      have hgl := hP.out.lt
      have HB12 := hid (show w.heap.size + 3 ≤ w1.heap.size by have := HWS.out; have := HB1.out; omega)
      have hg1 := hg.out
      have HbB := hid (show b < w1.heap.size by have := HB12.out; omega)
      have HPL := hid (fun (w' : World) (hb : Below w1.heap.size w1 w') => (hb.cell (p := ⟨b, off + q + 3, none⟩) HbB.out).trans b3)
      have HPL0 := hid (fun (w' : World) (hb : Below w1.heap.size w1 w') => (hb.cell (p := ⟨b, off + q, none⟩) HbB.out).trans b0)
      have Hce := hid (show IntKind.i64.wrap (E : Int) = (E : Int) from hwE)
      clear hlf hlfe hsb hsd e0 e1 f0 f1 c0 c1 g0 g1 g2 d0 d1 d2 b3 b0 hc3 hc1 hm0 hm00 hm01 hwE
      go_wp2_with fail
      go_loopw [7] (fun i wr => ∃ (k : Nat) (v : Value), k ≤ cn ∧ i = .int .i64 (k : Int) ∧ Hid (Dbox wr g sb v (E : Int)) ∧ Hid (Lgr wr wc.heap.size lf k v) ∧ Hid (Below w1.heap.size w1 wr) ∧ Hid (wc.heap.size ≤ wr.heap.size)) (fun i _ => cn - (intOf i).toNat)
      case atStart => exact ⟨0, _, Nat.zero_le _, rfl, hP, Lgr.nil _ _ _, hb2, hid (Nat.le_refl _)⟩
      case round =>
        obtain ⟨k, v, hk, rfl, hD, hL, hb, hsz⟩ := hrel
        have r3 := HPL.out _ hb.out
        by_cases hcon : k < cn
        · have hki : (k : Int) < (cn : Int) := by omega
          obtain ⟨U, hU⟩ : ∃ U, U = lf k := ⟨_, rfl⟩
          have hUl : U < 4294967296 := by rw [hU]; exact HF.out k
          have hwU : IntKind.u32.wrap (U : Int) = (U : Int) := by rw [IntKind.wrap_u32]; omega
          obtain ⟨Lo, hLo⟩ : ∃ Lo : Nat, Lo = 4 + 4 * k := ⟨_, rfl⟩
          obtain ⟨Hi, hHi⟩ : ∃ Hi : Nat, Hi = 8 + 4 * k := ⟨_, rfl⟩
          have hwk : IntKind.i64.wrap (4 * (k : Int)) = 4 * (k : Int) := IntWalk.i64_in _ (by omega)
          have hwLo : IntKind.i64.wrap (4 + 4 * (k : Int)) = (Lo : Int) := by rw [IntWalk.i64_in _ (by omega)]; omega
          have hwHi : IntKind.i64.wrap (8 + 4 * (k : Int)) = (Hi : Int) := by rw [IntWalk.i64_in _ (by omega)]; omega
          have hLH : Hi - Lo = 4 := by omega
          have hLH2 : Lo ≤ Hi := by omega
          have hHc : (Hi : Int) ≤ ((c - q : Nat) : Int) := by omega
          have hcLo : c - q ≠ Lo := by omega
          have hLo0 : (0 : Int) ≤ (Lo : Int) := by omega
          have CO : Hid (Calls Try.prog 22 #[.slice (some ⟨b, off + q + Lo, none⟩) 4 (c - q - Lo)] wr.drew fun e w' => e = .returned (.int .u64 (U : Int)) ∧ w' = wr.drew) := hid (by
            have hY := (((HY1.out.mono (by have := B1.out.size; omega)).below (hb.out.drew)).part Lo Hi 4 (by omega) (by omega))
            refine (rOf_any hY (by omega)).mono (fun e w' h => ⟨h.1.trans ?_, h.2.symm⟩)
            rw [List.drop_take, show Hi - Lo = 4 by omega, hLo, HYS.out, List.drop_drop, ← Nat.add_assoc, HN.out k (by rw [← Hcn.out]; exact hcon), ← hU])
          have D2 := hid hD.out.drew
          have L2 : Hid (Lgr wr.drew wc.heap.size lf k v) := hid hL.out
          have hb3 := hid hb.out.drew
          have hc1 := D2.out.c1
          have hf1 := D2.out.frozen 1
          have hc0 := D2.out.c0
          have hc2 := D2.out.c2
          have HU := hid hU
          have hk1 : IntKind.i64.wrap ((k : Int) + 1) = (k : Int) + 1 := IntWalk.i64_in _ (by omega)
          have Hsz2 : Hid (wc.heap.size ≤ wr.drew.heap.size) := hsz
          clear hU hLo hHi
          have HD0 := hid hD.out
          have HLT := hid (hP.out.lt)
          have hgr := Nat.lt_of_lt_of_le hP.out.lt hsz.out
          have bw : ∀ o : Obj, (wr.alloc o).cell? ⟨g, 1, none⟩ = some v := fun o => (hD.out.alloc o).c1
          have HB2s := hid (show w1.heap.size ≤ wc.heap.size from hb2.out.size)
          have HK := hid (show k ≤ 1000 by omega)
          have HKs := hid (show k < cn from hcon)
          have HKn := hid (show IntKind.i64.wrap ((k : Int) + 1) = (k : Int) + 1 from hk1)
          go_upto_region 10 with fail
          have hc1q : wr.cell? ⟨g, 1, none⟩ = some v := hD.out.c1
          clear hpp h1 hmax hcap hlen hqn hqc hnq hmi h4 h5 h5i hm4 hw1 hw2 hm3 hcl hsl hEl r3 hc0 hc2 hc1 hf1 hgl hgr hk hcap2 hbB hcq
          go_region_law (first
            | (refine step_app_limb (B := wc.heap.size) (v := v) rfl (.tmp 52) (.tmp 63) (by with_reducible rfl) (by rfl) (by rfl) (by first | with_reducible exact (Lgr.alloc' hL.out _).drew' | with_reducible exact Lgr.alloc' hL.out _ | with_reducible exact Lgr.alloc' hL.out.drew' _) (by have := hsz.out; simp; omega) (by first | with_reducible exact hb_y1 wr _ | with_reducible exact hb_y2 wr _) HU.out HK.out ?_
               intro v5 w5 hL5 hb5
               obtain ⟨A5, c5, rfl⟩ := hL5.out.shape'
               have HB5 := (by first | with_reducible exact y_b1 hb.out hb.out.size hb5 HB2s.out | with_reducible exact y_b2 hb.out hb.out.size hb5 HB2s.out)
               have HS5 := (by first | with_reducible exact y_s1 hsz.out hb5 | with_reducible exact y_s2 hsz.out hb5)
               have D5 := (by first | with_reducible exact y_d1 hD.out hb5 HLT.out | with_reducible exact y_d2 hD.out hb5 HLT.out)
               have q0 := D5.out.frozen 0
               have q1 := D5.out.frozen 1
               have q2 := D5.out.frozen 2
               have q3 := D5.out.c1)
            | (go_simp
               go_at_call 22
               refine CO.out.mono ?_
               rintro e wx ⟨rfl, rfl⟩))
          all_goals
            go_wp2
            go_roundw
            case rel =>
              refine ⟨k + 1, .slice A5 (k + 1) c5, HKs.out, by go_num, hid ?_, hid ?_, hid ?_, hid ?_⟩
              · exact D5.out.set1 _
              · exact hL5.out.grown (gset0 (grefl w5 g) 1 _) HLT.out
              · exact HB5.out.setCell (p := ⟨g, 1, none⟩) hg1 _
              · simpa [World.setCell] using HS5.out
            case measure => have := HKs.out; simp [intOf]; omega
        · obtain rfl : k = cn := by omega
          obtain ⟨A5, c5, rfl, M5⟩ := mk_of_row hL.out (by omega) HF.out Hout.out
          have HM5 := hid M5
          have r0 := HPL0.out _ hb.out
          have hki : ¬ (k : Int) < (k : Int) := by omega
          have hm3' := hm3
          have hm0 : (0 : Int) < (m : Int) := by omega
          have hm00 : 0 < m := by omega
          have Yr := hid (Y1.out.below hb.out (by have := HB12.out; omega))
          have Zr := hid (Z1.out.below hb.out (by have := HB12.out; omega))
          have Rr := hid (R1.out.below hb.out (by have := HB12.out; omega))
          have Br := hid (B1.out.trans (hb.out.mono (by have := HB12.out; omega)))
          have HLen : Hid (¬ (ys.length < 4 ∨ ys.length < 4 + 4 * cntOf ys)) := hid (by rw [HL.out, ← Hcn.out]; omega)
          have Hszg := hid (show g < wr.heap.size from hD.out.lt)
          clear M5 hL
          by_cases hsg1 : 1 < sg
          · have HE : Hid ((41 : Int) = dEr n xs (q : Int)) := hid (by rw [HDE.out]; unfold dE; rw [if_neg HLen.out, if_neg (by rw [← Hsg.out]; omega)])
            have hsgi : (1 : Int) < (sg : Int) := by omega
            have f0 := Yr.out.frozen 0
            have f1 := Yr.out.frozen 1
            have c0 := Yr.out.c0
            have c1 := Yr.out.c1
            have g0 := Zr.out.frozen 0
            have g1 := Zr.out.frozen 1
            have g2 := Zr.out.frozen 2
            have d0 := Zr.out.c0
            have d1 := Zr.out.c1
            have d2 := Zr.out.c2
            go_wp2
            refine ret_rest_dyad rfl rfl rfl rfl rfl (((((Yr.out.set0 (D := none) (m := 0) (d := 0)).set1 0).far (k := w.heap.size + 2) (by omega) 0 (.bool false)).far (k := w.heap.size + 2) (by omega) 1 (.slice none 0 0)).far (k := w.heap.size + 2) (by omega) 2 (.int .i64 0)) (((Zr.out.far (k := w.heap.size + 1) (by omega) 0 (.slice none 0 0)).far (k := w.heap.size + 1) (by omega) 1 (.int .i64 0)).store (t := false) (u := .slice none 0 0) (y := 0)) ?_
            exact DTRes.bad HE.out (by omega) (below_put3 (((Br.out).setCell (p := ⟨w.heap.size + 1, 0, none⟩) (by simp) _).setCell (p := ⟨w.heap.size + 1, 1, none⟩) (by simp) _) (by omega))
          · have hsgi : ¬ (1 : Int) < (sg : Int) := by omega
            have CM := hid (emay_any HM5.out.rd sb (E : Int))
            have dc0 := hD.out.c0
            have dc1 := hD.out.c1
            have dc2 := hD.out.c2
            go_wp2_with fail
            refine CM.out.mono ?_
            rintro e w6 ⟨rfl, hb6⟩
            have Y6 := hid (Yr.out.below hb6.out Yr.out.lt)
            have Z6 := hid (Zr.out.below hb6.out Zr.out.lt)
            have R6 := hid (Rr.out.below hb6.out Rr.out.lt)
            have D6 := hid (hD.out.below hb6.out hD.out.lt)
            have B6 := hid (Br.out.trans (hb6.out.mono Br.out.size))
            have b6 := hid (hb.out.trans (hb6.out.mono hb.out.size))
            have M6 := hid (HM5.out.below hb6.out (Nat.le_refl _))
            clear dc0 dc1 dc2 r0 r3
            by_cases hmay : DMay sb k lf (E : Int)
            · rw [bool_of_dec hmay]
              have HE : Hid ((0 : Int) = dEr n xs (q : Int)) := hid (by rw [HDE.out]; unfold dE; rw [if_neg HLen.out, if_pos (by rw [← Hsg.out, ← Hcn.out, ← Hlf.out, ← HE2.out, ← Hsb.out]; exact ⟨by omega, hmay⟩)])
              obtain ⟨P, hP0⟩ : ∃ P : Nat, P = q + (4 + 4 * k) := ⟨_, rfl⟩
              have HP := hid hP0
              have hwq : IntKind.i64.wrap ((q : Int) + 4) = (q : Int) + 4 := IntWalk.i64_in _ (by omega)
              have hwP : IntKind.i64.wrap ((q : Int) + 4 + 4 * (k : Int)) = (P : Int) := by rw [IntWalk.i64_in _ (by omega)]; omega
              have r3 : w6.cell? ⟨b, off + q + 3, none⟩ = some (.int .u8 (k : Int)) := HPL.out _ b6.out
              have e0 := R6.out.c0
              have e1 := R6.out.c1
              have x0 := D6.out.c0
              have x1 := D6.out.c1
              have x2 := D6.out.c2
              clear hmay hP0
              go_wp2_with fail
              go_upto_region 13 with fail
              have Y7 := hid Y6.out.drew
              have Z7 := hid Z6.out.drew
              have B7 := hid B6.out.drew
              have M7 : Hid (Mk w6.drew 50 wc.heap.size A5 k c5 lf) := hid (M6.out.below (Below.refl _ _).drew (Nat.le_refl _))
              have f0 := Y6.out.frozen 0
              have f1 := Y6.out.frozen 1
              have c0 := Y6.out.c0
              have c1 := Y6.out.c1
              have g0 := Z6.out.frozen 0
              have g1 := Z6.out.frozen 1
              have g2 := Z6.out.frozen 2
              have d0 := Z6.out.c0
              have d1 := Z6.out.c1
              have d2 := Z6.out.c2
              have gn1 : g ≠ w.heap.size + 1 := by have := HB12.out; have := hg.out; omega
              have gn2 : g ≠ w.heap.size + 2 := by have := HB12.out; have := hg.out; omega
              have gn3 : g ≠ w.heap.size + 1 + 1 := by have := HB12.out; have := hg.out; omega
              have bn1 : b ≠ w.heap.size + 1 := by omega
              have bn2 : b ≠ w.heap.size + 2 := by omega
              have bn3 : b ≠ w.heap.size + 1 + 1 := by omega
              go_region
              all_goals trace "ONE"
              all_goals clear e0 e1 x0 x1 x2 r3
              all_goals clear f0 f1 c0 c1 g0 g1 g2 d0 d1 d2 gn1 gn2 gn3 bn1 bn2 bn3
              all_goals
                go_wp2
                have Hwc := hid (show w.heap.size + 3 ≤ wc.heap.size by have := HB12.out; have := hb2.out.size; omega)
                have HT : Hid (((q : Nat) : Int).toNat = q) := hid (by omega)
                have Y4 := (((((Y6.out.set0 (D := some ⟨b, off, none⟩) (m := n) (d := c)).set1 (P : Int)).far (k := w.heap.size + 1 + 1) (by omega) 0 (.bool sb)).far (k := w.heap.size + 1 + 1) (by omega) 1 (.slice A5 k c5)).far (k := w.heap.size + 1 + 1) (by omega) 2 (.int .i64 (E : Int))).drew
                have Z4 := (((Z6.out.far (k := w.heap.size + 1) (by omega) 0 (.slice (some ⟨b, off, none⟩) n c)).far (k := w.heap.size + 1) (by omega) 1 (.int .i64 (P : Int))).store (t := sb) (u := .slice A5 k c5) (y := (E : Int))).drew
                have B4 := (below_put3 (s := sb) (v := .slice A5 k c5) (x := (E : Int)) (((B6.out.setCell (p := ⟨w.heap.size + 1, 0, none⟩) (by simp) (.slice (some ⟨b, off, none⟩) n c)).setCell (p := ⟨w.heap.size + 1, 1, none⟩) (by simp) (.int .i64 (P : Int)))) (show w.heap.size ≤ w.heap.size + 1 + 1 by omega)).drew
                have M4 := ((((M6.out.far (g := w.heap.size + 1) (by have := Hwc.out; omega) 0 (.slice (some ⟨b, off, none⟩) n c)).far (g := w.heap.size + 1) (by have := Hwc.out; omega) 1 (.int .i64 (P : Int))).put3 (g := w.heap.size + 1 + 1) (s := sb) (u := .slice A5 k c5) (x := (E : Int)) (by have := Hwc.out; omega)).below ((Below.refl _ _).drew) (Nat.le_refl _)).mono (B' := w.heap.size) (by have := Hwc.out; omega)
                obtain ⟨V, hV⟩ : ∃ V, V = (put3 ((w6.setCell ⟨w.heap.size + 1, 0, none⟩ (.slice (some ⟨b, off, none⟩) n c)).setCell ⟨w.heap.size + 1, 1, none⟩ (.int .i64 (P : Int))) (w.heap.size + 1 + 1) sb (.slice A5 k c5) (E : Int)).drew := ⟨_, rfl⟩
                have Y5 : Rbox V 39 (w.heap.size + 1) (some ⟨b, off, none⟩) n c (P : Int) := hV ▸ Y4
                have Z5 : Dbox V (w.heap.size + 1 + 1) sb (.slice A5 k c5) (E : Int) := hV ▸ Z4
                have B5 : Below w.heap.size w V := hV ▸ B4
                have M5 : Mk V 50 w.heap.size A5 k c5 lf := hV ▸ M4
                clear Y4 Z4 B4 M4
                unfold put3 at hV
                rw [← hV]
                refine ret_rest_dyad rfl rfl rfl rfl rfl Y5 Z5 ?_
                refine ⟨some ⟨b, off, none⟩, n, c, (P : Int), sb, A5, k, c5, (E : Int), 0, lf, rfl, HE, by rw [if_pos rfl]; exact HX.out.below B5, ?_, M5, ?_, fun h => absurd rfl h, B5⟩
                · rw [if_pos rfl, HT.out, ← HYS.out, ← Hcn.out]
                  exact hid (by have := HP.out; omega)
                · rw [HT.out, ← HYS.out]
                  exact hid (fun _ => ⟨by rw [Hsb.out, Hsg.out], Hcn.out, Hlf.out, by rw [HE2.out]⟩)
            · rw [bool_of_not hmay]
              have HE : Hid ((41 : Int) = dEr n xs (q : Int)) := hid (by rw [HDE.out]; unfold dE; rw [if_neg HLen.out, if_neg (by rw [← Hsg.out, ← Hcn.out, ← Hlf.out, ← HE2.out, ← Hsb.out]; exact fun h => hmay h.2)])
              clear hmay
              have f0 := Y6.out.frozen 0
              have f1 := Y6.out.frozen 1
              have c0 := Y6.out.c0
              have c1 := Y6.out.c1
              have g0 := Z6.out.frozen 0
              have g1 := Z6.out.frozen 1
              have g2 := Z6.out.frozen 2
              have d0 := Z6.out.c0
              have d1 := Z6.out.c1
              have d2 := Z6.out.c2
              go_wp2
              refine ret_rest_dyad rfl rfl rfl rfl rfl (((((Y6.out.set0 (D := none) (m := 0) (d := 0)).set1 0).far (k := w.heap.size + 2) (by omega) 0 (.bool false)).far (k := w.heap.size + 2) (by omega) 1 (.slice none 0 0)).far (k := w.heap.size + 2) (by omega) 2 (.int .i64 0)) (((Z6.out.far (k := w.heap.size + 1) (by omega) 0 (.slice none 0 0)).far (k := w.heap.size + 1) (by omega) 1 (.int .i64 0)).store (t := false) (u := .slice none 0 0) (y := 0)) ?_
              exact DTRes.bad HE.out (by omega) (below_put3 (((B6.out).setCell (p := ⟨w.heap.size + 1, 0, none⟩) (by simp) _).setCell (p := ⟨w.heap.size + 1, 1, none⟩) (by simp) _) (by omega))
  · rw [bool_of_not h1] at C
    have HC := hid C
    have HE : Hid ((8 : Int) = dEr n xs p) := hid (by unfold dEr; rw [if_neg h1])
    clear C
    go_enter Try.func15, Try.ntmps15
    go_upto_region 1 with fail
    rw [← HW.out]
    go_wp2_with fail
    refine HC.out.mono ?_
    rintro e w1 ⟨rfl, hb1⟩
    have R1 := hid (R0.out.below hb1.out R0.out.lt)
    have Y1 := hid (Y0.out.below hb1.out Y0.out.lt)
    have Z1 := hid (Z0.out.below hb1.out Z0.out.lt)
    have B1 := hid (B0.out.trans (hb1.out.mono B0.out.size))
    have e0 := R1.out.c0
    have e1 := R1.out.c1
    have HB1 := hid (show W.heap.size ≤ w1.heap.size from hb1.out.size)
    clear b0 b1 HC hb1
    have f0 := Y1.out.frozen 0
    have f1 := Y1.out.frozen 1
    have c0 := Y1.out.c0
    have c1 := Y1.out.c1
    have g0 := Z1.out.frozen 0
    have g1 := Z1.out.frozen 1
    have g2 := Z1.out.frozen 2
    have d0 := Z1.out.c0
    have d1 := Z1.out.c1
    have d2 := Z1.out.c2
    go_wp2
    refine ret_rest_dyad rfl rfl rfl rfl rfl (((((Y1.out.set0 (D := none) (m := 0) (d := 0)).set1 0).far (k := w.heap.size + 2) (by omega) 0 (.bool false)).far (k := w.heap.size + 2) (by omega) 1 (.slice none 0 0)).far (k := w.heap.size + 2) (by omega) 2 (.int .i64 0)) (((Z1.out.far (k := w.heap.size + 1) (by omega) 0 (.slice none 0 0)).far (k := w.heap.size + 1) (by omega) 1 (.int .i64 0)).store (t := false) (u := .slice none 0 0) (y := 0)) ?_
    exact DTRes.bad HE.out (by omega) (below_put3 (((B1.out).setCell (p := ⟨w.heap.size + 1, 0, none⟩) (by simp) _).setCell (p := ⟨w.heap.size + 1, 1, none⟩) (by simp) _) (by omega))

end Go.Proofs.Ytmaggpigodkhhaa


namespace Go.Proofs.Ytmaggpigodkhhaa
open Go.RowKit

section
variable {N w' : World} {o : Obj} {g : Nat}
abbrev RbZ (w : World) (g : Nat) : Prop := Rbox w 39 g none 0 0 0
theorem rb_z (hg : g = N.heap.size) : RbZ (N.alloc (.cells #[.slice none 0 0, .int .i64 0] 39)) g := by
  subst hg
  exact heap_alloc_new N _
theorem Rbox.grown' {n c k : Nat} {A : Option Addr} {p : Int} (h : Rbox N 39 g A n c p) (hb : N.grownBy w' (some k)) (hg : g ≠ k) : Rbox w' 39 g A n c p := (hb.block g h.lt (by intro e; injection e with e; exact hg e)).trans h
theorem q_ez (h : Hid (((N.alloc (.cells #[] 5)).alloc (.cells #[.slice none 0 0, .int .i64 0] 39)).grownBy w' (some g))) (hg : g = N.heap.size) : Hid (RbZ w' (N.heap.size + 1)) :=
  hid (Rbox.grown' (rb_z (by simp)) h.out (by omega))
theorem q_ze (h : Hid (((N.alloc (.cells #[.slice none 0 0, .int .i64 0] 39)).alloc (.cells #[] 5)).grownBy w' (some g))) (hg : g = N.heap.size + 1) : Hid (RbZ w' N.heap.size) :=
  hid (Rbox.grown' (Rbox.alloc (rb_z rfl) _) h.out (by omega))
end
theorem Ow.stayR {N : World} {g B n c : Nat} {A : Option Addr} {p : Int} {v u u' : Value} {xs : List Nat} (h : Ow N B v xs) (hg : Rbox N 39 g A n c p) : Ow ((N.setCell ⟨g, 0, none⟩ u).setCell ⟨g, 1, none⟩ u') B v xs := by
  refine ⟨?_, h.2⟩
  obtain ⟨⟨hl, hor⟩, -⟩ := h
  refine ⟨hl, ?_⟩
  rcases hor with h0 | ⟨b, cap, cur, e1, hb, hh, hr⟩
  · exact .inl h0
  · have hne : b ≠ g := by
      rintro rfl
      have e := hh.symm.trans hg
      injection e with e
      injection e with _ e
      exact absurd e (by decide)
    exact .inr ⟨b, cap, cur, e1, hb, (Below.heap_setCell _ _ _ b (by exact hne)).trans ((Below.heap_setCell _ _ _ b (by exact hne)).trans hh), hr⟩
/-- What the cut wants. -/
def CutR (w1 wx : World) (A1 : Option Addr) (n c1 g : Nat) (xs : List Nat) (p : Int) : Prop :=
  Ow wx w1.heap.size (.slice A1 n c1) xs ∧ Rbox wx 39 g A1 n c1 p ∧ Below w1.heap.size w1 wx
section
variable {w1 N : World} {A1 : Option Addr} {n c1 g b : Nat} {xs : List Nat} {p : Int}
theorem cutr_new (ho : Ow N b (.slice A1 n c1) xs) (hb : w1.heap.size ≤ b) (hB : Below w1.heap.size w1 N) (hg : g = N.heap.size) :
    CutR w1 (N.alloc (.cells #[.slice A1 n c1, .int .i64 p] 39)) A1 n c1 g xs p := by
  subst hg
  have bb : Below N.heap.size N (N.alloc (.cells #[.slice A1 n c1, .int .i64 p] 39)) := (Below.refl _ _).alloc (Nat.le_refl _) _
  exact ⟨(ho.mono hb).below bb (Nat.le_refl _), heap_alloc_new N _, hB.trans (bb.mono hB.size)⟩
theorem cutr_old (ho : Ow N b (.slice A1 n c1) xs) (hb : w1.heap.size ≤ b) (hB : Below w1.heap.size w1 N) (hg : RbZ N g) (hl : w1.heap.size ≤ g) :
    CutR w1 ((N.setCell ⟨g, 0, none⟩ (.slice A1 n c1)).setCell ⟨g, 1, none⟩ (.int .i64 p)) A1 n c1 g xs p :=
  ⟨(ho.mono hb).stayR hg, (hg.set0 (D := A1) (m := n) (d := c1)).set1 p, (hB.setCell (p := ⟨g, 0, none⟩) hl _).setCell (p := ⟨g, 1, none⟩) hl _⟩
end

theorem Mk.from' {w : World} {e : TypeId} {B n c : Nat} {A : Option Addr} {f : Nat → Nat} (h : Mk w e B A n c f) : ∀ b, A = some ⟨b, 0, none⟩ → B ≤ b ∧ b < w.heap.size := by
  rintro b rfl
  rcases h.own with ⟨e, _⟩ | ⟨g, cs, e, hg, hh, _⟩
  · cases e
  · injection e with e
    injection e with e
    subst e
    exact ⟨hg, lt_of_heap hh⟩
/-- Of a slice of the call's own, of limbs, cells may have been written; nothing else. -/
def Wl (A : Option Addr) (n : Nat) (w w' : World) : Prop := (n = 0 ∧ w' = w) ∨ ∃ g cs, A = some ⟨g, 0, none⟩ ∧ w.grownBy w' (some g) ∧ w'.heap[g]? = some (.cells cs 50 (0, 0)) ∧ n ≤ cs.size
theorem Wl.start {w : World} {B n c : Nat} {A : Option Addr} {f : Nat → Nat} (h : Mk w 50 B A n c f) : Wl A n w w := by
  rcases h.own with ⟨_, h0, _⟩ | ⟨g, cs, e, _, hh, hs, _⟩
  · exact .inl ⟨h0, rfl⟩
  · exact .inr ⟨g, cs, e, grefl w g, hh, Nat.le_trans h.cap hs⟩
theorem Wl.set {w w' : World} {g n : Nat} (h : Wl (some ⟨g, 0, none⟩) n w w') (hn : 0 < n) (j : Nat) (u : Value) : Wl (some ⟨g, 0, none⟩) n w (w'.setCell ⟨g, j, none⟩ u) := by
  rcases h with ⟨h0, _⟩ | ⟨g', cs, e, hg, hh, hs⟩
  · omega
  · injection e with e
    injection e with e
    subst e
    exact .inr ⟨g, _, rfl, gset0 hg j u, heap_setCell_same w' g j _ _ u hh, by simpa using hs⟩
theorem Wl.cell {w w' : World} {A : Option Addr} {n j : Nat} (h : Wl A n w w') (hj : j < n) : ∃ g u, A = some ⟨g, 0, none⟩ ∧ w'.cell? ⟨g, j, none⟩ = some u ∧ w'.frozen? ⟨g, j, none⟩ = false := by
  rcases h with ⟨h0, _⟩ | ⟨g, cs, e, hg, hh, hs⟩
  · omega
  · refine ⟨g, cs[j]'(by omega), e, ?_, frozen_of_row w' g j _ _ hh⟩
    rw [cell_of_row w' g j _ _ (0, 0) hh]
    simp
theorem Wl.below {w w' w0 : World} {A : Option Addr} {n B : Nat} (h : Wl A n w w') (hb : Below B w0 w) (hs : B ≤ w.heap.size) (hA : ∀ g, A = some ⟨g, 0, none⟩ → B ≤ g) : Below B w0 w' := by
  rcases h with ⟨_, rfl⟩ | ⟨g, cs, e, hg, _⟩
  · exact hb
  · exact hb.grown hg hs (fun k hk => by injection hk with hk; subst hk; exact hA _ e)
theorem Wl.dbox {w w' : World} {A : Option Addr} {n k : Nat} {s : Bool} {v : Value} {x : Int} (h : Wl A n w w') (hd : Dbox w k s v x) (hA : ∀ g, A = some ⟨g, 0, none⟩ → g ≠ k) : Dbox w' k s v x := by
  rcases h with ⟨_, rfl⟩ | ⟨g, cs, e, hg, _⟩
  · exact hd
  · exact hd.grown hg (fun h => hA g e h.symm)

set_option maxRecDepth 100000 in
set_option maxHeartbeats 12800000 in
theorem ftakes_walk {w : World} {A : Option Addr} {n c : Nat} {xs : List Nat} {p z : Int} (h : By w w.heap.size A n c xs) (hp : -9223372036854775808 ≤ p ∧ p ≤ 9223372036854775807) (hz : -9223372036854775808 ≤ z ∧ z ≤ 9223372036854775807) :
    Calls Try.prog 4 #[.agg #[.slice A n c, .int .i64 p], .int .i64 z] w fun e w' => e = .returned (.bool true) ∧ Below w.heap.size w w' := by
  have hn := h.max
  have hcap := h.cap
  obtain ⟨W, hW⟩ : ∃ W, W = w.alloc (.cells #[.slice A n c, .int .i64 p] 39) := ⟨_, rfl⟩
  have K := hid (show Below w.heap.size w W from hW ▸ (Below.refl w.heap.size w).alloc (Nat.le_refl _) _)
  have PR : Hid (Rbox W 39 w.heap.size A n c p) := hid (hW ▸ heap_alloc_new w _)
  have HX := hid ((h.below K.out).mono K.out.size)
  have HW := hid hW
  have r0 := PR.out.c0
  have r1 := PR.out.c1
  clear hW h
  by_cases hg : 5000 < (n : Int)
  · go_enter Try.func4, Try.ntmps4
    go_upto_region 1 with fail
    rw [← HW.out]
    clear HW
    go_wp2
    go_ret
    exact ⟨rfl, K.out⟩
  have hn5 : n ≤ 5000 := by omega
  go_enter Try.func4, Try.ntmps4
  go_upto_region 1 with fail
  rw [← HW.out]
  clear HW
  go_upto_region 3 with fail
  go_cut [5] (fun s5 wx => ∃ (A1 : Option Addr) (c1 g : Nat), s5 = .pointer (some ⟨g, 0, none⟩) ∧ Hid (CutR W wx A1 n c1 g xs p))
  case first =>
    have HB0 := hid (Below.refl W.heap.size W)
    have HBz := hid ((Below.refl W.heap.size W).drew)
    have CF : Hid (∀ w', Below W.heap.size W w' → w'.cell? ⟨w.heap.size, 0, none⟩ = some (.slice A n c) ∧ w'.cell? ⟨w.heap.size, 1, none⟩ = some (.int .i64 p)) :=
      fun w' hb => ⟨(PR.out.below hb PR.out.lt).c0, (PR.out.below hb PR.out.lt).c1⟩
    have CX := hid (fun (w' : World) (hb : Below W.heap.size W w') => HX.out.below hb)
    have HXL := hid HX.out.len
    clear PR HX
    go_region_held3 (fun w' => w'.cell? ⟨w.heap.size, 0, none⟩ = some (.slice A n c) ∧ w'.cell? ⟨w.heap.size, 1, none⟩ = some (.int .i64 p))
      ((refine CF.out _ ?_; repeat' (first | with_reducible exact HBz.out | with_reducible exact HB0.out | with_reducible refine Below.setCell ?_ ?_ _ | with_reducible refine Below.alloc ?_ ?_ _ | with_reducible refine Below.drew ?_ | with_reducible exact Nat.le_refl _ | with_reducible exact HBz.out.size | (simp; done) | (simp; first | (have := HBz.out.size; omega) | (have := HPl.out; omega)))))
      (first
      | (refine step_copy_any rfl (.tmp 24) (.tmp 26) (by with_reducible rfl) (by rfl) (by rfl) (by repeat' (first | with_reducible refine ow_e ?_ | with_reducible refine OwE.drew ?_ | with_reducible refine OwE.alloc ?_ _ | rfl | (simp; done))) (CX.out _ (by (repeat' (first | with_reducible exact HBz.out | with_reducible exact HB0.out | with_reducible refine Below.alloc ?_ ?_ _ | with_reducible refine Below.drew ?_ | with_reducible exact Nat.le_refl _ | with_reducible exact HBz.out.size | (simp; done) | (simp; first | (have := HBz.out.size; omega) | (have := HPl.out; omega)))))) (by omega) ?_
         intro vo wo hOo hgo
         obtain ⟨A1, c1, hvo, -⟩ := hOo.out.shape
         rw [HXL.out] at hvo
         subst hvo
         try (replace hgo := (by with_reducible exact undrew_g hgo))
         have Hgl := hid (glow (b := W.heap.size) hgo (by have := HBz.out.size; omega))
         first
           | (have PB := (by with_reducible exact q_ez hgo rfl))
           | (have PB := (by with_reducible exact q_ze hgo rfl))
           | skip
         have HBz := bel_grown (w1 := W) (by (repeat' (first | with_reducible exact HBz.out | with_reducible exact HB0.out | with_reducible refine Below.alloc ?_ ?_ _ | with_reducible refine Below.drew ?_ | with_reducible exact Nat.le_refl _ | with_reducible exact HBz.out.size | (simp; done) | (simp; first | (have := HBz.out.size; omega) | (have := HPl.out; omega))))) hgo Hgl.out
         have HPl := hid HBz.out.size
         try
           (have q0 := PB.out.frozen 0
            have q1 := PB.out.frozen 1
            have s0 := PB.out.c0
            have s1 := PB.out.c1)
         have QZ : RbZ (wo.alloc (.cells #[.slice none 0 0, .int .i64 0] 39)) wo.heap.size := rb_z rfl
         have k0 := QZ.frozen 0
         have k1 := QZ.frozen 1
         have l0 := QZ.c0
         have l1 := QZ.c1
         have QZ := hid QZ))
    all_goals
      clear CF CX
      go_wp2_with fail
      go_meet
      first
        | with_reducible exact ⟨_, _, _, rfl, hid (cutr_new hOo.out Hgl.out HBz.out rfl)⟩
        | with_reducible exact ⟨_, _, _, rfl, hid (cutr_old hOo.out Hgl.out HBz.out PB.out (by first | omega | (have := HPl.out; omega)))⟩
        | trace_state

  obtain ⟨A1, c1, g, rfl, HC⟩ := hcut
  have P5 := hid HC.out.2.1
  have HY := hid HC.out.1.by_.2
  have hbc := hid HC.out.2.2
  clear HC r0 r1
  replace K := hid (K.out.trans (hbc.out.mono K.out.size))
  replace PR := hid (PR.out.below hbc.out PR.out.lt)
  replace HX := hid ((HX.out.below hbc.out).mono hbc.out.size)
  have PRc0 := PR.out.c0
  have PRc1 := PR.out.c1
  clear PRc0 PRc1
  clear hbc
  have P5c0 := P5.out.c0
  have P5c1 := P5.out.c1
  go_wp2_with fail
  refine (Number_any HY.out p z).mono ?_
  rintro e w6 ⟨A6, n6, c6, V6, e6, p6, rfl, he6, hX6, hp6, hV6, hb6⟩
  clear P5c0 P5c1
  replace K := hid (K.out.trans (hb6.out.mono K.out.size))
  replace PR := hid (PR.out.below hb6.out PR.out.lt)
  replace HX := hid ((HX.out.below hb6.out).mono hb6.out.size)
  replace P5 := hid (P5.out.below hb6.out P5.out.lt)
  replace HY := hid ((HY.out.below hb6.out).mono hb6.out.size)
  replace hX6 := hid (hX6.out.mono hb6.out.size)
  clear hb6
  go_upto_region 5 with fail
  obtain ⟨u6, hu⟩ : ∃ u, u = w6.alloc (.cells #[.slice A6 n6 c6, .int .i64 p6] 39) := ⟨_, rfl⟩
  rw [← hu]
  have X6 : Hid (Rbox u6 39 w6.heap.size A6 n6 c6 p6) := hid (hu ▸ heap_alloc_new w6 _)
  have ha : Hid (Below w6.heap.size w6 u6) := hid (hu ▸ (Below.refl w6.heap.size w6).alloc (Nat.le_refl _) _)
  clear hu
  replace K := hid (K.out.trans (ha.out.mono K.out.size))
  replace PR := hid (PR.out.below ha.out PR.out.lt)
  replace HX := hid ((HX.out.below ha.out).mono ha.out.size)
  replace P5 := hid (P5.out.below ha.out P5.out.lt)
  replace HY := hid ((HY.out.below ha.out).mono ha.out.size)
  replace hX6 := hid ((hX6.out.below ha.out).mono ha.out.size)
  clear ha
  have PRc0 := PR.out.c0
  have PRc1 := PR.out.c1
  go_wp2_with fail
  refine (rfNumber_any HX.out hp hz).mono ?_
  rintro e w9 ⟨A9, n9, c9, V9, e9, p9, rfl, he9, hX9, hp9, hV9, hb9⟩
  clear PRc0 PRc1
  replace K := hid (K.out.trans (hb9.out.mono K.out.size))
  replace PR := hid (PR.out.below hb9.out PR.out.lt)
  replace HX := hid ((HX.out.below hb9.out).mono hb9.out.size)
  replace P5 := hid (P5.out.below hb9.out P5.out.lt)
  replace HY := hid ((HY.out.below hb9.out).mono hb9.out.size)
  replace hX6 := hid ((hX6.out.below hb9.out).mono hb9.out.size)
  replace X6 := hid (X6.out.below hb9.out X6.out.lt)
  replace hX9 := hid (hX9.out.mono hb9.out.size)
  clear hb9
  go_upto_region 6 with fail
  obtain ⟨u9, hu⟩ : ∃ u, u = w9.alloc (.cells #[.slice A9 n9 c9, .int .i64 p9] 39) := ⟨_, rfl⟩
  rw [← hu]
  have X9 : Hid (Rbox u9 39 w9.heap.size A9 n9 c9 p9) := hid (hu ▸ heap_alloc_new w9 _)
  have ha : Hid (Below w9.heap.size w9 u9) := hid (hu ▸ (Below.refl w9.heap.size w9).alloc (Nat.le_refl _) _)
  clear hu
  replace K := hid (K.out.trans (ha.out.mono K.out.size))
  replace PR := hid (PR.out.below ha.out PR.out.lt)
  replace HX := hid ((HX.out.below ha.out).mono ha.out.size)
  replace P5 := hid (P5.out.below ha.out P5.out.lt)
  replace HY := hid ((HY.out.below ha.out).mono ha.out.size)
  replace hX6 := hid ((hX6.out.below ha.out).mono ha.out.size)
  replace X6 := hid (X6.out.below ha.out X6.out.lt)
  replace hX9 := hid ((hX9.out.below ha.out).mono ha.out.size)
  clear ha
  obtain rfl : e9 = e6 := he9.out.trans he6.out.symm
  obtain rfl : V9 = V6 := hV9.out.trans hV6.out.symm
  obtain rfl : p9 = p6 := hp9.out.trans hp6.out.symm
  generalize (if e9 = 0 then xs else []) = L9 at hX6 hX9
  clear he9 he6 hV9 hV6 hp9 hp6
  have SK := K
  have SR := PR
  have S5 := P5
  have SX := HX
  have SY := HY
  have KU := hid (Below.refl u9.heap.size u9)
  have P5c0 := P5.out.c0
  have P5c1 := P5.out.c1
  go_wp2_with fail
  refine (Dyad_any HY.out p).mono ?_
  rintro e w2 ⟨A2, n2, c2, p2, s2, D2, k2, d2, x2, e2, f2, rfl, he2, hX2, hp2, hM2, hV2, hz2, hb2⟩
  clear P5c0 P5c1
  have gM2 := hid hM2.out.from'
  replace K := hid (K.out.trans (hb2.out.mono K.out.size))
  replace PR := hid (PR.out.below hb2.out PR.out.lt)
  replace HX := hid ((HX.out.below hb2.out).mono hb2.out.size)
  replace P5 := hid (P5.out.below hb2.out P5.out.lt)
  replace HY := hid ((HY.out.below hb2.out).mono hb2.out.size)
  replace hX6 := hid ((hX6.out.below hb2.out).mono hb2.out.size)
  replace X6 := hid (X6.out.below hb2.out X6.out.lt)
  replace hX9 := hid ((hX9.out.below hb2.out).mono hb2.out.size)
  replace X9 := hid (X9.out.below hb2.out X9.out.lt)
  replace KU := hid (KU.out.trans (hb2.out.mono KU.out.size))
  replace hX2 := hid (hX2.out.mono hb2.out.size)
  clear hb2
  go_upto_region 7 with fail
  obtain ⟨u2, hu⟩ : ∃ u, u = (w2.alloc (.cells #[.slice A2 n2 c2, .int .i64 p2] 39)).alloc (.cells #[.bool s2, .slice D2 k2 d2, .int .i64 x2] 26) := ⟨_, rfl⟩
  rw [← hu]
  have Y2 : Hid (Dbox u2 (w2.heap.size + 1) s2 (.slice D2 k2 d2) x2) := hid (hu ▸ heap_alloc2_new w2 _ _)
  have X2 : Hid (Rbox u2 39 w2.heap.size A2 n2 c2 p2) := hid (hu ▸ (Below.heap_alloc _ _ _ (by simp)).trans (heap_alloc_new w2 _))
  have ha : Hid (Below w2.heap.size w2 u2) := hid (hu ▸ ((Below.refl w2.heap.size w2).alloc (Nat.le_refl _) _).alloc (by simp) _)
  clear hu
  replace K := hid (K.out.trans (ha.out.mono K.out.size))
  replace PR := hid (PR.out.below ha.out PR.out.lt)
  replace HX := hid ((HX.out.below ha.out).mono ha.out.size)
  replace P5 := hid (P5.out.below ha.out P5.out.lt)
  replace HY := hid ((HY.out.below ha.out).mono ha.out.size)
  replace hX6 := hid ((hX6.out.below ha.out).mono ha.out.size)
  replace X6 := hid (X6.out.below ha.out X6.out.lt)
  replace hX9 := hid ((hX9.out.below ha.out).mono ha.out.size)
  replace X9 := hid (X9.out.below ha.out X9.out.lt)
  replace KU := hid (KU.out.trans (ha.out.mono KU.out.size))
  replace hX2 := hid ((hX2.out.below ha.out).mono ha.out.size)
  replace hM2 := hid (hM2.out.below ha.out (Nat.le_refl _))
  clear ha
  have PRc0 := PR.out.c0
  have PRc1 := PR.out.c1
  go_wp2_with fail
  refine (rfDyad_any HX.out hp hn5).mono ?_
  rintro e w3 ⟨A3, n3, c3, p3, s3, D3, k3, d3, x3, e3, f3, rfl, he3, hX3, hp3, hM3, hV3, hz3, hb3⟩
  clear PRc0 PRc1
  have gM3 := hid hM3.out.from'
  replace K := hid (K.out.trans (hb3.out.mono K.out.size))
  replace PR := hid (PR.out.below hb3.out PR.out.lt)
  replace HX := hid ((HX.out.below hb3.out).mono hb3.out.size)
  replace P5 := hid (P5.out.below hb3.out P5.out.lt)
  replace HY := hid ((HY.out.below hb3.out).mono hb3.out.size)
  replace hX6 := hid ((hX6.out.below hb3.out).mono hb3.out.size)
  replace X6 := hid (X6.out.below hb3.out X6.out.lt)
  replace hX9 := hid ((hX9.out.below hb3.out).mono hb3.out.size)
  replace X9 := hid (X9.out.below hb3.out X9.out.lt)
  replace KU := hid (KU.out.trans (hb3.out.mono KU.out.size))
  replace hX2 := hid ((hX2.out.below hb3.out).mono hb3.out.size)
  replace hM2 := hid (hM2.out.below hb3.out (Nat.le_refl _))
  replace X2 := hid (X2.out.below hb3.out X2.out.lt)
  replace Y2 := hid (Y2.out.below hb3.out Y2.out.lt)
  replace hX3 := hid (hX3.out.mono hb3.out.size)
  clear hb3
  go_upto_region 8 with fail
  obtain ⟨u3, hu⟩ : ∃ u, u = (w3.alloc (.cells #[.slice A3 n3 c3, .int .i64 p3] 39)).alloc (.cells #[.bool s3, .slice D3 k3 d3, .int .i64 x3] 26) := ⟨_, rfl⟩
  rw [← hu]
  have Y3 : Hid (Dbox u3 (w3.heap.size + 1) s3 (.slice D3 k3 d3) x3) := hid (hu ▸ heap_alloc2_new w3 _ _)
  have X3 : Hid (Rbox u3 39 w3.heap.size A3 n3 c3 p3) := hid (hu ▸ (Below.heap_alloc _ _ _ (by simp)).trans (heap_alloc_new w3 _))
  have ha : Hid (Below w3.heap.size w3 u3) := hid (hu ▸ ((Below.refl w3.heap.size w3).alloc (Nat.le_refl _) _).alloc (by simp) _)
  clear hu
  replace K := hid (K.out.trans (ha.out.mono K.out.size))
  replace PR := hid (PR.out.below ha.out PR.out.lt)
  replace HX := hid ((HX.out.below ha.out).mono ha.out.size)
  replace P5 := hid (P5.out.below ha.out P5.out.lt)
  replace HY := hid ((HY.out.below ha.out).mono ha.out.size)
  replace hX6 := hid ((hX6.out.below ha.out).mono ha.out.size)
  replace X6 := hid (X6.out.below ha.out X6.out.lt)
  replace hX9 := hid ((hX9.out.below ha.out).mono ha.out.size)
  replace X9 := hid (X9.out.below ha.out X9.out.lt)
  replace KU := hid (KU.out.trans (ha.out.mono KU.out.size))
  replace hX2 := hid ((hX2.out.below ha.out).mono ha.out.size)
  replace hM2 := hid (hM2.out.below ha.out (Nat.le_refl _))
  replace X2 := hid (X2.out.below ha.out X2.out.lt)
  replace Y2 := hid (Y2.out.below ha.out Y2.out.lt)
  replace hX3 := hid ((hX3.out.below ha.out).mono ha.out.size)
  replace hM3 := hid (hM3.out.below ha.out (Nat.le_refl _))
  clear ha
  obtain rfl : e3 = e2 := he3.out.trans he2.out.symm
  obtain rfl : p3 = p2 := hp3.out.trans hp2.out.symm
  have HQ : s3 = s2 ∧ k3 = k2 ∧ f3 = f2 ∧ x3 = x2 := by
    by_cases h0 : e3 = 0
    · obtain ⟨a1, a2, a3, a4⟩ := hV2.out h0
      obtain ⟨b1, b2, b3, b4⟩ := hV3.out h0
      exact ⟨b1.trans a1.symm, b2.trans a2.symm, b3.trans a3.symm, b4.trans a4.symm⟩
    · obtain ⟨a1, -, a2, -, a3, a4⟩ := hz2.out h0
      obtain ⟨b1, -, b2, -, b3, b4⟩ := hz3.out h0
      exact ⟨b1.trans a1.symm, b2.trans a2.symm, b3.trans a3.symm, b4.trans a4.symm⟩
  obtain ⟨rfl, rfl, rfl, rfl⟩ := HQ
  generalize (if e3 = 0 then xs else []) = L3 at hX2 hX3
  clear he3 he2 hp3 hp2 hV2 hV3 hz2 hz3
  have hM2' := hid hM2.out.rd
  have hM3' := hid hM3.out.rd
  go_cut [18] (fun v wx => v = .bool true ∧ Hid (Below u3.heap.size u3 wx))
  case first =>
    have HB0 := hid (Below.refl u3.heap.size u3)
    have HBz := hid ((Below.refl u3.heap.size u3).drew)
    have CF : Hid (∀ w', Below u3.heap.size u3 w' → w'.cell? ⟨w.heap.size, 0, none⟩ = some (.slice A n c) ∧ w'.cell? ⟨w.heap.size, 1, none⟩ = some (.int .i64 p) ∧ w'.cell? ⟨g, 0, none⟩ = some (.slice A1 n c1) ∧ w'.cell? ⟨g, 1, none⟩ = some (.int .i64 p) ∧ w'.cell? ⟨w6.heap.size, 0, none⟩ = some (.slice A6 n6 c6) ∧ w'.cell? ⟨w6.heap.size, 1, none⟩ = some (.int .i64 p9) ∧ w'.cell? ⟨w9.heap.size, 0, none⟩ = some (.slice A9 n9 c9) ∧ w'.cell? ⟨w9.heap.size, 1, none⟩ = some (.int .i64 p9) ∧ w'.cell? ⟨w2.heap.size, 0, none⟩ = some (.slice A2 n2 c2) ∧ w'.cell? ⟨w2.heap.size, 1, none⟩ = some (.int .i64 p3) ∧ w'.cell? ⟨w2.heap.size + 1, 0, none⟩ = some (.bool s3) ∧ w'.cell? ⟨w2.heap.size + 1, 1, none⟩ = some (.slice D2 k3 d2) ∧ w'.cell? ⟨w2.heap.size + 1, 2, none⟩ = some (.int .i64 x3) ∧ w'.cell? ⟨w3.heap.size, 0, none⟩ = some (.slice A3 n3 c3) ∧ w'.cell? ⟨w3.heap.size, 1, none⟩ = some (.int .i64 p3) ∧ w'.cell? ⟨w3.heap.size + 1, 0, none⟩ = some (.bool s3) ∧ w'.cell? ⟨w3.heap.size + 1, 1, none⟩ = some (.slice D3 k3 d3) ∧ w'.cell? ⟨w3.heap.size + 1, 2, none⟩ = some (.int .i64 x3)) :=
      hid (fun w' hb => ⟨(PR.out.below hb PR.out.lt).c0, (PR.out.below hb PR.out.lt).c1, (P5.out.below hb P5.out.lt).c0, (P5.out.below hb P5.out.lt).c1, (X6.out.below hb X6.out.lt).c0, (X6.out.below hb X6.out.lt).c1, (X9.out.below hb X9.out.lt).c0, (X9.out.below hb X9.out.lt).c1, (X2.out.below hb X2.out.lt).c0, (X2.out.below hb X2.out.lt).c1, (Y2.out.below hb Y2.out.lt).c0, (Y2.out.below hb Y2.out.lt).c1, (Y2.out.below hb Y2.out.lt).c2, (X3.out.below hb X3.out.lt).c0, (X3.out.below hb X3.out.lt).c1, (Y3.out.below hb Y3.out.lt).c0, (Y3.out.below hb Y3.out.lt).c1, (Y3.out.below hb Y3.out.lt).c2⟩)
    have C1 : Hid (∀ w', Below u3.heap.size u3 w' → Calls Try.prog 16 #[.agg #[.slice A6 n6 c6, .int .i64 p9], .agg #[.slice A9 n9 c9, .int .i64 p9]] w' fun e w'' => e = .returned (.bool true) ∧ Hid (Below w'.heap.size w' w'')) :=
      hid (fun w' hb => (frsame_any ((hX6.out.below hb).mono hb.size) ((hX9.out.below hb).mono hb.size)).mono fun e w'' h => ⟨h.1.trans (by rw [bool_of_dec ⟨rfl, rfl⟩]), h.2⟩)
    have C2 : Hid (∀ w', Below u3.heap.size u3 w' → Calls Try.prog 16 #[.agg #[.slice A2 n2 c2, .int .i64 p3], .agg #[.slice A3 n3 c3, .int .i64 p3]] w' fun e w'' => e = .returned (.bool true) ∧ Hid (Below w'.heap.size w' w'')) :=
      hid (fun w' hb => (frsame_any ((hX2.out.below hb).mono hb.size) ((hX3.out.below hb).mono hb.size)).mono fun e w'' h => ⟨h.1.trans (by rw [bool_of_dec ⟨rfl, rfl⟩]), h.2⟩)
    have C3 : Hid (∀ w', Below u3.heap.size u3 w' → Calls Try.prog 11 #[.agg #[.bool s3, .slice D2 k3 d2, .int .i64 x3], .agg #[.bool s3, .slice D3 k3 d3, .int .i64 x3]] w' fun e w'' => e = .returned (.bool true) ∧ Hid (Below w'.heap.size w' w'')) :=
      hid (fun w' hb => (esame_raw (P := True) ((hM2'.out.below hb).mono hb.size) ((hM3'.out.below hb).mono hb.size) (hid ⟨fun _ => ⟨rfl, rfl, rfl, fun _ => rfl⟩, fun _ => trivial⟩)).mono fun e w'' h => by
        obtain ⟨r, rfl, Hr, J⟩ := h
        obtain rfl : r = true := Hr.out.2 trivial
        exact ⟨rfl, J⟩)
    obtain ⟨dn, hdn⟩ : ∃ dn, dn = decide (p = (n : Int)) := ⟨_, rfl⟩
    have C4 : Hid (∀ w', Below u3.heap.size u3 w' → Calls Try.prog 17 #[.agg #[.slice A1 n c1, .int .i64 p]] w' fun e w'' => e = .returned (.bool dn) ∧ Hid (Below w'.heap.size w' w'')) :=
      hid (fun w' _ => by rw [hdn]; exact Done_any A1 n c1 p w' hn)
    have C5 : Hid (∀ w', Below u3.heap.size u3 w' → Calls Try.prog 18 #[.agg #[.slice A n c, .int .i64 p]] w' fun e w'' => e = .returned (.bool dn) ∧ Hid (Below w'.heap.size w' w'')) :=
      hid (fun w' _ => by rw [hdn]; exact rfDone_any A n c p w' hn)
    have hdd : (dn == dn) = true := beq_self_eq_true dn
    have hVV : ((V9 : Int) == (V9 : Int)) = true := beq_self_eq_true _
    clear hdn PR P5 X6 X9 X2 X3 Y2 Y3 HX HY hX6 hX9 hX2 hX3 hM2 hM3 hM2' hM3'
    go_region_held3 (fun w' => w'.cell? ⟨w.heap.size, 0, none⟩ = some (.slice A n c) ∧ w'.cell? ⟨w.heap.size, 1, none⟩ = some (.int .i64 p) ∧ w'.cell? ⟨g, 0, none⟩ = some (.slice A1 n c1) ∧ w'.cell? ⟨g, 1, none⟩ = some (.int .i64 p) ∧ w'.cell? ⟨w6.heap.size, 0, none⟩ = some (.slice A6 n6 c6) ∧ w'.cell? ⟨w6.heap.size, 1, none⟩ = some (.int .i64 p9) ∧ w'.cell? ⟨w9.heap.size, 0, none⟩ = some (.slice A9 n9 c9) ∧ w'.cell? ⟨w9.heap.size, 1, none⟩ = some (.int .i64 p9) ∧ w'.cell? ⟨w2.heap.size, 0, none⟩ = some (.slice A2 n2 c2) ∧ w'.cell? ⟨w2.heap.size, 1, none⟩ = some (.int .i64 p3) ∧ w'.cell? ⟨w2.heap.size + 1, 0, none⟩ = some (.bool s3) ∧ w'.cell? ⟨w2.heap.size + 1, 1, none⟩ = some (.slice D2 k3 d2) ∧ w'.cell? ⟨w2.heap.size + 1, 2, none⟩ = some (.int .i64 x3) ∧ w'.cell? ⟨w3.heap.size, 0, none⟩ = some (.slice A3 n3 c3) ∧ w'.cell? ⟨w3.heap.size, 1, none⟩ = some (.int .i64 p3) ∧ w'.cell? ⟨w3.heap.size + 1, 0, none⟩ = some (.bool s3) ∧ w'.cell? ⟨w3.heap.size + 1, 1, none⟩ = some (.slice D3 k3 d3) ∧ w'.cell? ⟨w3.heap.size + 1, 2, none⟩ = some (.int .i64 x3))
      (first | exact CF.out _ HBz.out | exact CF.out _ HB0.out)
      (first
      | (go_at_call_of 16 (Value.agg #[Value.slice A6 n6 c6, Value.int IntKind.i64 p9])
         refine (C1.out _ HBz.out).mono ?_
         rintro e wy ⟨rfl, Ba⟩
         have HBz := bel_then (w1 := u3) HBz.out Ba)
      | (go_at_call_of 16 (Value.agg #[Value.slice A2 n2 c2, Value.int IntKind.i64 p3])
         refine (C2.out _ HBz.out).mono ?_
         rintro e wy ⟨rfl, Ba⟩
         have HBz := bel_then (w1 := u3) HBz.out Ba)
      | (go_at_call_of 11 (Value.agg #[Value.bool s3, Value.slice D2 k3 d2, Value.int IntKind.i64 x3])
         refine (C3.out _ HBz.out).mono ?_
         rintro e wy ⟨rfl, Ba⟩
         have HBz := bel_then (w1 := u3) HBz.out Ba)
      | (go_at_call_of 17 (Value.agg #[Value.slice A1 n c1, Value.int IntKind.i64 p])
         refine (C4.out _ HBz.out).mono ?_
         rintro e wy ⟨rfl, Ba⟩
         have HBz := bel_then (w1 := u3) HBz.out Ba)
      | (go_at_call_of 18 (Value.agg #[Value.slice A n c, Value.int IntKind.i64 p])
         refine (C5.out _ HBz.out).mono ?_
         rintro e wy ⟨rfl, Ba⟩
         have HBz := bel_then (w1 := u3) HBz.out Ba))
    all_goals
      go_wp2_with fail
      go_meet
      exact ⟨rfl, HBz⟩
  obtain ⟨rfl, hb8⟩ := hcut
  have KW := hid (KU.out.trans (hb8.out.mono KU.out.size))
  have Y8 := hid (Y2.out.below hb8.out Y2.out.lt)
  have M8 := hid (hM2.out.below hb8.out (Nat.le_refl _))
  have hk42 := hM2.out.max
  clear PR P5 X6 X9 X2 X3 Y2 Y3 HX HY hX6 hX9 hX2 hX3 hM2 hM3 hM2' hM3' K KU gM3 hb8
  go_wp2_with fail
  go_loopw [19] (fun i wr => ∃ j : Nat, j ≤ k3 ∧ i = .int .i64 (j : Int) ∧ Hid (Wl D2 k3 wc wr)) (fun i _ => k3 - (intOf i).toNat)
  case atStart => exact ⟨0, Nat.zero_le _, rfl, hid (Wl.start M8.out)⟩
  case round =>
    obtain ⟨j, hj, rfl, hWl⟩ := hrel
    have YL := hid (hWl.out.dbox Y8.out (fun b e => by have := (gM2.out b e).2; omega))
    have y1 := YL.out.c1
    by_cases hcon : j < k3
    · obtain ⟨b, uo, rfl, hcj, hfj⟩ := hWl.out.cell hcon
      have hji : (j : Int) < (k3 : Int) := by omega
      have hW2 := hid (hWl.out.set (Nat.lt_of_le_of_lt (Nat.zero_le _) hcon) j (.int .u32 7))
      go_wp2
      go_roundw
      case rel => exact ⟨j + 1, by omega, by go_num, hW2⟩
      case measure => simp [intOf]; omega
    · obtain rfl : j = k3 := by omega
      have bq := hid (hWl.out.below KW.out KW.out.size (fun b e => (gM2.out b e).1))
      have Q5 := hid (S5.out.below bq.out S5.out.lt)
      have QR := hid (SR.out.below bq.out SR.out.lt)
      have m0 := Q5.out.c0
      have m1 := Q5.out.c1
      have n0 := QR.out.c0
      have n1 := QR.out.c1
      go_wp2_with fail
      refine (frsame_any ((SY.out.below bq.out).mono bq.out.size) ((SX.out.below bq.out).mono bq.out.size)).mono ?_
      rw [bool_of_dec ⟨rfl, rfl⟩]
      rintro e w7 ⟨rfl, hb7⟩
      have K7 := hid (SK.out.trans (bq.out.mono SK.out.size))
      clear m0 m1 n0 n1 y1
      go_wp2
      go_ret
      exact ⟨rfl, K7.out.trans (hb7.out.mono K7.out.size)⟩

end Go.Proofs.Ytmaggpigodkhhaa

