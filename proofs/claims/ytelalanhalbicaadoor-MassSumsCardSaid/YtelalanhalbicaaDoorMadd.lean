/- Package mass: Add, Sub. -/
import Derived.Test.YtelalanhalbicaaDoorMsame
namespace Go.Proofs.YtelalanhalbicaaDoor
open Go.RowKit Go.Shelf

theorem manybad_any {w : World} {g : Nat} {D E : Nat → Dy} (hD : Mrd w w.heap.size D) (hE : Mrd w w.heap.size E) (hh : w.heap[g]? = some (.cells #[.bool (D 0).s, .slice (D 0).A (D 0).n (D 0).c, .int .i64 (D 0).x, .bool (D 1).s, .slice (D 1).A (D 1).n (D 1).c, .int .i64 (D 1).x, .bool (D 2).s, .slice (D 2).A (D 2).n (D 2).c, .int .i64 (D 2).x, .bool (D 3).s, .slice (D 3).A (D 3).n (D 3).c, .int .i64 (D 3).x, .bool (E 0).s, .slice (E 0).A (E 0).n (E 0).c, .int .i64 (E 0).x, .bool (E 1).s, .slice (E 1).A (E 1).n (E 1).c, .int .i64 (E 1).x, .bool (E 2).s, .slice (E 2).A (E 2).n (E 2).c, .int .i64 (E 2).x, .bool (E 3).s, .slice (E 3).A (E 3).n (E 3).c, .int .i64 (E 3).x] 26 (0, 0))) :
    Calls Tryd.prog 25 #[.slice (some ⟨g, 0, none⟩) 2 2] w fun e w' => e = .returned (.bool (decide (¬ MMay D) || decide (¬ MMay E))) ∧ Below w.heap.size w w' := by
  have hc : ∀ (j : Nat) (v : Value), (#[.bool (D 0).s, .slice (D 0).A (D 0).n (D 0).c, .int .i64 (D 0).x, .bool (D 1).s, .slice (D 1).A (D 1).n (D 1).c, .int .i64 (D 1).x, .bool (D 2).s, .slice (D 2).A (D 2).n (D 2).c, .int .i64 (D 2).x, .bool (D 3).s, .slice (D 3).A (D 3).n (D 3).c, .int .i64 (D 3).x, .bool (E 0).s, .slice (E 0).A (E 0).n (E 0).c, .int .i64 (E 0).x, .bool (E 1).s, .slice (E 1).A (E 1).n (E 1).c, .int .i64 (E 1).x, .bool (E 2).s, .slice (E 2).A (E 2).n (E 2).c, .int .i64 (E 2).x, .bool (E 3).s, .slice (E 3).A (E 3).n (E 3).c, .int .i64 (E 3).x] : Array Value)[j]? = some v → w.cell? ⟨g, j, none⟩ = some v := fun j v hv => by
    rw [cell_of_row w g j _ _ (0, 0) hh]
    exact hv
  exact manybad_two g (.bool (D 0).s) (.slice (D 0).A (D 0).n (D 0).c) (.int .i64 (D 0).x) (.bool (D 1).s) (.slice (D 1).A (D 1).n (D 1).c) (.int .i64 (D 1).x) (.bool (D 2).s) (.slice (D 2).A (D 2).n (D 2).c) (.int .i64 (D 2).x) (.bool (D 3).s) (.slice (D 3).A (D 3).n (D 3).c) (.int .i64 (D 3).x) (.bool (E 0).s) (.slice (E 0).A (E 0).n (E 0).c) (.int .i64 (E 0).x) (.bool (E 1).s) (.slice (E 1).A (E 1).n (E 1).c) (.int .i64 (E 1).x) (.bool (E 2).s) (.slice (E 2).A (E 2).n (E 2).c) (.int .i64 (E 2).x) (.bool (E 3).s) (.slice (E 3).A (E 3).n (E 3).c) (.int .i64 (E 3).x) (decide (¬ MMay D)) (decide (¬ MMay E)) w (hc 0 _ rfl) (hc 1 _ rfl) (hc 2 _ rfl) (hc 3 _ rfl) (hc 4 _ rfl) (hc 5 _ rfl) (hc 6 _ rfl) (hc 7 _ rfl) (hc 8 _ rfl) (hc 9 _ rfl) (hc 10 _ rfl) (hc 11 _ rfl) (hc 12 _ rfl) (hc 13 _ rfl) (hc 14 _ rfl) (hc 15 _ rfl) (hc 16 _ rfl) (hc 17 _ rfl) (hc 18 _ rfl) (hc 19 _ rfl) (hc 20 _ rfl) (hc 21 _ rfl) (hc 22 _ rfl) (hc 23 _ rfl) hD.asks hE.asks
theorem ret_mass {fn : Func} {R : Ending → World → Prop} {a : Act} {w : World} {p u : Tmp} {g : Nat} {D : Nat → Dy} {er : Value} (h : fn.results = #[.cell p 26, .tmp u]) (hp : a.tmps.getD p undef = .pointer (some ⟨g, 0, none⟩)) (hu : a.tmps.getD u undef = er)
    (hd : a.defers = []) (hg : Mbox w g D) (hR : R (.returned (.tuple #[.agg (mcells D), er])) w) : bodyPost Tryd.prog fn R .ret a w := by
  refine bodyPost_ret ?_ hd hR
  rw [← hu]
  exact cells_agg_tmp h a.tmps w g _ _ _ _ hp hg Tryd.underlying26 rfl (mass_size_ D)

set_option maxHeartbeats 3200000 in
theorem madd_any {w : World} {q p : Nat → Prop} {M N : Nat → Int} {D E : Nat → Dy} (h : Mar w q M D) (h2 : Mar w p N E) (hT : Tab w) :
    Calls Tryd.prog 7 #[.agg (mcells D), .agg (mcells E)] w (MRes w (Merrs (All4 q ∧ All4 p) (fun k => M k + N k)) (fun k => M k + N k)) := by
  obtain ⟨H, hH⟩ : ∃ H : Nat → Int, H = fun k => M k + N k := ⟨_, rfl⟩
  rw [← hH]
  have HH : Hid (∀ k, k < 4 → M k + N k = H k) := hid (fun k _ => by rw [hH])
  clear hH
  obtain ⟨W, hW⟩ : ∃ W, W = ((w.alloc (.cells (mcells D) 26)).alloc (.cells (mcells E) 26)).alloc (.cells #[.bool false, .slice none 0 0, .int .i64 0, .bool false, .slice none 0 0, .int .i64 0, .bool false, .slice none 0 0, .int .i64 0, .bool false, .slice none 0 0, .int .i64 0] 26) := ⟨_, rfl⟩
  have B0 := hid (show Below w.heap.size w W from hW ▸ (((Below.refl _ w).alloc (Nat.le_refl _) _).alloc (by simp) _).alloc (by simp; omega) _)
  have P0 : Hid (Mbox W w.heap.size D) := hid (hW ▸ ((show Mbox (w.alloc _) w.heap.size D from new_at rfl).alloc _).alloc _)
  have P1 : Hid (Mbox W (w.heap.size + 1) E) := hid (hW ▸ (show Mbox ((w.alloc _).alloc _) (w.heap.size + 1) E from new_at (by simp)).alloc _)
  have P2 : Hid (Mbox W (w.heap.size + 1 + 1) D0) := hid (hW ▸ (show Mbox (((w.alloc _).alloc _).alloc _) (w.heap.size + 2) D0 from new_at (by simp)))
  have HR := hid h
  have HR2 := hid h2
  have HW := hid hW
  have HTb := hid hT
  have hD := ((h.below B0.out).mrd)
  have hE := ((h2.below B0.out).mrd)
  have B1 := hid ((Below.refl W.heap.size W).alloc (Nat.le_refl _) (.cells #[.bool (D 0).s, .slice (D 0).A (D 0).n (D 0).c, .int .i64 (D 0).x, .bool (D 1).s, .slice (D 1).A (D 1).n (D 1).c, .int .i64 (D 1).x, .bool (D 2).s, .slice (D 2).A (D 2).n (D 2).c, .int .i64 (D 2).x, .bool (D 3).s, .slice (D 3).A (D 3).n (D 3).c, .int .i64 (D 3).x, .bool (E 0).s, .slice (E 0).A (E 0).n (E 0).c, .int .i64 (E 0).x, .bool (E 1).s, .slice (E 1).A (E 1).n (E 1).c, .int .i64 (E 1).x, .bool (E 2).s, .slice (E 2).A (E 2).n (E 2).c, .int .i64 (E 2).x, .bool (E 3).s, .slice (E 3).A (E 3).n (E 3).c, .int .i64 (E 3).x] 26))
  have CB := hid (manybad_any (w := W.alloc (.cells #[.bool (D 0).s, .slice (D 0).A (D 0).n (D 0).c, .int .i64 (D 0).x, .bool (D 1).s, .slice (D 1).A (D 1).n (D 1).c, .int .i64 (D 1).x, .bool (D 2).s, .slice (D 2).A (D 2).n (D 2).c, .int .i64 (D 2).x, .bool (D 3).s, .slice (D 3).A (D 3).n (D 3).c, .int .i64 (D 3).x, .bool (E 0).s, .slice (E 0).A (E 0).n (E 0).c, .int .i64 (E 0).x, .bool (E 1).s, .slice (E 1).A (E 1).n (E 1).c, .int .i64 (E 1).x, .bool (E 2).s, .slice (E 2).A (E 2).n (E 2).c, .int .i64 (E 2).x, .bool (E 3).s, .slice (E 3).A (E 3).n (E 3).c, .int .i64 (E 3).x] 26)) (g := W.heap.size) ((hD.below B1.out).mono B1.out.size) ((hE.below B1.out).mono B1.out.size) (heap_alloc_new _ _))
  have hcase : (All4 q ∧ All4 p ∧ (decide (¬ MMay D) || decide (¬ MMay E)) = false) ∨ (¬ (All4 q ∧ All4 p) ∧ (decide (¬ MMay D) || decide (¬ MMay E)) = true) := by
    by_cases h3 : All4 q ∧ All4 p
    · exact .inl ⟨h3.1, h3.2, by simp [h.may.1 h3.1, h2.may.1 h3.2]⟩
    · refine .inr ⟨h3, ?_⟩
      by_cases h4 : MMay D
      · by_cases h5 : MMay E
        · exact absurd ⟨h.may.2 h4, h2.may.2 h5⟩ h3
        · simp [h5]
      · simp [h4]
  clear hW h h2 hT hD hE
  rcases hcase with ⟨hq, hp, hb⟩ | ⟨hn, hb⟩
  · rw [hb] at CB
    have HQ := hid hq
    have HP := hid hp
    clear hq hp hb
    go_enter Tryd.func7, Tryd.ntmps7
    go_upto_region 1 with fail
    rw [← HW.out]
    go_wp2_with (first
      | (with_reducible refine wp_mload rfl (.tmp 2) rfl w.heap.size D rfl P0.out ?_)
      | (with_reducible refine wp_mload rfl (.tmp 3) rfl (w.heap.size + 1) E rfl P1.out ?_)
      | fail)
    refine CB.out.mono ?_
    rintro e W2 ⟨rfl, hbel⟩
    have B2 := hid (B1.out.trans (hbel.mono B1.out.size))
    have Q0 := hid (P0.out.below B2.out P0.out.lt)
    have Q1 := hid (P1.out.below B2.out P1.out.lt)
    have Q2 := hid (P2.out.below B2.out P2.out.lt)
    have B3 := hid (B0.out.trans (B2.out.mono B0.out.size))
    clear hbel CB
    have CJ := hid (mjoined_add (HR.out.below B3.out) (HR2.out.below B3.out) HQ.out HP.out HH.out (HTb.out.below B3.out HTb.out.lt))
    go_wp2_with (first
      | (with_reducible refine wp_mload rfl (.tmp 2) rfl w.heap.size D rfl Q0.out ?_)
      | (with_reducible refine wp_mload rfl (.tmp 3) rfl (w.heap.size + 1) E rfl Q1.out ?_)
      | fail)
    refine CJ.out.mono ?_
    rintro e W4 ⟨R, er, rfl, HE, HM, hbel⟩
    have Q4 := hid (Q2.out.below hbel.out Q2.out.lt)
    have B4 := hid (B3.out.trans (hbel.out.mono B3.out.size))
    have hsz := B3.out.size
    have hlt := Q2.out.lt
    have Hlt := hid hlt
    clear CJ hsz hlt
    go_wp2_with (first
      | (with_reducible refine wp_mstore rfl (.tmp 4) (.tmp 14) rfl (w.heap.size + 1 + 1) D0 R rfl rfl Q4.out ?_)
      | fail)
    have g4 := grown_mstore W4 (w.heap.size + 1 + 1) R
    have hlt := Hlt.out
    refine ret_mass rfl rfl rfl rfl (Q4.out.store R) ⟨R, er, rfl, ⟨fun _ => HE.out, fun hn => absurd ⟨HQ.out, HP.out⟩ hn⟩, (fun k hk => ((HM.out k hk).grown g4 hlt).mono (by have := B3.out.size; omega)), below_row B4.out g4 B4.out.size (by omega)⟩
  · rw [hb] at CB
    have HN := hid hn
    clear hn hb
    go_enter Tryd.func7, Tryd.ntmps7
    go_upto_region 1 with fail
    rw [← HW.out]
    go_wp2_with (first
      | (with_reducible refine wp_mload rfl (.tmp 2) rfl w.heap.size D rfl P0.out ?_)
      | (with_reducible refine wp_mload rfl (.tmp 3) rfl (w.heap.size + 1) E rfl P1.out ?_)
      | fail)
    refine CB.out.mono ?_
    rintro e W2 ⟨rfl, hbel⟩
    have B2 := hid (B1.out.trans (hbel.mono B1.out.size))
    have Q2 := hid (P2.out.below B2.out P2.out.lt)
    have B3 := hid (B0.out.trans (B2.out.mono B0.out.size))
    clear hbel CB
    go_wp2_with (first
      | (with_reducible refine wp_mzero rfl (.tmp 4) (.tmp 10) rfl (w.heap.size + 1 + 1) D0 rfl rfl Q2.out ?_)
      | fail)
    have g4 := grown_mstore W2 (w.heap.size + 1 + 1) D0
    refine ret_mass rfl rfl rfl rfl (Q2.out.store D0) ⟨D0, 8, rfl, ⟨fun hy => absurd hy HN.out, fun _ => rfl⟩, Mow.zero _ _, below_row B3.out g4 B3.out.size (by omega)⟩

set_option maxHeartbeats 3200000 in
theorem msub_any {w : World} {q p : Nat → Prop} {M N : Nat → Int} {D E : Nat → Dy} (h : Mar w q M D) (h2 : Mar w p N E) (hT : Tab w) :
    Calls Tryd.prog 9 #[.agg (mcells D), .agg (mcells E)] w (MRes w (Merrs (All4 q ∧ All4 p) (fun k => M k - N k)) (fun k => M k - N k)) := by
  obtain ⟨H, hH⟩ : ∃ H : Nat → Int, H = fun k => M k - N k := ⟨_, rfl⟩
  rw [← hH]
  have HH : Hid (∀ k, k < 4 → M k - N k = H k) := hid (fun k _ => by rw [hH])
  clear hH
  obtain ⟨W, hW⟩ : ∃ W, W = ((w.alloc (.cells (mcells D) 26)).alloc (.cells (mcells E) 26)).alloc (.cells #[.bool false, .slice none 0 0, .int .i64 0, .bool false, .slice none 0 0, .int .i64 0, .bool false, .slice none 0 0, .int .i64 0, .bool false, .slice none 0 0, .int .i64 0] 26) := ⟨_, rfl⟩
  have B0 := hid (show Below w.heap.size w W from hW ▸ (((Below.refl _ w).alloc (Nat.le_refl _) _).alloc (by simp) _).alloc (by simp; omega) _)
  have P0 : Hid (Mbox W w.heap.size D) := hid (hW ▸ ((show Mbox (w.alloc _) w.heap.size D from new_at rfl).alloc _).alloc _)
  have P1 : Hid (Mbox W (w.heap.size + 1) E) := hid (hW ▸ (show Mbox ((w.alloc _).alloc _) (w.heap.size + 1) E from new_at (by simp)).alloc _)
  have P2 : Hid (Mbox W (w.heap.size + 1 + 1) D0) := hid (hW ▸ (show Mbox (((w.alloc _).alloc _).alloc _) (w.heap.size + 2) D0 from new_at (by simp)))
  have HR := hid h
  have HR2 := hid h2
  have HW := hid hW
  have HTb := hid hT
  have hD := ((h.below B0.out).mrd)
  have hE := ((h2.below B0.out).mrd)
  have B1 := hid ((Below.refl W.heap.size W).alloc (Nat.le_refl _) (.cells #[.bool (D 0).s, .slice (D 0).A (D 0).n (D 0).c, .int .i64 (D 0).x, .bool (D 1).s, .slice (D 1).A (D 1).n (D 1).c, .int .i64 (D 1).x, .bool (D 2).s, .slice (D 2).A (D 2).n (D 2).c, .int .i64 (D 2).x, .bool (D 3).s, .slice (D 3).A (D 3).n (D 3).c, .int .i64 (D 3).x, .bool (E 0).s, .slice (E 0).A (E 0).n (E 0).c, .int .i64 (E 0).x, .bool (E 1).s, .slice (E 1).A (E 1).n (E 1).c, .int .i64 (E 1).x, .bool (E 2).s, .slice (E 2).A (E 2).n (E 2).c, .int .i64 (E 2).x, .bool (E 3).s, .slice (E 3).A (E 3).n (E 3).c, .int .i64 (E 3).x] 26))
  have CB := hid (manybad_any (w := W.alloc (.cells #[.bool (D 0).s, .slice (D 0).A (D 0).n (D 0).c, .int .i64 (D 0).x, .bool (D 1).s, .slice (D 1).A (D 1).n (D 1).c, .int .i64 (D 1).x, .bool (D 2).s, .slice (D 2).A (D 2).n (D 2).c, .int .i64 (D 2).x, .bool (D 3).s, .slice (D 3).A (D 3).n (D 3).c, .int .i64 (D 3).x, .bool (E 0).s, .slice (E 0).A (E 0).n (E 0).c, .int .i64 (E 0).x, .bool (E 1).s, .slice (E 1).A (E 1).n (E 1).c, .int .i64 (E 1).x, .bool (E 2).s, .slice (E 2).A (E 2).n (E 2).c, .int .i64 (E 2).x, .bool (E 3).s, .slice (E 3).A (E 3).n (E 3).c, .int .i64 (E 3).x] 26)) (g := W.heap.size) ((hD.below B1.out).mono B1.out.size) ((hE.below B1.out).mono B1.out.size) (heap_alloc_new _ _))
  have hcase : (All4 q ∧ All4 p ∧ (decide (¬ MMay D) || decide (¬ MMay E)) = false) ∨ (¬ (All4 q ∧ All4 p) ∧ (decide (¬ MMay D) || decide (¬ MMay E)) = true) := by
    by_cases h3 : All4 q ∧ All4 p
    · exact .inl ⟨h3.1, h3.2, by simp [h.may.1 h3.1, h2.may.1 h3.2]⟩
    · refine .inr ⟨h3, ?_⟩
      by_cases h4 : MMay D
      · by_cases h5 : MMay E
        · exact absurd ⟨h.may.2 h4, h2.may.2 h5⟩ h3
        · simp [h5]
      · simp [h4]
  clear hW h h2 hT hD hE
  rcases hcase with ⟨hq, hp, hb⟩ | ⟨hn, hb⟩
  · rw [hb] at CB
    have HQ := hid hq
    have HP := hid hp
    clear hq hp hb
    go_enter Tryd.func9, Tryd.ntmps9
    go_upto_region 1 with fail
    rw [← HW.out]
    go_wp2_with (first
      | (with_reducible refine wp_mload rfl (.tmp 2) rfl w.heap.size D rfl P0.out ?_)
      | (with_reducible refine wp_mload rfl (.tmp 3) rfl (w.heap.size + 1) E rfl P1.out ?_)
      | fail)
    refine CB.out.mono ?_
    rintro e W2 ⟨rfl, hbel⟩
    have B2 := hid (B1.out.trans (hbel.mono B1.out.size))
    have Q0 := hid (P0.out.below B2.out P0.out.lt)
    have Q1 := hid (P1.out.below B2.out P1.out.lt)
    have Q2 := hid (P2.out.below B2.out P2.out.lt)
    have B3 := hid (B0.out.trans (B2.out.mono B0.out.size))
    clear hbel CB
    have CJ := hid (mjoined_sub (HR.out.below B3.out) (HR2.out.below B3.out) HQ.out HP.out HH.out (HTb.out.below B3.out HTb.out.lt))
    go_wp2_with (first
      | (with_reducible refine wp_mload rfl (.tmp 2) rfl w.heap.size D rfl Q0.out ?_)
      | (with_reducible refine wp_mload rfl (.tmp 3) rfl (w.heap.size + 1) E rfl Q1.out ?_)
      | fail)
    refine CJ.out.mono ?_
    rintro e W4 ⟨R, er, rfl, HE, HM, hbel⟩
    have Q4 := hid (Q2.out.below hbel.out Q2.out.lt)
    have B4 := hid (B3.out.trans (hbel.out.mono B3.out.size))
    have hsz := B3.out.size
    have hlt := Q2.out.lt
    have Hlt := hid hlt
    clear CJ hsz hlt
    go_wp2_with (first
      | (with_reducible refine wp_mstore rfl (.tmp 4) (.tmp 14) rfl (w.heap.size + 1 + 1) D0 R rfl rfl Q4.out ?_)
      | fail)
    have g4 := grown_mstore W4 (w.heap.size + 1 + 1) R
    have hlt := Hlt.out
    refine ret_mass rfl rfl rfl rfl (Q4.out.store R) ⟨R, er, rfl, ⟨fun _ => HE.out, fun hn => absurd ⟨HQ.out, HP.out⟩ hn⟩, (fun k hk => ((HM.out k hk).grown g4 hlt).mono (by have := B3.out.size; omega)), below_row B4.out g4 B4.out.size (by omega)⟩
  · rw [hb] at CB
    have HN := hid hn
    clear hn hb
    go_enter Tryd.func9, Tryd.ntmps9
    go_upto_region 1 with fail
    rw [← HW.out]
    go_wp2_with (first
      | (with_reducible refine wp_mload rfl (.tmp 2) rfl w.heap.size D rfl P0.out ?_)
      | (with_reducible refine wp_mload rfl (.tmp 3) rfl (w.heap.size + 1) E rfl P1.out ?_)
      | fail)
    refine CB.out.mono ?_
    rintro e W2 ⟨rfl, hbel⟩
    have B2 := hid (B1.out.trans (hbel.mono B1.out.size))
    have Q2 := hid (P2.out.below B2.out P2.out.lt)
    have B3 := hid (B0.out.trans (B2.out.mono B0.out.size))
    clear hbel CB
    go_wp2_with (first
      | (with_reducible refine wp_mzero rfl (.tmp 4) (.tmp 10) rfl (w.heap.size + 1 + 1) D0 rfl rfl Q2.out ?_)
      | fail)
    have g4 := grown_mstore W2 (w.heap.size + 1 + 1) D0
    refine ret_mass rfl rfl rfl rfl (Q2.out.store D0) ⟨D0, 8, rfl, ⟨fun hy => absurd hy HN.out, fun _ => rfl⟩, Mow.zero _ _, below_row B3.out g4 B3.out.size (by omega)⟩

end Go.Proofs.YtelalanhalbicaaDoor
