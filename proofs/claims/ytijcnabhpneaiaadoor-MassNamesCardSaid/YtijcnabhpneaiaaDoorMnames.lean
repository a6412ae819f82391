/- MassNames, walked. -/
import Derived.Test.YtijcnabhpneaiaaDoorMsum
import Derived.Test.YtijcnabhpneaiaaDoorMwhole
namespace Go.Proofs.YtijcnabhpneaiaaDoor
open Go.RowKit Go.Shelf

theorem Owd.sign {B : Nat} {w : World} {M : Int} {d : Dy} (h : Owd B w M d) : (M < 0 → d.s = true) ∧ (M = 0 → d.n = 0) := by
  obtain ⟨s, A, n, c, x, he, h1, h2, -⟩ := h.own.sign
  injection he with he
  simp at he
  obtain ⟨hs, ⟨_, hn, _⟩, _⟩ := he
  exact ⟨fun h0 => hs.trans (h1 h0).1, fun h0 => hn.trans (h2 h0).2⟩
/-- The row of one limb. -/
def lone1 (j : Nat) : Nat := if j = 0 then 1 else 0
theorem dyr_tiny {w : World} {g : Nat} {t : TypeId} (h : w.heap[g]? = some (.cells #[.int .u32 1] t (0, 0))) : Dyr w True (dv false 1 1024) ⟨false, some ⟨g, 0, none⟩, 1, 1, 1024, lone1⟩ := by
  have hv : vl lone1 1 = 1 := by simp [vl, pw, lone1]
  refine ⟨⟨Nat.le_refl _, by simp, fun j => ?_, fun j hj => if_neg (by have h1 : 1 ≤ j := hj; omega), fun _ => ⟨g, 0, rfl, lt_of_heap h, fun j hj => ?_⟩⟩, ⟨fun _ => ?_, fun _ => trivial⟩, fun _ => ⟨1024, rfl, ?_⟩, fun h => by cases h⟩
  · show lone1 j < _
    unfold lone1
    split <;> omega
  · obtain rfl : j = 0 := by simp at hj; omega
    rw [cell_of_row _ _ _ _ _ (0, 0) h]
    rfl
  · refine canon_may (n := 1) (f := lone1) (X := 1024) ⟨by omega, fun _ => ?_⟩ ?_ (by omega)
    · simp [lone1]
    · rw [hv]
      exact canon_small (by omega) (fun _ => rfl)
  · show _ = dv false (vl lone1 1) 1024
    rw [hv]
theorem half_over {H : Int} {X : Nat} (hX : X = 1024) (h : 2 * H = dv false 1 X) : ¬ Okay H := by
  have e := half_scaled (s := false) (V := 1) (X := X) (by omega)
  obtain rfl : H = num false (1 * tp (4000 - (X + 1))) := by omega
  exact not_okay (s := false) (V := 1) (x := X + 1) (canon_small (by omega) (fun _ => rfl)) (by omega) (.inr (by omega))
theorem dyr_bad (w : World) : Dyr w False 0 ⟨false, none, 0, 0, 1, fun _ => 0⟩ :=
  ⟨Rd.nil w _, ⟨fun h => h.elim, fun h => by
    have h0 : (fun _ : Nat => 0) 0 % 2 = 1 := h.2.2.2.2 (by show (0 : Int) < 1; omega)
    cases h0⟩, fun h => h.elim, fun _ => ⟨rfl, rfl⟩⟩
theorem make_masses (w : World) : ∃ cs, (Instr.makeSlice 44 (.int .i64 4097) (.int .i64 4097)).run Tryd.prog w = .ok (.slice (some ⟨w.heap.size, 0, none⟩) 4097 4097) (w.alloc (.cells cs 37)) := by
  have hinfo : (Tryd.prog.info? 37).map (fun i => (i.zero, i.size, i.bytes)) = some (some (.agg #[.bool false, .slice none 0 0, .int .i64 0, .bool false, .slice none 0 0, .int .i64 0, .bool false, .slice none 0 0, .int .i64 0, .bool false, .slice none 0 0, .int .i64 0]), 12, 160) := by kernel_rfl
  obtain ⟨i, hi, hz, hs, hb⟩ := info_parts hinfo
  exact ⟨_, run_make (P := Tryd.prog) w 44 37 i _ Tryd.underlying44 hi hz _ _ 4097 4097 (by omega) (by omega) (by rw [hb]; omega) (by omega)⟩

set_option maxRecDepth 100000 in
set_option maxHeartbeats 6400000 in
theorem mnames_walk {w : World} (hTb : Tab w) : Calls Tryd.prog 4 #[] w fun e w' => e = .returned (.bool true) ∧ Below w.heap.size w w' := by
  obtain ⟨T, hT⟩ : ∃ T : Int, (tp 4000 : Int) = T := ⟨_, rfl⟩
  have hpos : 0 < T := by rw [← hT]; have := tp_pos 4000; omega
  obtain ⟨cs, hcs⟩ : ∃ cs : World → Array Value, ∀ w', (Instr.makeSlice 44 (.int .i64 4097) (.int .i64 4097)).run Tryd.prog w' = .ok (.slice (some ⟨w'.heap.size, 0, none⟩) 4097 4097) (w'.alloc (.cells (cs w') 37)) := ⟨fun w' => (make_masses w').choose, fun w' => (make_masses w').choose_spec⟩
  have HT := hid hT
  have HPos := hid hpos
  replace HTb := hid hTb
  have K := hid (Below.refl w.heap.size w)
  clear hT hpos hTb
  go_enter Tryd.func4, Tryd.ntmps4
  go_wp2_with fail
  refine (mseed_bad (x := -2147483648) (by omega) false _).mono ?_
  rintro e w1 ⟨rfl, hb⟩
  replace K := hid (K.out.trans (hb.out.mono K.out.size))
  replace HTb := hid (HTb.out.below hb.out HTb.out.lt)
  clear hb
  have F_a := hid (fresh_mass w1)
  go_upto_region 2 with (first
    | (with_reducible refine wp_mstore rfl (.tmp 1) (.tmp 17) rfl w1.heap.size D0 D0 rfl rfl F_a.out ?_)
    | fail)
  obtain ⟨W1, hW1⟩ : ∃ W, W = mstore (w1.alloc (.cells #[.bool false, .slice none 0 0, .int .i64 0, .bool false, .slice none 0 0, .int .i64 0, .bool false, .slice none 0 0, .int .i64 0, .bool false, .slice none 0 0, .int .i64 0] 37)) w1.heap.size D0 := ⟨_, rfl⟩
  rw [← hW1]
  have P1 : Hid (Mbox W1 w1.heap.size D0) := hid (hW1 ▸ (new_mass w1 D0).1)
  have hn : Hid (Below w1.heap.size w1 W1) := hid (hW1 ▸ (new_mass w1 D0).2)
  clear hW1 F_a
  replace K := hid (K.out.trans (hn.out.mono K.out.size))
  replace HTb := hid (HTb.out.below hn.out HTb.out.lt)
  clear hn
  clear P1
  go_wp2_with fail
  refine (mseed_later (x := -2147483647) HT.out (by omega) _).mono ?_
  rintro e w2 ⟨D1, rfl, HD, hb⟩
  replace K := hid (K.out.trans (hb.out.mono K.out.size))
  replace HTb := hid (HTb.out.below hb.out HTb.out.lt)
  clear hb
  have F_b := hid (fresh_mass w2)
  go_upto_region 3 with (first
    | (with_reducible refine wp_mstore rfl (.tmp 3) (.tmp 21) rfl w2.heap.size D0 D1 rfl rfl F_b.out ?_)
    | fail)
  obtain ⟨W2, hW2⟩ : ∃ W, W = mstore (w2.alloc (.cells #[.bool false, .slice none 0 0, .int .i64 0, .bool false, .slice none 0 0, .int .i64 0, .bool false, .slice none 0 0, .int .i64 0, .bool false, .slice none 0 0, .int .i64 0] 37)) w2.heap.size D1 := ⟨_, rfl⟩
  rw [← hW2]
  have P3 : Hid (Mbox W2 w2.heap.size D1) := hid (hW2 ▸ (new_mass w2 D1).1)
  have hn : Hid (Below w2.heap.size w2 W2) := hid (hW2 ▸ (new_mass w2 D1).2)
  clear hW2 F_b
  replace K := hid (K.out.trans (hn.out.mono K.out.size))
  replace HTb := hid (HTb.out.below hn.out HTb.out.lt)
  replace HD := hid (HD.out.below hn.out)
  clear hn
  obtain ⟨V, hV⟩ : ∃ V, V = W2.alloc (.cells #[.int .u32 1] 40) := ⟨_, rfl⟩
  have HV := hid hV
  have HTy : Hid (Dyr V True (dv false 1 1024) ⟨false, some ⟨W2.heap.size, 0, none⟩, 1, 1, 1024, lone1⟩) := hid (hV ▸ dyr_tiny (heap_alloc_new W2 _))
  have hn : Hid (Below W2.heap.size W2 V) := hid (hV ▸ (Below.refl _ W2).alloc (Nat.le_refl _) _)
  clear hV
  replace K := hid (K.out.trans (hn.out.mono K.out.size))
  replace HTb := hid (HTb.out.below hn.out HTb.out.lt)
  replace HD := hid (HD.out.below hn.out)
  replace P3 := hid (P3.out.below hn.out P3.out.lt)
  clear hn
  have F_c : Hid (Mbox ((W2.alloc (.cells #[.int .u32 1] 40)).alloc (.cells #[.bool false, .slice none 0 0, .int .i64 0, .bool false, .slice none 0 0, .int .i64 0, .bool false, .slice none 0 0, .int .i64 0, .bool false, .slice none 0 0, .int .i64 0] 37)) (W2.heap.size + 1) D0) := hid (show Mbox ((W2.alloc (.cells #[.int .u32 1] 40)).alloc _) (W2.heap.size + 1) D0 from new_at (by simp))
  have Hlit := hid (show (#[.bool false, .slice none 0 0, .int .i64 0, .bool false, .slice (some ⟨W2.heap.size, 0, none⟩) 1 1, .int .i64 1024, .bool false, .slice none 0 0, .int .i64 0, .bool false, .slice none 0 0, .int .i64 0] : Array Value) = mcells (of4 d0 ⟨false, some ⟨W2.heap.size, 0, none⟩, 1, 1, 1024, lone1⟩ d0 d0) from rfl)
  go_upto_region 4 with (first
    | (with_reducible refine wp_mstore_ rfl (.tmp 5) (.tmp 25) rfl (W2.heap.size + 1) D0 (of4 d0 ⟨false, some ⟨W2.heap.size, 0, none⟩, 1, 1, 1024, lone1⟩ d0 d0) _ rfl rfl Hlit.out F_c.out ?_)
    | (with_reducible refine wp_mload rfl (.tmp 3) rfl w2.heap.size D1 rfl P3.out ?_)
    | (with_reducible refine wp_mload_g (by kernel_rfl) (.tmp 3) rfl w2.heap.size D1 rfl P3.out ?_)
    | fail)
  obtain ⟨W3, hW3⟩ : ∃ W, W = mstore ((W2.alloc (.cells #[.int .u32 1] 40)).alloc (.cells #[.bool false, .slice none 0 0, .int .i64 0, .bool false, .slice none 0 0, .int .i64 0, .bool false, .slice none 0 0, .int .i64 0, .bool false, .slice none 0 0, .int .i64 0] 37)) (W2.heap.size + 1) (of4 d0 ⟨false, some ⟨W2.heap.size, 0, none⟩, 1, 1, 1024, lone1⟩ d0 d0) := ⟨_, rfl⟩
  rw [← hW3]
  have P5 : Hid (Mbox W3 (W2.heap.size + 1) (of4 d0 ⟨false, some ⟨W2.heap.size, 0, none⟩, 1, 1, 1024, lone1⟩ d0 d0)) := hid (hW3 ▸ F_c.out.store _)
  have hn : Hid (Below V.heap.size V W3) := hid (by
    rw [hW3, HV.out]
    exact below_row ((Below.refl _ (W2.alloc (.cells #[.int .u32 1] 40))).alloc (Nat.le_refl _) _) (grown_mstore _ _ (of4 d0 ⟨false, some ⟨W2.heap.size, 0, none⟩, 1, 1, 1024, lone1⟩ d0 d0)) (by simp) (by simp))
  clear hW3 F_c Hlit
  replace K := hid (K.out.trans (hn.out.mono K.out.size))
  replace HTb := hid (HTb.out.below hn.out HTb.out.lt)
  replace HD := hid (HD.out.below hn.out)
  replace P3 := hid (P3.out.below hn.out P3.out.lt)
  replace HTy := hid (HTy.out.below hn.out)
  clear hn
  have HMt : Hid (Mar W3 (of4 True True True True) (of4 0 (dv false 1 1024) 0 0) (of4 d0 ⟨false, some ⟨W2.heap.size, 0, none⟩, 1, 1, 1024, lone1⟩ d0 d0)) := hid (mar4 (Dyr.zero _) HTy.out (Dyr.zero _) (Dyr.zero _))
  clear HTy HV
  go_wp2_with (first
    | (with_reducible refine wp_mload rfl (.tmp 3) rfl w2.heap.size D1 rfl P3.out ?_)
    | (with_reducible refine wp_mload rfl (.tmp 5) rfl (W2.heap.size + 1) (of4 d0 ⟨false, some ⟨W2.heap.size, 0, none⟩, 1, 1, 1024, lone1⟩ d0 d0) rfl P5.out ?_)
    | (with_reducible refine wp_mload_g (by kernel_rfl) (.tmp 3) rfl w2.heap.size D1 rfl P3.out ?_)
    | (with_reducible refine wp_mload_g (by kernel_rfl) (.tmp 5) rfl (W2.heap.size + 1) (of4 d0 ⟨false, some ⟨W2.heap.size, 0, none⟩, 1, 1, 1024, lone1⟩ d0 d0) rfl P5.out ?_)
    | fail)
  refine (msplit_any HMt.out HTb.out).mono ?_
  rintro e w4 ⟨h0, h1, hh, D3, D4, er, rfl, HE, HS, hb⟩
  replace K := hid (K.out.trans (hb.out.mono K.out.size))
  replace HTb := hid (HTb.out.below hb.out HTb.out.lt)
  replace HD := hid (HD.out.below hb.out)
  replace P3 := hid (P3.out.below hb.out P3.out.lt)
  replace P5 := hid (P5.out.below hb.out P5.out.lt)
  replace HMt := hid (HMt.out.below hb.out)
  obtain rfl : er = 10 := by
    rcases HE.out.1 all_true with ⟨h, _⟩ | ⟨_, h⟩
    · exact absurd h.2 (half_over rfl (hh all_true).2)
    · exact h
  clear hh HE HS hb
  have fr0 := hid (fresh_mass w4)
  have fr1 : Hid (Mbox ((w4.alloc (.cells #[.bool false, .slice none 0 0, .int .i64 0, .bool false, .slice none 0 0, .int .i64 0, .bool false, .slice none 0 0, .int .i64 0, .bool false, .slice none 0 0, .int .i64 0] 37)).alloc (.cells #[.bool false, .slice none 0 0, .int .i64 0, .bool false, .slice none 0 0, .int .i64 0, .bool false, .slice none 0 0, .int .i64 0, .bool false, .slice none 0 0, .int .i64 0] 37)) w4.heap.size D0) := hid (fr0.out.alloc _)
  have fr2 : Hid (Mbox (mstore ((w4.alloc (.cells #[.bool false, .slice none 0 0, .int .i64 0, .bool false, .slice none 0 0, .int .i64 0, .bool false, .slice none 0 0, .int .i64 0, .bool false, .slice none 0 0, .int .i64 0] 37)).alloc (.cells #[.bool false, .slice none 0 0, .int .i64 0, .bool false, .slice none 0 0, .int .i64 0, .bool false, .slice none 0 0, .int .i64 0, .bool false, .slice none 0 0, .int .i64 0] 37)) w4.heap.size D3) (w4.heap.size + 1) D0) := hid (Mbox.grown (show Mbox ((w4.alloc _).alloc _) (w4.heap.size + 1) D0 from new_at (by simp)) (grown_mstore _ _ D3) (by omega))
  go_upto_region 5 with (first
    | (with_reducible refine wp_mstore rfl (.tmp 6) (.tmp 29) rfl w4.heap.size D0 D3 rfl rfl fr1.out ?_)
    | (with_reducible refine wp_mstore rfl (.tmp 7) (.tmp 30) rfl (w4.heap.size + 1) D0 D4 rfl rfl fr2.out ?_)
    | (with_reducible refine wp_mload rfl (.tmp 3) rfl w2.heap.size D1 rfl P3.out ?_)
    | (with_reducible refine wp_mload rfl (.tmp 5) rfl (W2.heap.size + 1) (of4 d0 ⟨false, some ⟨W2.heap.size, 0, none⟩, 1, 1, 1024, lone1⟩ d0 d0) rfl P5.out ?_)
    | (with_reducible refine wp_mload_g (by kernel_rfl) (.tmp 3) rfl w2.heap.size D1 rfl P3.out ?_)
    | (with_reducible refine wp_mload_g (by kernel_rfl) (.tmp 5) rfl (W2.heap.size + 1) (of4 d0 ⟨false, some ⟨W2.heap.size, 0, none⟩, 1, 1, 1024, lone1⟩ d0 d0) rfl P5.out ?_)
    | fail)
  obtain ⟨W4, hW4⟩ : ∃ W, W = mstore (mstore ((w4.alloc (.cells #[.bool false, .slice none 0 0, .int .i64 0, .bool false, .slice none 0 0, .int .i64 0, .bool false, .slice none 0 0, .int .i64 0, .bool false, .slice none 0 0, .int .i64 0] 37)).alloc (.cells #[.bool false, .slice none 0 0, .int .i64 0, .bool false, .slice none 0 0, .int .i64 0, .bool false, .slice none 0 0, .int .i64 0, .bool false, .slice none 0 0, .int .i64 0] 37)) w4.heap.size D3) (w4.heap.size + 1) D4 := ⟨_, rfl⟩
  rw [← hW4]
  have P6 : Hid (Mbox W4 w4.heap.size D3) := hid (hW4 ▸ (fr1.out.store D3).grown (grown_mstore _ _ D4) (by omega))
  have P7 : Hid (Mbox W4 (w4.heap.size + 1) D4) := hid (hW4 ▸ fr2.out.store D4)
  have hn : Hid (Below w4.heap.size w4 W4) := hid (hW4 ▸ below_row (below_row (((Below.refl _ w4).alloc (Nat.le_refl _) _).alloc (by simp) _) (grown_mstore _ _ D3) (by simp; omega) (Nat.le_refl _)) (grown_mstore _ _ D4) (Nat.le_trans (show w4.heap.size ≤ ((w4.alloc _).alloc _).heap.size by simp; omega) (grown_mstore _ _ D3).size) (by omega))
  clear hW4 fr0 fr1 fr2
  replace K := hid (K.out.trans (hn.out.mono K.out.size))
  replace HTb := hid (HTb.out.below hn.out HTb.out.lt)
  replace HD := hid (HD.out.below hn.out)
  replace P3 := hid (P3.out.below hn.out P3.out.lt)
  replace P5 := hid (P5.out.below hn.out P5.out.lt)
  replace HMt := hid (HMt.out.below hn.out)
  clear hn
  clear P6 P7
  go_wp2_with (first
    | (with_reducible refine wp_mload rfl (.tmp 3) rfl w2.heap.size D1 rfl P3.out ?_)
    | (with_reducible refine wp_mload rfl (.tmp 5) rfl (W2.heap.size + 1) (of4 d0 ⟨false, some ⟨W2.heap.size, 0, none⟩, 1, 1, 1024, lone1⟩ d0 d0) rfl P5.out ?_)
    | (with_reducible refine wp_mload_g (by kernel_rfl) (.tmp 3) rfl w2.heap.size D1 rfl P3.out ?_)
    | (with_reducible refine wp_mload_g (by kernel_rfl) (.tmp 5) rfl (W2.heap.size + 1) (of4 d0 ⟨false, some ⟨W2.heap.size, 0, none⟩, 1, 1, 1024, lone1⟩ d0 d0) rfl P5.out ?_)
    | fail)
  refine (msum_many (by omega) (by omega)).mono ?_
  rintro e w5 ⟨rfl, hb⟩
  replace hb := hid (((Below.refl W4.heap.size W4).alloc (Nat.le_refl _) (.cells (cs W4) 37)).trans (hb.out.mono (by simp)))
  clear hcs
  replace K := hid (K.out.trans (hb.out.mono K.out.size))
  replace HTb := hid (HTb.out.below hb.out HTb.out.lt)
  replace HD := hid (HD.out.below hb.out)
  replace P3 := hid (P3.out.below hb.out P3.out.lt)
  replace P5 := hid (P5.out.below hb.out P5.out.lt)
  replace HMt := hid (HMt.out.below hb.out)
  clear hb cs
  have F_e := hid (fresh_mass w5)
  go_upto_region 6 with (first
    | (with_reducible refine wp_mstore rfl (.tmp 9) (.tmp 35) rfl w5.heap.size D0 D0 rfl rfl F_e.out ?_)
    | (with_reducible refine wp_mload rfl (.tmp 3) rfl w2.heap.size D1 rfl P3.out ?_)
    | (with_reducible refine wp_mload rfl (.tmp 5) rfl (W2.heap.size + 1) (of4 d0 ⟨false, some ⟨W2.heap.size, 0, none⟩, 1, 1, 1024, lone1⟩ d0 d0) rfl P5.out ?_)
    | (with_reducible refine wp_mload_g (by kernel_rfl) (.tmp 3) rfl w2.heap.size D1 rfl P3.out ?_)
    | (with_reducible refine wp_mload_g (by kernel_rfl) (.tmp 5) rfl (W2.heap.size + 1) (of4 d0 ⟨false, some ⟨W2.heap.size, 0, none⟩, 1, 1, 1024, lone1⟩ d0 d0) rfl P5.out ?_)
    | fail)
  obtain ⟨W5, hW5⟩ : ∃ W, W = mstore (w5.alloc (.cells #[.bool false, .slice none 0 0, .int .i64 0, .bool false, .slice none 0 0, .int .i64 0, .bool false, .slice none 0 0, .int .i64 0, .bool false, .slice none 0 0, .int .i64 0] 37)) w5.heap.size D0 := ⟨_, rfl⟩
  rw [← hW5]
  have P9 : Hid (Mbox W5 w5.heap.size D0) := hid (hW5 ▸ (new_mass w5 D0).1)
  have hn : Hid (Below w5.heap.size w5 W5) := hid (hW5 ▸ (new_mass w5 D0).2)
  clear hW5 F_e
  replace K := hid (K.out.trans (hn.out.mono K.out.size))
  replace HTb := hid (HTb.out.below hn.out HTb.out.lt)
  replace HD := hid (HD.out.below hn.out)
  replace P3 := hid (P3.out.below hn.out P3.out.lt)
  replace P5 := hid (P5.out.below hn.out P5.out.lt)
  replace HMt := hid (HMt.out.below hn.out)
  clear hn
  clear P9
  go_wp2_with (first
    | (with_reducible refine wp_mload rfl (.tmp 3) rfl w2.heap.size D1 rfl P3.out ?_)
    | (with_reducible refine wp_mload rfl (.tmp 5) rfl (W2.heap.size + 1) (of4 d0 ⟨false, some ⟨W2.heap.size, 0, none⟩, 1, 1, 1024, lone1⟩ d0 d0) rfl P5.out ?_)
    | (with_reducible refine wp_mload_g (by kernel_rfl) (.tmp 3) rfl w2.heap.size D1 rfl P3.out ?_)
    | (with_reducible refine wp_mload_g (by kernel_rfl) (.tmp 5) rfl (W2.heap.size + 1) (of4 d0 ⟨false, some ⟨W2.heap.size, 0, none⟩, 1, 1, 1024, lone1⟩ d0 d0) rfl P5.out ?_)
    | fail)
  refine (msum_any (A := none) (n := 0) (c := 0) (D := fun _ => D0) (q := fun _ _ => True) (M := fun _ _ => 0) (fun h => absurd h (by omega)) (by omega) (fun i hi => absurd hi (by omega)) HTb.out).mono ?_
  rintro e w6 ⟨D6, er, rfl, HE, HZ, hb⟩
  replace K := hid (K.out.trans (hb.out.mono K.out.size))
  replace HTb := hid (HTb.out.below hb.out HTb.out.lt)
  replace HD := hid (HD.out.below hb.out)
  replace P3 := hid (P3.out.below hb.out P3.out.lt)
  replace P5 := hid (P5.out.below hb.out P5.out.lt)
  replace HMt := hid (HMt.out.below hb.out)
  obtain rfl : er = 0 := by
    rcases HE.out.2.2 (by omega) (fun i hi => absurd hi (by omega)) with ⟨_, h⟩ | ⟨h, _⟩
    · exact h
    · exact absurd (fun i hi => absurd hi (by omega)) h
  clear HE hb
  have F_f := hid (fresh_mass w6)
  go_upto_region 7 with (first
    | (with_reducible refine wp_mstore rfl (.tmp 11) (.tmp 39) rfl w6.heap.size D0 D6 rfl rfl F_f.out ?_)
    | (with_reducible refine wp_mload rfl (.tmp 3) rfl w2.heap.size D1 rfl P3.out ?_)
    | (with_reducible refine wp_mload rfl (.tmp 5) rfl (W2.heap.size + 1) (of4 d0 ⟨false, some ⟨W2.heap.size, 0, none⟩, 1, 1, 1024, lone1⟩ d0 d0) rfl P5.out ?_)
    | (with_reducible refine wp_mload_g (by kernel_rfl) (.tmp 3) rfl w2.heap.size D1 rfl P3.out ?_)
    | (with_reducible refine wp_mload_g (by kernel_rfl) (.tmp 5) rfl (W2.heap.size + 1) (of4 d0 ⟨false, some ⟨W2.heap.size, 0, none⟩, 1, 1, 1024, lone1⟩ d0 d0) rfl P5.out ?_)
    | fail)
  obtain ⟨W6, hW6⟩ : ∃ W, W = mstore (w6.alloc (.cells #[.bool false, .slice none 0 0, .int .i64 0, .bool false, .slice none 0 0, .int .i64 0, .bool false, .slice none 0 0, .int .i64 0, .bool false, .slice none 0 0, .int .i64 0] 37)) w6.heap.size D6 := ⟨_, rfl⟩
  rw [← hW6]
  have P11 : Hid (Mbox W6 w6.heap.size D6) := hid (hW6 ▸ (new_mass w6 D6).1)
  have hn : Hid (Below w6.heap.size w6 W6) := hid (hW6 ▸ (new_mass w6 D6).2)
  clear hW6 F_f
  replace K := hid (K.out.trans (hn.out.mono K.out.size))
  replace HTb := hid (HTb.out.below hn.out HTb.out.lt)
  replace HD := hid (HD.out.below hn.out)
  replace P3 := hid (P3.out.below hn.out P3.out.lt)
  replace P5 := hid (P5.out.below hn.out P5.out.lt)
  replace HMt := hid (HMt.out.below hn.out)
  replace HZ := hid (HZ.out.below hn.out)
  clear hn
  go_wp2_with (first
    | (with_reducible refine wp_mload rfl (.tmp 3) rfl w2.heap.size D1 rfl P3.out ?_)
    | (with_reducible refine wp_mload rfl (.tmp 5) rfl (W2.heap.size + 1) (of4 d0 ⟨false, some ⟨W2.heap.size, 0, none⟩, 1, 1, 1024, lone1⟩ d0 d0) rfl P5.out ?_)
    | (with_reducible refine wp_mload rfl (.tmp 11) rfl w6.heap.size D6 rfl P11.out ?_)
    | (with_reducible refine wp_mload_g (by kernel_rfl) (.tmp 3) rfl w2.heap.size D1 rfl P3.out ?_)
    | (with_reducible refine wp_mload_g (by kernel_rfl) (.tmp 5) rfl (W2.heap.size + 1) (of4 d0 ⟨false, some ⟨W2.heap.size, 0, none⟩, 1, 1, 1024, lone1⟩ d0 d0) rfl P5.out ?_)
    | (with_reducible refine wp_mload_g (by kernel_rfl) (.tmp 11) rfl w6.heap.size D6 rfl P11.out ?_)
    | fail)
  refine (madd_any HD.out.mar (mar4 (Dyr.zero _) (Dyr.zero _) (dyr_bad _) (Dyr.zero _)) HTb.out).mono ?_
  rintro e w7 ⟨D7, er, rfl, HE, -, hb⟩
  replace K := hid (K.out.trans (hb.out.mono K.out.size))
  replace HTb := hid (HTb.out.below hb.out HTb.out.lt)
  replace HD := hid (HD.out.below hb.out)
  replace P3 := hid (P3.out.below hb.out P3.out.lt)
  replace P5 := hid (P5.out.below hb.out P5.out.lt)
  replace HMt := hid (HMt.out.below hb.out)
  replace HZ := hid (HZ.out.below hb.out)
  replace P11 := hid (P11.out.below hb.out P11.out.lt)
  obtain rfl : er = 8 := HE.out.2 (fun h => h.2 2 (by omega))
  clear HE hb
  have F_g := hid (fresh_mass w7)
  go_upto_region 8 with (first
    | (with_reducible refine wp_mstore rfl (.tmp 13) (.tmp 46) rfl w7.heap.size D0 D7 rfl rfl F_g.out ?_)
    | (with_reducible refine wp_mload rfl (.tmp 3) rfl w2.heap.size D1 rfl P3.out ?_)
    | (with_reducible refine wp_mload rfl (.tmp 5) rfl (W2.heap.size + 1) (of4 d0 ⟨false, some ⟨W2.heap.size, 0, none⟩, 1, 1, 1024, lone1⟩ d0 d0) rfl P5.out ?_)
    | (with_reducible refine wp_mload rfl (.tmp 11) rfl w6.heap.size D6 rfl P11.out ?_)
    | (with_reducible refine wp_mload_g (by kernel_rfl) (.tmp 3) rfl w2.heap.size D1 rfl P3.out ?_)
    | (with_reducible refine wp_mload_g (by kernel_rfl) (.tmp 5) rfl (W2.heap.size + 1) (of4 d0 ⟨false, some ⟨W2.heap.size, 0, none⟩, 1, 1, 1024, lone1⟩ d0 d0) rfl P5.out ?_)
    | (with_reducible refine wp_mload_g (by kernel_rfl) (.tmp 11) rfl w6.heap.size D6 rfl P11.out ?_)
    | fail)
  obtain ⟨W7, hW7⟩ : ∃ W, W = mstore (w7.alloc (.cells #[.bool false, .slice none 0 0, .int .i64 0, .bool false, .slice none 0 0, .int .i64 0, .bool false, .slice none 0 0, .int .i64 0, .bool false, .slice none 0 0, .int .i64 0] 37)) w7.heap.size D7 := ⟨_, rfl⟩
  rw [← hW7]
  have P13 : Hid (Mbox W7 w7.heap.size D7) := hid (hW7 ▸ (new_mass w7 D7).1)
  have hn : Hid (Below w7.heap.size w7 W7) := hid (hW7 ▸ (new_mass w7 D7).2)
  clear hW7 F_g
  replace K := hid (K.out.trans (hn.out.mono K.out.size))
  replace HTb := hid (HTb.out.below hn.out HTb.out.lt)
  replace HD := hid (HD.out.below hn.out)
  replace P3 := hid (P3.out.below hn.out P3.out.lt)
  replace P5 := hid (P5.out.below hn.out P5.out.lt)
  replace HMt := hid (HMt.out.below hn.out)
  replace HZ := hid (HZ.out.below hn.out)
  replace P11 := hid (P11.out.below hn.out P11.out.lt)
  clear hn
  clear P13
  go_wp2_with (first
    | (with_reducible refine wp_mload rfl (.tmp 3) rfl w2.heap.size D1 rfl P3.out ?_)
    | (with_reducible refine wp_mload rfl (.tmp 5) rfl (W2.heap.size + 1) (of4 d0 ⟨false, some ⟨W2.heap.size, 0, none⟩, 1, 1, 1024, lone1⟩ d0 d0) rfl P5.out ?_)
    | (with_reducible refine wp_mload rfl (.tmp 11) rfl w6.heap.size D6 rfl P11.out ?_)
    | (with_reducible refine wp_mload_g (by kernel_rfl) (.tmp 3) rfl w2.heap.size D1 rfl P3.out ?_)
    | (with_reducible refine wp_mload_g (by kernel_rfl) (.tmp 5) rfl (W2.heap.size + 1) (of4 d0 ⟨false, some ⟨W2.heap.size, 0, none⟩, 1, 1, 1024, lone1⟩ d0 d0) rfl P5.out ?_)
    | (with_reducible refine wp_mload_g (by kernel_rfl) (.tmp 11) rfl w6.heap.size D6 rfl P11.out ?_)
    | fail)
  refine (malive_any _ HTb.out).mono ?_
  rintro e w8 ⟨rfl, hb⟩
  replace K := hid (K.out.trans (hb.out.mono K.out.size))
  replace HTb := hid (HTb.out.below hb.out HTb.out.lt)
  replace HD := hid (HD.out.below hb.out)
  replace P3 := hid (P3.out.below hb.out P3.out.lt)
  replace P5 := hid (P5.out.below hb.out P5.out.lt)
  replace HMt := hid (HMt.out.below hb.out)
  replace HZ := hid (HZ.out.below hb.out)
  replace P11 := hid (P11.out.below hb.out P11.out.lt)
  clear hb
  have v0 : w8.cell? ⟨w2.heap.size, 0, none⟩ = some (.bool true) := by
    have h0 := P3.out.at_ 0 (.bool (D1 0).s) rfl
    rwa [(HD.out 0 (by omega)).sign.1 (by show -2147483647 * T < 0; have := HPos.out; omega)] at h0
  obtain ⟨A2, c2, v7⟩ : ∃ A2 c2, w8.cell? ⟨w2.heap.size, 7, none⟩ = some (.slice A2 0 c2) := by
    have h0 := P3.out.at_ 7 (.slice (D1 2).A (D1 2).n (D1 2).c) rfl
    rw [(HD.out 2 (by omega)).sign.2 rfl] at h0
    exact ⟨_, _, h0⟩
  go_wp2_with (first
    | (with_reducible refine wp_mload rfl (.tmp 3) rfl w2.heap.size D1 rfl P3.out ?_)
    | (with_reducible refine wp_mload rfl (.tmp 5) rfl (W2.heap.size + 1) (of4 d0 ⟨false, some ⟨W2.heap.size, 0, none⟩, 1, 1, 1024, lone1⟩ d0 d0) rfl P5.out ?_)
    | (with_reducible refine wp_mload rfl (.tmp 11) rfl w6.heap.size D6 rfl P11.out ?_)
    | (with_reducible refine wp_mload_g (by kernel_rfl) (.tmp 3) rfl w2.heap.size D1 rfl P3.out ?_)
    | (with_reducible refine wp_mload_g (by kernel_rfl) (.tmp 5) rfl (W2.heap.size + 1) (of4 d0 ⟨false, some ⟨W2.heap.size, 0, none⟩, 1, 1, 1024, lone1⟩ d0 d0) rfl P5.out ?_)
    | (with_reducible refine wp_mload_g (by kernel_rfl) (.tmp 11) rfl w6.heap.size D6 rfl P11.out ?_)
    | fail)
  refine (msame_true HZ.out.mar (mar_zero _) (fun _ _ => trivial) (fun _ _ => trivial) (fun _ _ => rfl)).mono ?_
  rintro e w9 ⟨rfl, hb⟩
  replace K := hid (K.out.trans (hb.out.mono K.out.size))
  replace HTb := hid (HTb.out.below hb.out HTb.out.lt)
  replace HD := hid (HD.out.below hb.out)
  replace P3 := hid (P3.out.below hb.out P3.out.lt)
  replace P5 := hid (P5.out.below hb.out P5.out.lt)
  replace HMt := hid (HMt.out.below hb.out)
  replace HZ := hid (HZ.out.below hb.out)
  replace P11 := hid (P11.out.below hb.out P11.out.lt)
  clear hb v0 v7
  go_wp2_with (first
    | (with_reducible refine wp_mload rfl (.tmp 3) rfl w2.heap.size D1 rfl P3.out ?_)
    | (with_reducible refine wp_mload rfl (.tmp 5) rfl (W2.heap.size + 1) (of4 d0 ⟨false, some ⟨W2.heap.size, 0, none⟩, 1, 1, 1024, lone1⟩ d0 d0) rfl P5.out ?_)
    | (with_reducible refine wp_mload rfl (.tmp 11) rfl w6.heap.size D6 rfl P11.out ?_)
    | (with_reducible refine wp_mload_g (by kernel_rfl) (.tmp 3) rfl w2.heap.size D1 rfl P3.out ?_)
    | (with_reducible refine wp_mload_g (by kernel_rfl) (.tmp 5) rfl (W2.heap.size + 1) (of4 d0 ⟨false, some ⟨W2.heap.size, 0, none⟩, 1, 1, 1024, lone1⟩ d0 d0) rfl P5.out ?_)
    | (with_reducible refine wp_mload_g (by kernel_rfl) (.tmp 11) rfl w6.heap.size D6 rfl P11.out ?_)
    | fail)
  refine HMt.out.check.mono ?_
  rintro e w10 ⟨ec, rfl, Hec, hb⟩
  obtain rfl : ec = 0 := Hec.out.1 all_true
  replace K := hid (K.out.trans (hb.out.mono K.out.size))
  replace HTb := hid (HTb.out.below hb.out HTb.out.lt)
  replace HD := hid (HD.out.below hb.out)
  replace P3 := hid (P3.out.below hb.out P3.out.lt)
  replace P5 := hid (P5.out.below hb.out P5.out.lt)
  replace HMt := hid (HMt.out.below hb.out)
  replace HZ := hid (HZ.out.below hb.out)
  replace P11 := hid (P11.out.below hb.out P11.out.lt)
  clear hb Hec
  go_wp2
  go_ret
  exact ⟨rfl, K.out⟩

end Go.Proofs.YtijcnabhpneaiaaDoor
