/- Flight, the program: turned, where a load is left, or comes down. -/
import Derived.Test.YtdcolnipdipkhaaZpi
namespace Go.Proofs.Ytdcolnipdipkhaa.Fli
set_option maxRecDepth 100000
open Go.RowKit Go.Shelf Go.Lib

theorem Lrd.zero (w : World) (B : Nat) : Lrd w B (0, 0, 0, D0) p0 := ⟨rfl, rfl, rfl, rfl, fun _ _ => Rd.nil w B, fun _ _ _ => ⟨rfl, rfl⟩⟩
/-- As gput_row, for an operation that is ready. -/
theorem gput_rowH {P : Program} {o : Oper} {a : Act} {w : World} {K : Act → World → Prop} {Q : Exit → Act → World → Prop} (ty : TypeId) (x y : Operand) (ho : o.op = .store ty x y)
    (g : Nat) (t : TypeId) (old cs : Array Value) (hx : a.eval x = .pointer (some ⟨g, 0, none⟩)) (hy : a.eval y = .agg cs) (hg : w.heap[g]? = some (.cells old t (0, 0))) (hs : old.size = cs.size) (hi : (P.info? ty).map (·.size) = some cs.size) (h1 : cs.all (·.oneCell') = true)
    (h : ∀ w', w'.heap[g]? = some (.cells cs t (0, 0)) → Gq g w w' → K (a.put o.dst undef) w') : o.wp P a w K Q := by
  refine wp_store_mid ty x y ho g 0 cs hx hy (fun j hj => ?_) hi h1 (h _ ?_ (Gq.set g cs.toList 0 w))
  · rw [Nat.zero_add]
    refine ⟨?_, frozen_of_row w g j _ _ hg⟩
    rw [cell_of_row w g j _ _ (0, 0) hg]
    have : j < old.size := by omega
    simp [this]
  · obtain ⟨cs', e1, e2, e3⟩ := gheap_setCells g _ cs.toList 0 w _ hg
    have e : cs' = cs := by
      apply Array.ext_getElem?
      intro j
      by_cases hj : j < cs.size
      · rw [e3 j (by omega), if_pos ⟨Nat.zero_le _, by simpa using hj⟩, Nat.sub_zero, Array.getElem?_toList]
      · rw [Array.getElem?_eq_none (by omega), Array.getElem?_eq_none (by omega)]
    rw [e] at e1
    exact e1
set_option maxHeartbeats 6400000 in
theorem turned_mid {w : World} {B a c : Nat} {A : Option Addr} {l : List (Ld Pm)} {n : Int} (h : Lls w B A a c l) (hB : B ≤ w.heap.size) {p d : Ld Pm} {o L : List (Ld Pm)} {f : Nat} (ls : Lr → List Lr) (dn : Lr → Lr) (h0 : askE l n = 0) (hf : fnd n l = some p)
    (hz : SzL L) (hd : SzM d.2.2.2) (hL : ∀ i, l[i]? = some p → l.take i ++ (o ++ l.drop (i + 1)) = L)
    (hbc : ∀ (X : World) (r : Lr), Lrd X B r p → Calls Try.prog 48 #[.agg (lcells r.1 r.2.1 r.2.2.1 r.2.2.2), .int .u8 (f : Int)] X (BecR X (ls r) (dn r).1 (dn r).2.1 (dn r).2.2.1 (dn r).2.2.2 0))
    (hpr : ∀ (X : World) (r : Lr), Lrd X B r p → PairL X B (ls r) o ∧ Lrd X B (dn r) d) :
    Calls Try.prog 34 #[.slice A a c, .int .i64 n, .int .u8 (f : Int)] w (TurnR w L d 0) := by
  obtain ⟨W, hW⟩ : ∃ W, W = w.alloc (.cells (lcells 0 0 0 D0) 40) := ⟨_, rfl⟩
  have B0 := hid (show Below w.heap.size w W from hW ▸ (Below.refl _ w).alloc (Nat.le_refl _) _)
  have Y0 := hid (show Lbx W w.heap.size 0 0 0 D0 from hW ▸ Lbx.new w 0 0 0 D0)
  have HN := hid (numbers_any ((h.mono hB).below B0.out) B0.out.size)
  have HQ := hid (fun (X : World) (hX : Below W.heap.size W X) (g3 g1 : Nat) h3 h1 => numbers1_any (w := X) (g3 := g3) (g1 := g1) (((h.mono hB).below B0.out).below (hX.mono B0.out.size)) (Nat.le_trans B0.out.size hX.size) h3 h1 n)
  have hm := h.max
  have hcap := h.cap
  have HL := hid h.len
  have HW := hid hW
  unfold NumR at HQ
  rw [h0] at HQ
  have HF := hid hf
  have HK := hid h
  clear hW h h0 hf
  have HBC := hid hbc
  have HPR := hid hpr
  have HLi := hid hL
  have HZL := hid hz
  have HZd := hid hd
  clear hbc hpr hL hz hd
  go_enter Try.func34, Try.ntmps34
  go_upto_region 1 with fail
  have hW2 : (w.alloc (.cells #[.int .i64 0, .int .i64 0, .int .i64 0, .bool false, .slice none 0 0, .int .i64 0, .bool false, .slice none 0 0, .int .i64 0, .bool false, .slice none 0 0, .int .i64 0, .bool false, .slice none 0 0, .int .i64 0] 40)) = W := HW.out.symm
  rw [hW2]
  clear hW2
  go_wp2_with fail
  refine HN.out.mono ?_
  rintro e w1 ⟨g3, g1, rfl, H1⟩
  have HC := hid (HQ.out w1 H1.out.2.2 g3 g1 H1.out.1 H1.out.2.1)
  go_wp2_with fail
  refine HC.out.mono ?_
  rintro e w2 ⟨i, t, rfl, H2⟩
  have B2 := hid (gbelow_on (gbelow_on B0.out (Nat.le_refl _) H1.out.2.2) (Nat.le_refl _) H2.out.2)
  have Y2 := hid ((Y0.out.below H1.out.2.2 Y0.out.lt).below H2.out.2 (Nat.lt_of_lt_of_le Y0.out.lt H1.out.2.2.size))
  obtain ⟨rfl, hi, HI⟩ : t = true ∧ i < a ∧ Hid (l[i]? = some p ∧ fnd n l = some p) := by
    rcases H2.out.1 (by trivial) with ⟨h1, h2, q, hq1, hq2⟩ | ⟨_, h2⟩
    · rw [HF.out] at hq2
      injection hq2 with hq2
      subst hq2
      exact ⟨h1, by rw [← HL.out]; exact h2, hid ⟨hq1, HF.out⟩⟩
    · rw [HF.out] at h2; cases h2
  have hilt : (i : Int) < (a : Int) := by omega
  obtain ⟨b, off, r, q, rfl, hb, hp, hr, hc⟩ := (HK.out.below (B2.out.mono hB)).get hi
  obtain rfl : q = p := by
    have := HI.out.1
    rw [hp] at this
    injection this
  obtain ⟨x, y, z, M⟩ := r
  have hx := hid (show w2.rangeAt b (off + i * 15) (lcells x y z M).toList from fun t v hv => by rw [Nat.add_assoc]; exact hc t v hv)
  have HR := hid (HBC.out w2 (x, y, z, M) hr)
  have HP3 := hid (HPR.out w2 (x, y, z, M) hr)
  have HLe := hid (HLi.out i HI.out.1)
  clear HBC HPR HLi
  generalize ls (x, y, z, M) = lr at HR HP3
  generalize dn (x, y, z, M) = dr at HR HP3
  obtain ⟨x', y', z', M'⟩ := dr
  clear hr hc hp
  go_wp2_with (first | (refine wp_lload rfl (.tmp 32) rfl b (off + i * 15) x y z M rfl hx.out ?_) | fail)
  refine HR.out.mono ?_
  rintro e w3 ⟨A3, n3, c3, rfl, H3⟩
  have B3 := hid (gbelow_on B2.out (Nat.le_refl _) H3.out.2.1)
  have Y3 := hid (Y2.out.below H3.out.2.1 Y2.out.lt)
  have P3 := hid (HP3.out.1.below (H3.out.2.1.mono (Nat.le_trans hB B2.out.size)))
  have G3 := hid (And.intro H3.out.1 (fun a (ha : A3 = some a) => show a.block ≠ w.heap.size by have := H3.out.2.2 a ha; have := Y2.out.lt; omega))
  have D3 := hid (show Lrd w3 B (x', y', z', M') d from HP3.out.2.below (H3.out.2.1.mono (Nat.le_trans hB B2.out.size)))
  clear H3 HP3
  go_wp2_with (first
    | (refine gput_row (P := Try.prog) rfl _ (.tmp 7) (.tmp 37) rfl w.heap.size 40 _ (lcells x' y' z' M') rfl rfl Y3.out rfl (loadSize x' y' z' M') (lcells_one x' y' z' M') ?_
       intro w4 x4 q4
       have B4 := hid (q4.bel B3.out (Nat.le_refl _))
       have X4 := hid (show Lbx w4 w.heap.size x' y' z' M' from x4)
       have O4 := hid (show Lls w4 w4.heap.size A3 n3 c3 o from ⟨lr, (Gs.gq G3.out.1 q4 G3.out.2).mono (Nat.le_of_eq q4.size), (PairL.gq P3.out hB q4).mono (Nat.le_trans hB B4.out.size)⟩)
       have D4 := hid (D3.out.below ⟨q4.os, q4.tape, q4.output, Nat.le_of_eq q4.size, fun b hb => q4.block b (by omega)⟩)
       have K4 := hid (HK.out.below (B4.out.mono hB))
       clear x4 q4)
    | fail)
  have BX := hid (Below.refl w4.heap.size w4).drew
  have HXV := hid (X4.out.below BX.out X4.out.lt)
  have hS4 := B4.out.size
  have HWR := hid (show Value.int .i64 (IntKind.i64.wrap ((i : Int) + 1)) = .int .i64 ((i + 1 : Nat) : Int) from congrArg _ (by rw [IntKind.wrap_i64]; omega))
  have CW := hid (fun (X : World) (hX : Below w4.heap.size w4 X) => by
    have := with_any (w := X) (low := i) (high := i + 1) ((K4.out.mono (Nat.le_trans hB hS4)).below hX) (O4.out.below hX) hX.size (by omega) (by omega) (by rw [HLe.out]; exact HZL.out)
    rw [HLe.out, ← HWR.out] at this
    exact this)
  have CT := hid (fun (X : World) (hX : Below w4.heap.size w4 X) => twin1_any (w := X) (D4.out.below (hX.mono (Nat.le_trans hB hS4))) (Nat.le_trans (Nat.le_trans hB hS4) hX.size) HZd.out)
  clear O4 D4 K4 G3 P3 HLe Y2 Y3 HI HL HR H1 HC H2 hx
  go_upto_region 9 with fail
  have mixed : Try.prog.follows .mixedOrders = true := by kernel_rfl
  refine wp_region_held_drew (S := fun _ => True) (by kernel_rfl) trivial (fun hHeld => ?_)
  generalize w4.drew = V at *
  refine wpAnyH_take (i := 0) (v := ?vm1) rfl (by kernel_rfl) (by kernel_rfl) (by kernel_rfl) (fun _ _ _ h => h) (Or.inl ⟨by rfl, ?ym1⟩) (by assumption) ?rm1
  case ym1 => (intro w0 hSw; (try dsimp only at hSw); (try simp only [List.getElem_toArray, List.getElem_cons_zero]); go_simp; try with_reducible rfl)
  (try simp only [Act.put, List.setIfInBounds_toArray, List.set_cons_zero, List.set_cons_succ, List.getElem_toArray, List.getElem_cons_zero])
  refine wpAnyH_take (i := 1) (v := ?vm2) rfl (by kernel_rfl) (by kernel_rfl) (by kernel_rfl) (fun _ _ _ h => h) (Or.inl ⟨by rfl, ?ym2⟩) (by assumption) ?rm2
  case ym2 => (intro w0 hSw; (try dsimp only at hSw); (try simp only [List.getElem_toArray, List.getElem_cons_succ, List.getElem_cons_zero]); go_simp; try with_reducible rfl)
  (try simp only [Act.put, List.setIfInBounds_toArray, List.set_cons_zero, List.set_cons_succ, List.getElem_toArray, List.getElem_cons_succ, List.getElem_cons_zero])
  refine wpAnyH_take (i := 2) (v := ?vm3) rfl (by kernel_rfl) (by kernel_rfl) (by kernel_rfl) (fun _ _ _ h => h) (Or.inl ⟨by rfl, ?ym3⟩) (by assumption) ?rm3
  case ym3 => (intro w0 hSw; (try dsimp only at hSw); (try simp only [List.getElem_toArray, List.getElem_cons_succ, List.getElem_cons_zero]); go_simp; try with_reducible rfl)
  (try simp only [Act.put, List.setIfInBounds_toArray, List.set_cons_zero, List.set_cons_succ, List.getElem_toArray, List.getElem_cons_succ, List.getElem_cons_zero])
  refine wpAnyH_take (i := 3) (v := ?vm4) rfl (by kernel_rfl) (by kernel_rfl) (by kernel_rfl) (fun _ _ _ h => h) (Or.inl ⟨by rfl, ?ym4⟩) (by assumption) ?rm4
  case ym4 => (intro w0 hSw; (try dsimp only at hSw); (try simp only [List.getElem_toArray, List.getElem_cons_succ, List.getElem_cons_zero]); go_simp; try with_reducible rfl)
  (try simp only [Act.put, List.setIfInBounds_toArray, List.set_cons_zero, List.set_cons_succ, List.getElem_toArray, List.getElem_cons_succ, List.getElem_cons_zero])
  refine wpAnyH_take (i := 4) (v := ?vm5) rfl (by kernel_rfl) (by kernel_rfl) (by kernel_rfl) (fun _ _ _ h => h) (Or.inl ⟨by rfl, ?ym5⟩) (by assumption) ?rm5
  case ym5 => (intro w0 hSw; (try dsimp only at hSw); (try simp only [List.getElem_toArray, List.getElem_cons_succ, List.getElem_cons_zero]); go_simp; try with_reducible rfl)
  (try simp only [Act.put, List.setIfInBounds_toArray, List.set_cons_zero, List.set_cons_succ, List.getElem_toArray, List.getElem_cons_succ, List.getElem_cons_zero])
  refine wpAnyH_ready (rs := [5, 6]) (by kernel_rfl) (by simp) ?_
  refine AllReadyH.cons rfl (fun K' hK => ?_) (AllReadyH.cons rfl (fun K' hK => ?_) AllReadyH.nil)
  · (try simp only [Act.put, List.setIfInBounds_toArray, List.set_cons_zero, List.set_cons_succ, List.getElem_toArray, List.getElem_cons_succ, List.getElem_cons_zero])
    go_simp
    refine (CW.out _ BX.out).mono ?_
    rintro e w5 ⟨v, rs, rfl, H5⟩
    have B5 := hid (BX.out.trans (H5.out.2.mono BX.out.size))
    have CT5 := hid (CT.out _ B5.out)
    have HX5 := hid (X4.out.below B5.out X4.out.lt)
    try dsimp only
    refine hK.out _ _ trivial (fun hHeld => ?_)
    clear hK K'
    (try simp only [Act.put, List.setIfInBounds_toArray, List.set_cons_zero, List.set_cons_succ, List.getElem_toArray, List.getElem_cons_succ, List.getElem_cons_zero])
    refine wpAnyH_ready (rs := [6]) (by kernel_rfl) (by simp) ?_
    refine AllReadyH.cons rfl (fun K' hK => ?_) AllReadyH.nil
    (try simp only [Act.put, List.getElem_toArray, List.getElem_cons_succ, List.getElem_cons_zero])
    refine wp_load_mid _ (.tmp 7) rfl w.heap.size 0 rfl (lcells x' y' z' M').toList _ (lbx_row HX5.out) Try.underlying40 rfl (load_size_ x' y' z' M') ?_
    try dsimp only
    refine hK.out _ _ (trivial) (fun hHeld => ?_)
    clear hK K'
    (try simp only [Act.put])
    refine wpAnyH_ready (rs := [7]) (by kernel_rfl) (by simp) ?_
    refine AllReadyH.cons rfl (fun K' hK => ?_) AllReadyH.nil
    (try simp only [Act.put, List.setIfInBounds_toArray, List.set_cons_zero, List.set_cons_succ, List.getElem_toArray, List.getElem_cons_succ, List.getElem_cons_zero])
    go_simp
    refine CT5.out.mono ?_
    rintro e w6 ⟨⟨x7, y7, z7, M7⟩, rfl, H6⟩
    have HX6 := hid (HX5.out.below H6.out.2 HX5.out.lt)
    try dsimp only
    refine hK.out _ _ (trivial) (fun hHeld => ?_)
    clear hK K'
    (try simp only [Act.put, List.setIfInBounds_toArray, List.set_cons_zero, List.set_cons_succ, List.getElem_toArray, List.getElem_cons_succ, List.getElem_cons_zero])
    refine wpAnyH_take (i := 8) (v := ?va1) rfl (by kernel_rfl) (by kernel_rfl) (by kernel_rfl) (fun _ _ _ h => h) (Or.inl ⟨by rfl, ?ya1⟩) (by assumption) ?ra1
    case ya1 => (intro w0 hSw; (try dsimp only at hSw); (try simp only [List.getElem_toArray, List.getElem_cons_succ, List.getElem_cons_zero]); go_simp; try with_reducible rfl)
    (try simp only [Act.put, List.setIfInBounds_toArray, List.set_cons_zero, List.set_cons_succ, List.getElem_toArray, List.getElem_cons_succ, List.getElem_cons_zero])
    refine wpAnyH_ready (rs := [9]) (by kernel_rfl) (by simp) ?_
    refine AllReadyH.cons rfl (fun K' hK => ?_) AllReadyH.nil
    (try simp only [Act.put, List.getElem_toArray, List.getElem_cons_succ, List.getElem_cons_zero])
    refine gput_rowH (P := Try.prog) _ (.tmp 7) (.tmp 50) rfl w.heap.size 40 _ (lcells x7 y7 z7 M7) rfl rfl HX6.out rfl (loadSize x7 y7 z7 M7) (lcells_one x7 y7 z7 M7) ?_
    intro w8 x8 q8
    try dsimp only
    refine hK.out _ _ (trivial) (fun hHeld => ?_)
    clear hK K'
    (try simp only [Act.put])
    refine wpAnyH_take (i := 10) (v := ?va2) rfl (by kernel_rfl) (by kernel_rfl) (by kernel_rfl) (fun _ _ _ h => h) (Or.inl ⟨by rfl, ?ya2⟩) (by assumption) ?ra2
    case ya2 => (intro w0 hSw; (try dsimp only at hSw); (try simp only [List.getElem_toArray, List.getElem_cons_succ, List.getElem_cons_zero]); go_simp; try with_reducible rfl)
    (try simp only [Act.put, List.setIfInBounds_toArray, List.set_cons_zero, List.set_cons_succ, List.getElem_toArray, List.getElem_cons_succ, List.getElem_cons_zero])
    refine wpAnyH_done (by kernel_rfl) ?_ _
    go_wp2
    refine ret_load3 (g := w.heap.size) (x := x7) (y := y7) (z := z7) (M := M7) rfl rfl rfl rfl rfl x8 ?_
    have hlt : w.heap.size < V.heap.size := Nat.lt_of_lt_of_le X4.out.lt BX.out.size
    have hV5 := H5.out.2.size
    refine ⟨v, rs, (x7, y7, z7, M7), w5.heap.size, rfl, hid ⟨((H5.out.1.below H6.out.2).gq q8 hlt).mono (Nat.le_of_lt hlt), q8.bel (gbelow_on (B4.out.trans (B5.out.mono hS4)) (Nat.le_refl _) H6.out.2) (Nat.le_refl _), H6.out.1.gq q8 (by omega), H5.out.1.ahead, by omega⟩⟩
  · (try simp only [Act.put, List.setIfInBounds_toArray, List.set_cons_zero, List.set_cons_succ, List.getElem_toArray, List.getElem_cons_succ, List.getElem_cons_zero])
    refine wp_load_mid _ (.tmp 7) rfl w.heap.size 0 rfl (lcells x' y' z' M').toList _ (lbx_row HXV.out) Try.underlying40 rfl (load_size_ x' y' z' M') ?_
    try dsimp only
    refine hK.out _ _ trivial (fun hHeld => ?_)
    clear hK K'
    (try simp only [Act.put, List.setIfInBounds_toArray, List.set_cons_zero, List.set_cons_succ])
    refine wpAnyH_ready (rs := [5]) (by kernel_rfl) (by simp) ?_
    refine AllReadyH.cons rfl (fun K' hK => ?_) AllReadyH.nil
    (try simp only [Act.put, List.setIfInBounds_toArray, List.set_cons_zero, List.set_cons_succ, List.getElem_toArray, List.getElem_cons_succ, List.getElem_cons_zero])
    go_simp
    refine (CW.out _ BX.out).mono ?_
    rintro e w5 ⟨v, rs, rfl, H5⟩
    have B5 := hid (BX.out.trans (H5.out.2.mono BX.out.size))
    have CT5 := hid (CT.out _ B5.out)
    have HX5 := hid (X4.out.below B5.out X4.out.lt)
    try dsimp only
    refine hK.out _ _ (trivial) (fun hHeld => ?_)
    clear hK K'
    (try simp only [Act.put, List.setIfInBounds_toArray, List.set_cons_zero, List.set_cons_succ, List.getElem_toArray, List.getElem_cons_succ, List.getElem_cons_zero])
    refine wpAnyH_ready (rs := [7]) (by kernel_rfl) (by simp) ?_
    refine AllReadyH.cons rfl (fun K' hK => ?_) AllReadyH.nil
    (try simp only [Act.put, List.setIfInBounds_toArray, List.set_cons_zero, List.set_cons_succ, List.getElem_toArray, List.getElem_cons_succ, List.getElem_cons_zero])
    go_simp
    refine CT5.out.mono ?_
    rintro e w6 ⟨⟨x7, y7, z7, M7⟩, rfl, H6⟩
    have HX6 := hid (HX5.out.below H6.out.2 HX5.out.lt)
    try dsimp only
    refine hK.out _ _ (trivial) (fun hHeld => ?_)
    clear hK K'
    (try simp only [Act.put, List.setIfInBounds_toArray, List.set_cons_zero, List.set_cons_succ, List.getElem_toArray, List.getElem_cons_succ, List.getElem_cons_zero])
    refine wpAnyH_take (i := 8) (v := ?vb1) rfl (by kernel_rfl) (by kernel_rfl) (by kernel_rfl) (fun _ _ _ h => h) (Or.inl ⟨by rfl, ?yb1⟩) (by assumption) ?rb1
    case yb1 => (intro w0 hSw; (try dsimp only at hSw); (try simp only [List.getElem_toArray, List.getElem_cons_succ, List.getElem_cons_zero]); go_simp; try with_reducible rfl)
    (try simp only [Act.put, List.setIfInBounds_toArray, List.set_cons_zero, List.set_cons_succ, List.getElem_toArray, List.getElem_cons_succ, List.getElem_cons_zero])
    refine wpAnyH_ready (rs := [9]) (by kernel_rfl) (by simp) ?_
    refine AllReadyH.cons rfl (fun K' hK => ?_) AllReadyH.nil
    (try simp only [Act.put, List.getElem_toArray, List.getElem_cons_succ, List.getElem_cons_zero])
    refine gput_rowH (P := Try.prog) _ (.tmp 7) (.tmp 50) rfl w.heap.size 40 _ (lcells x7 y7 z7 M7) rfl rfl HX6.out rfl (loadSize x7 y7 z7 M7) (lcells_one x7 y7 z7 M7) ?_
    intro w8 x8 q8
    try dsimp only
    refine hK.out _ _ (trivial) (fun hHeld => ?_)
    clear hK K'
    (try simp only [Act.put])
    refine wpAnyH_take (i := 10) (v := ?vb2) rfl (by kernel_rfl) (by kernel_rfl) (by kernel_rfl) (fun _ _ _ h => h) (Or.inl ⟨by rfl, ?yb2⟩) (by assumption) ?rb2
    case yb2 => (intro w0 hSw; (try dsimp only at hSw); (try simp only [List.getElem_toArray, List.getElem_cons_succ, List.getElem_cons_zero]); go_simp; try with_reducible rfl)
    (try simp only [Act.put, List.setIfInBounds_toArray, List.set_cons_zero, List.set_cons_succ, List.getElem_toArray, List.getElem_cons_succ, List.getElem_cons_zero])
    refine wpAnyH_done (by kernel_rfl) ?_ _
    go_wp2
    refine ret_load3 (g := w.heap.size) (x := x7) (y := y7) (z := z7) (M := M7) rfl rfl rfl rfl rfl x8 ?_
    have hlt : w.heap.size < V.heap.size := Nat.lt_of_lt_of_le X4.out.lt BX.out.size
    have hV5 := H5.out.2.size
    refine ⟨v, rs, (x7, y7, z7, M7), w5.heap.size, rfl, hid ⟨((H5.out.1.below H6.out.2).gq q8 hlt).mono (Nat.le_of_lt hlt), q8.bel (gbelow_on (B4.out.trans (B5.out.mono hS4)) (Nat.le_refl _) H6.out.2) (Nat.le_refl _), H6.out.1.gq q8 (by omega), H5.out.1.ahead, by omega⟩⟩
end Go.Proofs.Ytdcolnipdipkhaa.Fli
