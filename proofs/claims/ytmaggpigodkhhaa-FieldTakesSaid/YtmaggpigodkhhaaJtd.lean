/- Package field: takeDyad, walked. -/
import Derived.Test.YtmaggpigodkhhaaJtake
namespace Go.Proofs.Ytmaggpigodkhhaa
open Go.RowKit

theorem dE_short {ys : List Nat} (h : ys.length < 4 ∨ ys.length < 4 + 4 * cntOf ys) : (40 : Int) = dE ys := by unfold dE; rw [if_pos h]
theorem lim_lt {xs : List Nat} {p : Nat} (h : ∀ x ∈ xs, x < 256) (j : Nat) : limOf (xs.drop p) j < 4294967296 := lof_lt (fun x hx => h x (List.mem_of_mem_drop (List.mem_of_mem_drop hx))) j
theorem exp_eq (xs : List Nat) (p : Nat) : bn ((xs.drop (p + 1)).take 2) = expOf (xs.drop p) := by unfold expOf; rw [List.drop_drop]
theorem sg_eq {xs : List Nat} {p : Nat} (h : p < xs.length) : bn ((xs.drop p).take 1) = sgOf (xs.drop p) := by
  rw [bn_one h]
  unfold sgOf
  rw [getD_drop]
  rfl
theorem cnt_eq {xs : List Nat} {p : Nat} (h : p + 3 < xs.length) : bn ((xs.drop (p + 1 + 2)).take 1) = cntOf (xs.drop p) := by
  rw [bn_one (by omega)]
  unfold cntOf
  rw [getD_drop]
theorem getD_lt {xs : List Nat} (h : ∀ x ∈ xs, x < 256) (j : Nat) : xs.getD j 0 < 256 := by
  rw [List.getD_eq_getElem?_getD]
  cases hx : xs[j]? with
  | none => show 0 < 256; omega
  | some x => exact h x (List.mem_of_getElem? hx)

set_option maxHeartbeats 12800000 in
theorem takeDyad_any {w : World} {B g n c p : Nat} {A : Option Addr} {xs : List Nat} (hq : Rbox w 64 g A n c (p : Int)) (hby : By w B A n c xs) (hB : B ≤ g) (hp : p ≤ n) :
    Calls Try.prog 34 #[.func (.func 32) #[.pointer (some ⟨g, 0, none⟩)] #[]] w (TRes w g A n c p (xs.drop p)) := by
  obtain ⟨W, hW⟩ : ∃ W, W = w.alloc (.cells #[.bool false, .slice none 0 0, .int .i64 0] 26) := ⟨_, rfl⟩
  have Z0 : Hid (Dbox W w.heap.size false (.slice none 0 0) 0) := hid (hW ▸ heap_alloc_new w _)
  have B0 : Hid (Below w.heap.size w W) := hid (hW ▸ (Below.refl w.heap.size w).alloc (Nat.le_refl _) _)
  have hWs : W.heap.size = w.heap.size + 1 := by rw [hW]; simp
  have HWs := hid hWs
  have HW := hid hW
  have HX := hid hby
  have hlt := hq.lt
  have Q0 := hid (hq.below B0.out hlt)
  have G0 := hid (gbelow (grefl w g) B0.out (Nat.le_refl _))
  have hlen := hby.len
  have hmax := hby.max
  have HL : Hid ((xs.drop p).length = n - p) := hid (by rw [List.length_drop, hlen])
  have HB := hid hB
  have HBY := hid (fun (w' : World) (h : w.grownBy w' (some g)) => hby.below ((below_of_grown h (by omega)).mono hB))
  clear hq hby hW hWs hB
  go_enter Try.func34, Try.ntmps34
  go_upto_region 1 with fail
  rw [← HW.out]
  go_wp2
  refine wp_scope_once 0 rfl ?_
  go_wp2_with fail
  by_cases h1 : n < p + 1
  · refine (next_short Q0.out h1 hp (by omega) hmax).mono ?_
    rintro e w1 ⟨rfl, R1, hg1⟩
    have Z1 := hid (Z0.out.grown hg1.out (by omega))
    have f0 := Z1.out.frozen 0
    have z0 := Z1.out.c0
    have f1 := Z1.out.frozen 1
    have z1 := Z1.out.c1
    have f2 := Z1.out.frozen 2
    have z2 := Z1.out.c2
    go_wp2
    go_step3
    refine ⟨rfl, ?_⟩
    show Code.wp _ _ _ _ _
    go_wp2
    refine ret_dyad rfl rfl rfl rfl (Z1.out.store (t := false) (u := .slice none 0 0) (y := 0)) ?_
    exact TRes.bad (dE_short (.inl (by rw [HL.out]; omega))) (by omega) (below_put3 (below_of_grown (gthen G0.out hg1.out) (by omega)) (by omega))
  · refine (next_any (z := 1) Q0.out (HBY.out _ G0.out) HB.out (by omega) (by omega)).mono ?_
    rintro e w1 ⟨rfl, R1, hg1⟩
    have Z1 := hid (Z0.out.grown hg1.out (by omega))
    have G1 := hid (gthen G0.out hg1.out)
    clear hg1
    have hs1 := sg_eq (xs := xs) (p := p) (by omega)
    rw [hs1]
    have hsl : sgOf (xs.drop p) < 256 := getD_lt (fun x hx => HX.out.lt x (List.mem_of_mem_drop hx)) 0
    obtain ⟨sg, hsg⟩ : ∃ sg, sg = sgOf (xs.drop p) := ⟨_, rfl⟩
    rw [← hsg] at hsl ⊢
    have Hsg := hid hsg
    clear hsg hs1
    go_wp2_with fail
    by_cases h2 : n < p + 1 + 2
    · refine (next_short R1.out h2 (by omega) (by omega) hmax).mono ?_
      rintro e w2 ⟨rfl, R2, hg2⟩
      have Z2 := hid (Z1.out.grown hg2.out (by omega))
      have f0 := Z2.out.frozen 0
      have z0 := Z2.out.c0
      have f1 := Z2.out.frozen 1
      have z1 := Z2.out.c1
      have f2 := Z2.out.frozen 2
      have z2 := Z2.out.c2
      go_wp2
      go_step3
      refine ⟨rfl, ?_⟩
      show Code.wp _ _ _ _ _
      go_wp2
      refine ret_dyad rfl rfl rfl rfl (Z2.out.store (t := false) (u := .slice none 0 0) (y := 0)) ?_
      exact TRes.bad (dE_short (.inl (by rw [HL.out]; omega))) (by omega) (below_put3 (below_of_grown (gthen G1.out hg2.out) (by omega)) (by omega))
    · refine (next_any (z := 2) R1.out (HBY.out _ G1.out) HB.out (by omega) (by omega)).mono ?_
      rintro e w2 ⟨rfl, R2, hg2⟩
      have Z2 := hid (Z1.out.grown hg2.out (by omega))
      have G2 := hid (gthen G1.out hg2.out)
      clear hg2
      rw [exp_eq]
      have hxl : expOf (xs.drop p) < 65536 := Nat.lt_of_lt_of_le (bn_lt (fun x hx => take_mem (fun y hy => HX.out.lt y (List.mem_of_mem_drop hy)) hx)) (Nat.le_trans (Nat.pow_le_pow_right (by omega) (by rw [List.length_take]; exact Nat.min_le_left _ _)) (by decide))
      obtain ⟨xp, hxp⟩ : ∃ xp, xp = expOf (xs.drop p) := ⟨_, rfl⟩
      rw [← hxp] at hxl ⊢
      have Hxp := hid hxp
      clear hxp
      go_wp2_with fail
      by_cases h3 : n < p + 1 + 2 + 1
      · refine (next_short R2.out h3 (by omega) (by omega) hmax).mono ?_
        rintro e w3 ⟨rfl, R3, hg3⟩
        have Z3 := hid (Z2.out.grown hg3.out (by omega))
        have f0 := Z3.out.frozen 0
        have z0 := Z3.out.c0
        have f1 := Z3.out.frozen 1
        have z1 := Z3.out.c1
        have f2 := Z3.out.frozen 2
        have z2 := Z3.out.c2
        go_wp2
        go_step3
        refine ⟨rfl, ?_⟩
        show Code.wp _ _ _ _ _
        go_wp2
        refine ret_dyad rfl rfl rfl rfl (Z3.out.store (t := false) (u := .slice none 0 0) (y := 0)) ?_
        exact TRes.bad (dE_short (.inl (by rw [HL.out]; omega))) (by omega) (below_put3 (below_of_grown (gthen G2.out hg3.out) (by omega)) (by omega))
      · refine (next_any (z := 1) R2.out (HBY.out _ G2.out) HB.out (by omega) (by omega)).mono ?_
        rintro e w3 ⟨rfl, R3, hg3⟩
        have Z3 := hid (Z2.out.grown hg3.out (by omega))
        have G3 := hid (gthen G2.out hg3.out)
        clear hg3
        rw [cnt_eq (by omega)]
        have hcl : cntOf (xs.drop p) < 256 := getD_lt (fun x hx => HX.out.lt x (List.mem_of_mem_drop hx)) 3
        have HF : Hid (∀ j, limOf (xs.drop p) j < 4294967296) := hid (lim_lt HX.out.lt)
        have HN := hid (fun k (h : k < cntOf (xs.drop p)) => limOf_succ (xs := xs) (p := p) (k := k) h)
        obtain ⟨cn, hcn⟩ : ∃ cn, cn = cntOf (xs.drop p) := ⟨_, rfl⟩
        rw [← hcn] at hcl HN ⊢
        have Hcn := hid hcn
        obtain ⟨lf, hlf⟩ : ∃ lf, lf = limOf (xs.drop p) := ⟨_, rfl⟩
        rw [← hlf] at HF HN
        have Hlf := hid hlf
        have Hout : Hid (∀ j, cn ≤ j → lf j = 0) := hid (fun j hj => by rw [hlf]; exact lof_out (by rw [← hcn]; exact hj))
        have GS := G3.out.size
        clear hcn hlf
        go_wp2_with fail
        go_loopw [7, 8, 9, 32] (fun lv sl ov i wr => ∃ k V : Nat, k ≤ cn ∧ lv = .int .u64 (V : Int) ∧ ov = .bool true ∧ i = .int .u64 k ∧ Hid (Lgr wr (w.heap.size + 1) lf k sl) ∧ Hid (Dbox wr w.heap.size false (.slice none 0 0) 0) ∧ Hid (Rbox wr 64 g A n c ((p + 4 + 4 * k : Nat) : Int)) ∧ Hid (w.grownBy wr (some g)) ∧ Hid (w.heap.size + 1 ≤ wr.heap.size) ∧ Hid (p + 4 + 4 * k ≤ n)) (fun _ _ _ i _ => cn - (intOf i).toNat)
        case atStart => exact ⟨0, 0, by omega, rfl, rfl, rfl, Lgr.nil _ _ _, Z3, R3, G3, hid (by have := lt_of_heap Z3.out; omega), hid (by omega)⟩
        case round =>
          obtain ⟨k, V, hk, rfl, rfl, rfl, hL, hZ, hR, hG, hsz, hpn⟩ := hrel
          by_cases hcon : k < cn
          · go_wp2_with fail
            by_cases h4 : n < p + 4 + 4 * k + 4
            · refine (next_short hR.out h4 hpn.out (by omega) hmax).mono ?_
              rintro e w4 ⟨rfl, R4, hg4⟩
              have Z4 := hid (hZ.out.grown hg4.out (by omega))
              have f0 := Z4.out.frozen 0
              have z0 := Z4.out.c0
              have f1 := Z4.out.frozen 1
              have z1 := Z4.out.c1
              have f2 := Z4.out.frozen 2
              have z2 := Z4.out.c2
              have HE : Hid ((40 : Int) = dE (xs.drop p)) := hid (dE_short (.inr (by rw [HL.out, ← Hcn.out]; omega)))
              go_wp2
              go_step3
              refine ⟨rfl, ?_⟩
              show Code.wp _ _ _ _ _
              go_wp2
              refine ret_dyad rfl rfl rfl rfl (Z4.out.store (t := false) (u := .slice none 0 0) (y := 0)) ?_
              exact TRes.bad HE.out (by omega) (below_put3 (below_of_grown (gthen hG.out hg4.out) (by omega)) (by omega))
            · refine (next_any (z := 4) hR.out (HBY.out _ hG.out) HB.out (by omega) (by omega)).mono ?_
              rintro e w4 ⟨rfl, R4, hg4⟩
              have Z4 := hid (hZ.out.grown hg4.out (by omega))
              have G4 := hid (gthen hG.out hg4.out)
              have L4 := hid (hL.out.grown hg4.out (by omega))
              have sz4 := hg4.out.size
              have hsz5 := hsz.out
              clear hg4
              rw [HN.out k hcon]
              have hU := HF.out k
              obtain ⟨U, hUk⟩ : ∃ U, U = lf k := ⟨_, rfl⟩
              rw [← hUk] at hU ⊢
              have HU := hid hUk
              clear hUk
              go_wp2_with (at_builtin; refine app_limb rfl (.tmp 41) (.tmp 44) 24 rfl 50 (.int .u32 0) 4 Try.underlying24 info_u32 rfl (by decide) rfl rfl L4.out (by omega) rfl (by omega) ?_; intro v5 w5 hown5 hb5)
              go_roundw
              case rel =>
                refine ⟨k + 1, U, by omega, rfl, rfl, by go_num, hid ?_, hid (Z4.out.below hb5.out (by omega)), hid (by have h := R4.out.below hb5.out (by omega); exact h), hid (gbelow G4.out hb5.out (by omega)), hid (by have := hb5.out.size; omega), hid (by omega)⟩
                unfold Lgr
                rw [List.range_succ, List.map_append]
                have h := hown5.out
                rw [HU.out] at h
                exact h
              case measure => simp [intOf]; omega
          · obtain rfl : k = cn := by omega
            obtain ⟨A5, c5, rfl, M5⟩ := mk_of_row hL.out (by omega) HF.out Hout.out
            have HM5 := hid M5
            have Hsz := hid (show g < wr.heap.size by have := hsz.out; omega)
            have CF := hid (formed_any (x := (xp : Int)) HM5.out.rd hsl)
            clear M5 hL
            go_wp2_with fail
            refine CF.out.mono ?_
            rintro e w6 ⟨hb6, h6⟩
            have Z6 := hid (hZ.out.below hb6.out hZ.out.lt)
            have M6 := hid (HM5.out.below hb6.out (Nat.le_refl _))
            have R6 := hid (hR.out.below hb6.out Hsz.out)
            have G6 := hid (gbelow hG.out hb6.out (by have := hsz.out; omega))
            have f0 := Z6.out.frozen 0
            have f1 := Z6.out.frozen 1
            have f2 := Z6.out.frozen 2
            have z0 := Z6.out.c0
            have z1 := Z6.out.c1
            have z2 := Z6.out.c2
            clear CF hb6 hZ HM5 hR hG Hsz hsz
            have HLen : Hid (¬ ((xs.drop p).length < 4 ∨ (xs.drop p).length < 4 + 4 * cntOf (xs.drop p))) := hid (by rw [HL.out, ← Hcn.out]; have := hpn.out; omega)
            rcases h6 with ⟨hs6, hm6, rfl⟩ | ⟨hm6, rfl⟩
            · have HE : Hid ((0 : Int) = dE (xs.drop p)) := hid (by unfold dE; rw [if_neg HLen.out, if_pos (by rw [← Hsg.out, ← Hcn.out, ← Hlf.out, ← Hxp.out]; exact ⟨hs6, hm6⟩)])
              clear hs6 hm6
              obtain ⟨sb, hsb⟩ : ∃ sb, sb = decide (sg = 1) := ⟨_, rfl⟩
              rw [← hsb]
              have Hsb := hid hsb
              clear hsb
              go_wp2
              refine ret_dyad rfl rfl rfl rfl (Z6.out.store (t := sb) (u := .slice A5 k c5) (y := (xp : Int))) ?_
              refine ⟨sb, A5, k, c5, _, 0, lf, rfl, HE, hid ((M6.out.put3 (by omega)).mono (by omega)), hid (fun _ => ⟨by rw [Hsb.out, Hsg.out], Hcn.out, Hlf.out, by rw [Hxp.out]⟩), fun h => absurd rfl h, fun _ => ?_, below_put3 (below_of_grown G6.out (by omega)) (by omega)⟩
              rw [← Hcn.out, ← Nat.add_assoc]
              exact ((R6.out.far (k := w.heap.size) (by omega) 0 _).far (k := w.heap.size) (by omega) 1 _).far (k := w.heap.size) (by omega) 2 _
            · have HE : Hid ((41 : Int) = dE (xs.drop p)) := hid (by unfold dE; rw [if_neg HLen.out, if_neg (by rw [← Hsg.out, ← Hcn.out, ← Hlf.out, ← Hxp.out]; exact hm6)])
              clear hm6
              go_wp2
              refine ret_dyad rfl rfl rfl rfl (Z6.out.store (t := false) (u := .slice none 0 0) (y := 0)) ?_
              exact TRes.bad HE.out (by omega) (below_put3 (below_of_grown G6.out (by omega)) (by omega))

end Go.Proofs.Ytmaggpigodkhhaa
