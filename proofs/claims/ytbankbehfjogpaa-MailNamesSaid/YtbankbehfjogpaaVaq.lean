/- Package field: takeDyad, walked. -/
/- Package field: Dyad. -/
/- Package field: what is taken, and of which bytes: dyads. -/
import Derived.Test.YtbankbehfjogpaaVap

namespace Go.Proofs.Ytbankbehfjogpaa
set_option maxRecDepth 100000
open Go.RowKit

theorem dE_short {ys : List Nat} (h : ys.length < 4 ∨ ys.length < 4 + 4 * cntOf ys) : (40 : Int) = dE ys := by unfold dE; rw [if_pos h]
theorem lim_lt {xs : List Nat} {p : Nat} (h : ∀ x ∈ xs, x < 256) (j : Nat) : limOf (xs.drop p) j < 4294967296 := lof_lt (fun x hx => h x (List.mem_of_mem_drop (List.mem_of_mem_drop hx))) j
theorem exp_eq (xs : List Nat) (p : Nat) : bn ((xs.drop (p + 1)).take 2) = expOf (xs.drop p) := by unfold expOf; rw [List.drop_drop]
theorem sg_eq {xs : List Nat} {p : Nat} (h : p < xs.length) : bn ((xs.drop p).take 1) = sgOf (xs.drop p) := by
  rw [bn_one h]
  unfold sgOf
  rw [getD_drop]
  rfl
theorem cnt_eq {xs : List Nat} {p : Nat} (h : p + 3 < xs.length) : bn ((xs.drop (p + 1 + 2)).take 1) = cntOf (xs.drop p) := by
  rw [bn_one (by omega)]
  unfold cntOf
  rw [getD_drop]
theorem getD_lt {xs : List Nat} (h : ∀ x ∈ xs, x < 256) (j : Nat) : xs.getD j 0 < 256 := by
  rw [List.getD_eq_getElem?_getD]
  cases hx : xs[j]? with
  | none => show 0 < 256; omega
  | some x => exact h x (List.mem_of_getElem? hx)

set_option maxHeartbeats 12800000 in
theorem takeDyad_any {w : World} {B g n c p : Nat} {A : Option Addr} {xs : List Nat} (hq : Rbox w 120 g A n c (p : Int)) (hby : By w B A n c xs) (hB : B ≤ g) (hp : p ≤ n) :
    Calls Try.prog 75 #[.func (.func 74) #[.pointer (some ⟨g, 0, none⟩)] #[]] w (TRes w g A n c p (xs.drop p)) := by
  obtain ⟨W, hW⟩ : ∃ W, W = w.alloc (.cells #[.bool false, .slice none 0 0, .int .i64 0] 24) := ⟨_, rfl⟩
  have Z0 : Hid (Dbox W w.heap.size false (.slice none 0 0) 0) := hid (hW ▸ heap_alloc_new w _)
  have B0 : Hid (Below w.heap.size w W) := hid (hW ▸ (Below.refl w.heap.size w).alloc (Nat.le_refl _) _)
  have hWs : W.heap.size = w.heap.size + 1 := by rw [hW]; simp
  have HWs := hid hWs
  have HW := hid hW
  have HX := hid hby
  have hlt := hq.lt
  have Q0 := hid (hq.below B0.out hlt)
  have G0 := hid (gbelow (jgrefl w g) B0.out (Nat.le_refl _))
  have hlen := hby.len
  have hmax := hby.max
  have HL : Hid ((xs.drop p).length = n - p) := hid (by rw [List.length_drop, hlen])
  have HB := hid hB
  have HBY := hid (fun (w' : World) (h : w.grownBy w' (some g)) => hby.below ((below_of_grown h (by omega)).mono hB))
  clear hq hby hW hWs hB
  go_enter Try.func75, Try.ntmps75
  go_upto_region 1 with fail
  rw [← HW.out]
  go_wp2
  refine wp_scope_once 0 rfl ?_
  go_wp2_with fail
  by_cases h1 : n < p + 1
  · refine (next_short Q0.out h1 hp (by omega) hmax).mono ?_
    rintro e w1 ⟨rfl, R1, hg1⟩
    have Z1 := hid (Z0.out.grown hg1.out (by omega))
    have f0 := Z1.out.frozen 0
    have z0 := Z1.out.c0
    have f1 := Z1.out.frozen 1
    have z1 := Z1.out.c1
    have f2 := Z1.out.frozen 2
    have z2 := Z1.out.c2
    go_wp2
    go_step3
    refine ⟨rfl, ?_⟩
    show Code.wp _ _ _ _ _
    go_wp2
    refine ret_dyad rfl rfl rfl rfl (Z1.out.store (t := false) (u := .slice none 0 0) (y := 0)) ?_
    exact TRes.bad (dE_short (.inl (by rw [HL.out]; omega))) (by omega) (below_put3 (below_of_grown (gthen G0.out hg1.out) (by omega)) (by omega))
  · refine (next_any (z := 1) Q0.out (HBY.out _ G0.out) HB.out (by omega) (by omega)).mono ?_
    rintro e w1 ⟨rfl, R1, hg1⟩
    have Z1 := hid (Z0.out.grown hg1.out (by omega))
    have G1 := hid (gthen G0.out hg1.out)
    clear hg1
    have hs1 := sg_eq (xs := xs) (p := p) (by omega)
    rw [hs1]
    have hsl : sgOf (xs.drop p) < 256 := getD_lt (fun x hx => HX.out.lt x (List.mem_of_mem_drop hx)) 0
    obtain ⟨sg, hsg⟩ : ∃ sg, sg = sgOf (xs.drop p) := ⟨_, rfl⟩
    rw [← hsg] at hsl ⊢
    have Hsg := hid hsg
    clear hsg hs1
    go_wp2_with fail
    by_cases h2 : n < p + 1 + 2
    · refine (next_short R1.out h2 (by omega) (by omega) hmax).mono ?_
      rintro e w2 ⟨rfl, R2, hg2⟩
      have Z2 := hid (Z1.out.grown hg2.out (by omega))
      have f0 := Z2.out.frozen 0
      have z0 := Z2.out.c0
      have f1 := Z2.out.frozen 1
      have z1 := Z2.out.c1
      have f2 := Z2.out.frozen 2
      have z2 := Z2.out.c2
      go_wp2
      go_step3
      refine ⟨rfl, ?_⟩
      show Code.wp _ _ _ _ _
      go_wp2
      refine ret_dyad rfl rfl rfl rfl (Z2.out.store (t := false) (u := .slice none 0 0) (y := 0)) ?_
      exact TRes.bad (dE_short (.inl (by rw [HL.out]; omega))) (by omega) (below_put3 (below_of_grown (gthen G1.out hg2.out) (by omega)) (by omega))
    · refine (next_any (z := 2) R1.out (HBY.out _ G1.out) HB.out (by omega) (by omega)).mono ?_
      rintro e w2 ⟨rfl, R2, hg2⟩
      have Z2 := hid (Z1.out.grown hg2.out (by omega))
      have G2 := hid (gthen G1.out hg2.out)
      clear hg2
      rw [exp_eq]
      have hxl : expOf (xs.drop p) < 65536 := Nat.lt_of_lt_of_le (bn_lt (fun x hx => take_mem (fun y hy => HX.out.lt y (List.mem_of_mem_drop hy)) hx)) (Nat.le_trans (Nat.pow_le_pow_right (by omega) (by rw [List.length_take]; exact Nat.min_le_left _ _)) (by decide))
      obtain ⟨xp, hxp⟩ : ∃ xp, xp = expOf (xs.drop p) := ⟨_, rfl⟩
      rw [← hxp] at hxl ⊢
      have Hxp := hid hxp
      clear hxp
      go_wp2_with fail
      by_cases h3 : n < p + 1 + 2 + 1
      · refine (next_short R2.out h3 (by omega) (by omega) hmax).mono ?_
        rintro e w3 ⟨rfl, R3, hg3⟩
        have Z3 := hid (Z2.out.grown hg3.out (by omega))
        have f0 := Z3.out.frozen 0
        have z0 := Z3.out.c0
        have f1 := Z3.out.frozen 1
        have z1 := Z3.out.c1
        have f2 := Z3.out.frozen 2
        have z2 := Z3.out.c2
        go_wp2
        go_step3
        refine ⟨rfl, ?_⟩
        show Code.wp _ _ _ _ _
        go_wp2
        refine ret_dyad rfl rfl rfl rfl (Z3.out.store (t := false) (u := .slice none 0 0) (y := 0)) ?_
        exact TRes.bad (dE_short (.inl (by rw [HL.out]; omega))) (by omega) (below_put3 (below_of_grown (gthen G2.out hg3.out) (by omega)) (by omega))
      · refine (next_any (z := 1) R2.out (HBY.out _ G2.out) HB.out (by omega) (by omega)).mono ?_
        rintro e w3 ⟨rfl, R3, hg3⟩
        have Z3 := hid (Z2.out.grown hg3.out (by omega))
        have G3 := hid (gthen G2.out hg3.out)
        clear hg3
        rw [cnt_eq (by omega)]
        have hcl : cntOf (xs.drop p) < 256 := getD_lt (fun x hx => HX.out.lt x (List.mem_of_mem_drop hx)) 3
        have HF : Hid (∀ j, limOf (xs.drop p) j < 4294967296) := hid (lim_lt HX.out.lt)
        have HN := hid (fun k (h : k < cntOf (xs.drop p)) => limOf_succ (xs := xs) (p := p) (k := k) h)
        obtain ⟨cn, hcn⟩ : ∃ cn, cn = cntOf (xs.drop p) := ⟨_, rfl⟩
        rw [← hcn] at hcl HN ⊢
        have Hcn := hid hcn
        obtain ⟨lf, hlf⟩ : ∃ lf, lf = limOf (xs.drop p) := ⟨_, rfl⟩
        rw [← hlf] at HF HN
        have Hlf := hid hlf
        have Hout : Hid (∀ j, cn ≤ j → lf j = 0) := hid (fun j hj => by rw [hlf]; exact lof_out (by rw [← hcn]; exact hj))
        have GS := G3.out.size
        clear hcn hlf
        go_wp2_with fail
        go_loopw [7, 8, 9, 32] (fun lv sl ov i wr => ∃ k V : Nat, k ≤ cn ∧ lv = .int .u64 (V : Int) ∧ ov = .bool true ∧ i = .int .u64 k ∧ Hid (Lgr wr (w.heap.size + 1) lf k sl) ∧ Hid (Dbox wr w.heap.size false (.slice none 0 0) 0) ∧ Hid (Rbox wr 120 g A n c ((p + 4 + 4 * k : Nat) : Int)) ∧ Hid (w.grownBy wr (some g)) ∧ Hid (w.heap.size + 1 ≤ wr.heap.size) ∧ Hid (p + 4 + 4 * k ≤ n)) (fun _ _ _ i _ => cn - (intOf i).toNat)
        case atStart => exact ⟨0, 0, by omega, rfl, rfl, rfl, Lgr.nil _ _ _, Z3, R3, G3, hid (by have := lt_of_heap Z3.out; omega), hid (by omega)⟩
        case round =>
          obtain ⟨k, V, hk, rfl, rfl, rfl, hL, hZ, hR, hG, hsz, hpn⟩ := hrel
          by_cases hcon : k < cn
          · go_wp2_with fail
            by_cases h4 : n < p + 4 + 4 * k + 4
            · refine (next_short hR.out h4 hpn.out (by omega) hmax).mono ?_
              rintro e w4 ⟨rfl, R4, hg4⟩
              have Z4 := hid (hZ.out.grown hg4.out (by omega))
              have f0 := Z4.out.frozen 0
              have z0 := Z4.out.c0
              have f1 := Z4.out.frozen 1
              have z1 := Z4.out.c1
              have f2 := Z4.out.frozen 2
              have z2 := Z4.out.c2
              have HE : Hid ((40 : Int) = dE (xs.drop p)) := hid (dE_short (.inr (by rw [HL.out, ← Hcn.out]; omega)))
              go_wp2
              go_step3
              refine ⟨rfl, ?_⟩
              show Code.wp _ _ _ _ _
              go_wp2
              refine ret_dyad rfl rfl rfl rfl (Z4.out.store (t := false) (u := .slice none 0 0) (y := 0)) ?_
              exact TRes.bad HE.out (by omega) (below_put3 (below_of_grown (gthen hG.out hg4.out) (by omega)) (by omega))
            · refine (next_any (z := 4) hR.out (HBY.out _ hG.out) HB.out (by omega) (by omega)).mono ?_
              rintro e w4 ⟨rfl, R4, hg4⟩
              have Z4 := hid (hZ.out.grown hg4.out (by omega))
              have G4 := hid (gthen hG.out hg4.out)
              have L4 := hid (hL.out.grown hg4.out (by omega))
              have sz4 := hg4.out.size
              have hsz5 := hsz.out
              clear hg4
              rw [HN.out k hcon]
              have hU := HF.out k
              obtain ⟨U, hUk⟩ : ∃ U, U = lf k := ⟨_, rfl⟩
              rw [← hUk] at hU ⊢
              have HU := hid hUk
              clear hUk
              go_wp2_with (at_builtin; refine app_limb rfl (.tmp 41) (.tmp 44) 22 rfl 34 (.int .u32 0) 4 Try.underlying22 info_u32 rfl (by decide) rfl rfl L4.out (by omega) rfl (by omega) ?_; intro v5 w5 hown5 hb5)
              go_roundw
              case rel =>
                refine ⟨k + 1, U, by omega, rfl, rfl, by go_num, hid ?_, hid (Z4.out.below hb5.out (by omega)), hid (by have h := R4.out.below hb5.out (by omega); exact h), hid (gbelow G4.out hb5.out (by omega)), hid (by have := hb5.out.size; omega), hid (by omega)⟩
                unfold Lgr
                rw [List.range_succ, List.map_append]
                have h := hown5.out
                rw [HU.out] at h
                exact h
              case measure => simp [intOf]; omega
          · obtain rfl : k = cn := by omega
            obtain ⟨A5, c5, rfl, M5⟩ := mk_of_row hL.out (by omega) HF.out Hout.out
            have HM5 := hid M5
            have Hsz := hid (show g < wr.heap.size by have := hsz.out; omega)
            have CF := hid (formed_any (x := (xp : Int)) HM5.out.rd hsl)
            clear M5 hL
            go_wp2_with fail
            refine CF.out.mono ?_
            rintro e w6 ⟨hb6, h6⟩
            have Z6 := hid (hZ.out.below hb6.out hZ.out.lt)
            have M6 := hid (HM5.out.below hb6.out (Nat.le_refl _))
            have R6 := hid (hR.out.below hb6.out Hsz.out)
            have G6 := hid (gbelow hG.out hb6.out (by have := hsz.out; omega))
            have f0 := Z6.out.frozen 0
            have f1 := Z6.out.frozen 1
            have f2 := Z6.out.frozen 2
            have z0 := Z6.out.c0
            have z1 := Z6.out.c1
            have z2 := Z6.out.c2
            clear CF hb6 hZ HM5 hR hG Hsz hsz
            have HLen : Hid (¬ ((xs.drop p).length < 4 ∨ (xs.drop p).length < 4 + 4 * cntOf (xs.drop p))) := hid (by rw [HL.out, ← Hcn.out]; have := hpn.out; omega)
            rcases h6 with ⟨hs6, hm6, rfl⟩ | ⟨hm6, rfl⟩
            · have HE : Hid ((0 : Int) = dE (xs.drop p)) := hid (by unfold dE; rw [if_neg HLen.out, if_pos (by rw [← Hsg.out, ← Hcn.out, ← Hlf.out, ← Hxp.out]; exact ⟨hs6, hm6⟩)])
              clear hs6 hm6
              obtain ⟨sb, hsb⟩ : ∃ sb, sb = decide (sg = 1) := ⟨_, rfl⟩
              rw [← hsb]
              have Hsb := hid hsb
              clear hsb
              go_wp2
              refine ret_dyad rfl rfl rfl rfl (Z6.out.store (t := sb) (u := .slice A5 k c5) (y := (xp : Int))) ?_
              refine ⟨sb, A5, k, c5, _, 0, lf, rfl, HE, hid ((M6.out.put3 (by omega)).mono (by omega)), hid (fun _ => ⟨by rw [Hsb.out, Hsg.out], Hcn.out, Hlf.out, by rw [Hxp.out]⟩), fun h => absurd rfl h, fun _ => ?_, below_put3 (below_of_grown G6.out (by omega)) (by omega)⟩
              rw [← Hcn.out, ← Nat.add_assoc]
              exact ((R6.out.far (k := w.heap.size) (by omega) 0 _).far (k := w.heap.size) (by omega) 1 _).far (k := w.heap.size) (by omega) 2 _
            · have HE : Hid ((41 : Int) = dE (xs.drop p)) := hid (by unfold dE; rw [if_neg HLen.out, if_neg (by rw [← Hsg.out, ← Hcn.out, ← Hlf.out, ← Hxp.out]; exact hm6)])
              clear hm6
              go_wp2
              refine ret_dyad rfl rfl rfl rfl (Z6.out.store (t := false) (u := .slice none 0 0) (y := 0)) ?_
              exact TRes.bad HE.out (by omega) (below_put3 (below_of_grown G6.out (by omega)) (by omega))

end Go.Proofs.Ytbankbehfjogpaa


namespace Go.Proofs.Ytbankbehfjogpaa
set_option maxRecDepth 100000
open Go.RowKit

/-- The error of a dyad that is taken from a place on. -/
def dEr (n : Nat) (xs : List Nat) (p : Int) : Int := if 0 ≤ p ∧ p ≤ n then dE (xs.drop p.toNat) else 8
/-- What a call hands back that takes a dyad. -/
def DTRes (w : World) (n : Nat) (xs : List Nat) (p : Int) (e : Ending) (w' : World) : Prop := ∃ A' n' c', ∃ p' : Int, ∃ s D k d, ∃ x er : Int, ∃ f : Nat → Nat, e = .returned (.tuple #[.agg #[.slice A' n' c', .int .i64 p'], .agg #[.bool s, .slice D k d, .int .i64 x], .int .i64 er]) ∧
  Hid (er = dEr n xs p) ∧ Hid (By w' w.heap.size A' n' c' (if er = 0 then xs else [])) ∧ Hid (p' = if er = 0 then p + (4 + 4 * (cntOf (xs.drop p.toNat) : Int)) else 0) ∧ Hid (Mk w' 34 w.heap.size D k d f) ∧
  Hid (er = 0 → s = decide (sgOf (xs.drop p.toNat) = 1) ∧ k = cntOf (xs.drop p.toNat) ∧ f = limOf (xs.drop p.toNat) ∧ x = (expOf (xs.drop p.toNat) : Int)) ∧ Hid (er ≠ 0 → s = false ∧ D = none ∧ k = 0 ∧ d = 0 ∧ f = (fun _ => 0) ∧ x = 0) ∧ Hid (Below w.heap.size w w')
theorem DTRes.bad {w w' : World} {n : Nat} {xs : List Nat} {p er : Int} (he : er = dEr n xs p) (h0 : er ≠ 0) (hb : Below w.heap.size w w') : DTRes w n xs p (.returned (.tuple #[.agg #[.slice none 0 0, .int .i64 0], .agg #[.bool false, .slice none 0 0, .int .i64 0], .int .i64 er])) w' :=
  ⟨none, 0, 0, 0, false, none, 0, 0, 0, er, fun _ => 0, rfl, he, by rw [if_neg h0]; exact By.nul _ _, by rw [if_neg h0]; exact rfl, Mk.nil _ _ _, fun h => absurd h h0, fun _ => ⟨rfl, rfl, rfl, rfl, rfl, rfl⟩, hb⟩

set_option maxHeartbeats 6400000 in
theorem Dyad_any {w : World} {n c : Nat} {A : Option Addr} {xs : List Nat} (h : By w w.heap.size A n c xs) (p : Int) :
    Calls Try.prog 57 #[.agg #[.slice A n c, .int .i64 p]] w (DTRes w n xs p) := by
  obtain ⟨W, hW⟩ : ∃ W, W = ((w.alloc (.cells #[.slice A n c, .int .i64 p] 64)).alloc (.cells #[.slice none 0 0, .int .i64 0] 64)).alloc (.cells #[.bool false, .slice none 0 0, .int .i64 0] 24) := ⟨_, rfl⟩
  have B0 := hid (show Below w.heap.size w W from hW ▸ (((Below.refl w.heap.size w).alloc (Nat.le_refl _) _).alloc (by simp) _).alloc (by simp; omega) _)
  have R0 : Hid (Rbox W 64 w.heap.size A n c p) := hid (hW ▸ heap3_0 w _ _ _)
  have Y0 : Hid (Rbox W 64 (w.heap.size + 1) none 0 0 0) := hid (hW ▸ heap3_1 w _ _ _)
  have Z0 : Hid (Dbox W (w.heap.size + 2) false (.slice none 0 0) 0) := hid (hW ▸ heap3_2 w _ _ _)
  have HW := hid hW
  have HX := hid h
  have hmax := h.max
  clear hW h
  have C := mayRead_any A n c p W hmax
  have b0 := R0.out.c0
  have b1 := R0.out.c1
  by_cases h1 : 0 ≤ p ∧ p ≤ (n : Int)
  · rw [bool_of_dec h1] at C
    have HC := hid C
    obtain ⟨q, rfl⟩ : ∃ q : Nat, p = q := ⟨p.toNat, by omega⟩
    clear C
    go_enter Try.func57, Try.ntmps57
    go_upto_region 1 with fail
    rw [← HW.out]
    go_wp2_with fail
    refine HC.out.mono ?_
    rintro e w1 ⟨rfl, hb1⟩
    have R1 := hid (R0.out.below hb1.out R0.out.lt)
    have Y1 := hid (Y0.out.below hb1.out Y0.out.lt)
    have Z1 := hid (Z0.out.below hb1.out Z0.out.lt)
    have B1 := hid (B0.out.trans (hb1.out.mono B0.out.size))
    have e0 := R1.out.c0
    have e1 := R1.out.c1
    have Zlt := Z1.out.lt
    clear b0 b1 HC hb1
    go_wp2_with fail
    have RR : Hid (Rbox (w1.alloc (.cells #[.slice A n c, .int .i64 (q : Int)] 120)) 120 w1.heap.size A n c (q : Int)) := heap_alloc_new w1 _
    have Ba := hid ((Below.refl w1.heap.size w1).alloc (Nat.le_refl _) (.cells #[.slice A n c, .int .i64 (q : Int)] 120))
    have hX2 := hid (HX.out.below (B1.out.trans (Ba.out.mono B1.out.size)))
    refine (takeDyad_any RR.out hX2.out B1.out.size (by omega)).mono ?_
    rintro e w2 ⟨s, D, k, d, x, er, f, rfl, he, hM, hV, hZ, hR, hb⟩
    have K2 := hid (Ba.out.trans hb.out)
    have Y2 := hid (Y1.out.below K2.out (by omega))
    have Z2 := hid (Z1.out.below K2.out (by omega))
    have B2 := hid (B1.out.trans (K2.out.mono B1.out.size))
    have HE : Hid (er = dEr n xs (q : Int)) := hid (by unfold dEr; rw [if_pos h1]; exact he.out)
    have hM2 := hid (hM.out.mono (B' := w1.heap.size) (by simp))
    have HT : Hid (((q : Nat) : Int).toNat = q) := hid (by omega)
    clear e0 e1 RR Ba hX2 he hb hM h1 R1 Y1 Z1 B1 K2 R0 Y0 Z0 B0
    have f0 := Y2.out.frozen 0
    have f1 := Y2.out.frozen 1
    have c0 := Y2.out.c0
    have c1 := Y2.out.c1
    have g0 := Z2.out.frozen 0
    have g1 := Z2.out.frozen 1
    have g2 := Z2.out.frozen 2
    have d0 := Z2.out.c0
    have d1 := Z2.out.c1
    have d2 := Z2.out.c2
    by_cases h0 : er = 0
    · subst h0
      have R2 := hid (hR.out rfl)
      have r0 := R2.out.c0
      have r1 := R2.out.c1
      clear hR
      go_wp2_with fail
      obtain ⟨V, hV0⟩ : ∃ V, V = ((w2.setCell ⟨w.heap.size + 2, 0, none⟩ (.bool s)).setCell ⟨w.heap.size + 2, 1, none⟩ (.slice D k d)).setCell ⟨w.heap.size + 2, 2, none⟩ (.int .i64 x) := ⟨_, rfl⟩
      have HV := hid hV0
      have Z3 : Hid (Dbox V (w.heap.size + 1 + 1) s (.slice D k d) x) := hid (hV0 ▸ Z2.out.store)
      have Y3 : Hid (Rbox V 64 (w.heap.size + 1) none 0 0 0) := hid (hV0 ▸ ((Y2.out.far (k := w.heap.size + 2) (by omega) 0 _).far (k := w.heap.size + 2) (by omega) 1 _).far (k := w.heap.size + 2) (by omega) 2 _)
      have R3 : Hid (Rbox V 120 w1.heap.size A n c ((q + (4 + 4 * cntOf (xs.drop q)) : Nat) : Int)) := hid (hV0 ▸ ((R2.out.far (k := w.heap.size + 2) (by omega) 0 _).far (k := w.heap.size + 2) (by omega) 1 _).far (k := w.heap.size + 2) (by omega) 2 _)
      have M3 : Hid (Mk V 34 w1.heap.size D k d f) := hid (hV0 ▸ hM2.out.put3 (by omega))
      have B3 : Hid (Below w.heap.size w V) := hid (hV0 ▸ below_put3 B2.out (by omega))
      have hV1 : ((w2.setCell ⟨w.heap.size + 1 + 1, 0, none⟩ (.bool s)).setCell ⟨w.heap.size + 1 + 1, 1, none⟩ (.slice D k d)).setCell ⟨w.heap.size + 1 + 1, 2, none⟩ (.int .i64 x) = V := hV0.symm
      rw [hV1]
      clear hV0 hV1 HV f0 f1 c0 c1 g0 g1 g2 d0 d1 d2 r0 r1 Y2 Z2 R2 hM2 B2
      obtain ⟨P, hP⟩ : ∃ P : Nat, P = q + (4 + 4 * cntOf (xs.drop q)) := ⟨_, rfl⟩
      rw [← hP] at R3
      have HP := hid hP
      clear hP
      have f0 := Y3.out.frozen 0
      have f1 := Y3.out.frozen 1
      have c0 := Y3.out.c0
      have c1 := Y3.out.c1
      have g0 := Z3.out.frozen 0
      have g1 := Z3.out.frozen 1
      have g2 := Z3.out.frozen 2
      have d0 := Z3.out.c0
      have d1 := Z3.out.c1
      have d2 := Z3.out.c2
      have r0 := R3.out.c0
      have r1 := R3.out.c1
      go_region
      all_goals
        go_wp2
        have Y4 := (((((Y3.out.set0 (D := A) (m := n) (d := c)).set1 (P : Int)).far (k := w.heap.size + 1 + 1) (by omega) 0 (.bool s)).far (k := w.heap.size + 1 + 1) (by omega) 1 (.slice D k d)).far (k := w.heap.size + 1 + 1) (by omega) 2 (.int .i64 (x : Int))).drew
        have Z4 := (((Z3.out.far (k := w.heap.size + 1) (by omega) 0 (.slice A n c)).far (k := w.heap.size + 1) (by omega) 1 (.int .i64 (P : Int))).store (t := s) (u := .slice D k d) (y := x)).drew
        have B4 := (below_put3 (s := s) (v := .slice D k d) (x := x) (((B3.out.setCell (p := ⟨w.heap.size + 1, 0, none⟩) (by simp) (.slice A n c)).setCell (p := ⟨w.heap.size + 1, 1, none⟩) (by simp) (.int .i64 (P : Int)))) (show w.heap.size ≤ w.heap.size + 1 + 1 by omega)).drew
        have M4 := ((((M3.out.far (g := w.heap.size + 1) (by omega) 0 (.slice A n c)).far (g := w.heap.size + 1) (by omega) 1 (.int .i64 (P : Int))).put3 (g := w.heap.size + 1 + 1) (s := s) (u := .slice D k d) (x := x) (by omega)).below ((Below.refl _ _).drew) (Nat.le_refl _)).mono (B' := w.heap.size) (by omega)
        obtain ⟨U, hU⟩ : ∃ U, U = (put3 ((V.setCell ⟨w.heap.size + 1, 0, none⟩ (.slice A n c)).setCell ⟨w.heap.size + 1, 1, none⟩ (.int .i64 (P : Int))) (w.heap.size + 1 + 1) s (.slice D k d) x).drew := ⟨_, rfl⟩
        have Y5 : Rbox U 64 (w.heap.size + 1) A n c (P : Int) := hU ▸ Y4
        have Z5 : Dbox U (w.heap.size + 1 + 1) s (.slice D k d) x := hU ▸ Z4
        have B5 : Below w.heap.size w U := hU ▸ B4
        have M5 : Mk U 34 w.heap.size D k d f := hU ▸ M4
        clear Y4 Z4 B4 M4
        unfold put3 at hU
        rw [← hU]
        refine ret_rest_dyad rfl rfl rfl rfl rfl Y5 Z5 ?_
        refine ⟨A, n, c, (P : Int), s, D, k, d, x, 0, f, rfl, HE, by rw [if_pos rfl]; exact HX.out.below B5, ?_, M5, ?_, fun h => absurd rfl h, B5⟩
        · rw [if_pos rfl, HT.out, HP.out]
          exact (Int.natCast_add _ _).trans (congrArg _ ((Int.natCast_add _ _).trans (congrArg _ (Int.natCast_mul _ _))))
        · rw [HT.out]
          exact fun _ => hV.out trivial
    · have hne : (er != 0) = true := by simpa using h0
      obtain ⟨hs0, hD0, hk0, hd0, hf0, hx0⟩ := hZ.out h0
      subst hs0 hD0 hk0 hd0 hx0
      have H0 := hid h0
      clear hR hV hZ hM2 h0
      go_wp2
      have Z3 := Z2.out.store (t := false) (u := .slice none 0 0) (y := 0)
      have Y3 := (((Y2.out.far (k := w.heap.size + 2) (by omega) 0 (.bool false)).far (k := w.heap.size + 2) (by omega) 1 (.slice none 0 0)).far (k := w.heap.size + 2) (by omega) 2 (.int .i64 0))
      have Z4 := ((Z3.far (k := w.heap.size + 1) (by omega) 0 (.slice none 0 0)).far (k := w.heap.size + 1) (by omega) 1 (.int .i64 0)).store (t := false) (u := .slice none 0 0) (y := 0)
      have Y4 := (((((Y3.set0 (D := none) (m := 0) (d := 0)).set1 0).far (k := w.heap.size + 2) (by omega) 0 (.bool false)).far (k := w.heap.size + 2) (by omega) 1 (.slice none 0 0)).far (k := w.heap.size + 2) (by omega) 2 (.int .i64 0))
      refine ret_rest_dyad rfl rfl rfl rfl rfl Y4 Z4 ?_
      exact DTRes.bad HE.out H0.out (below_put3 (((below_put3 B2.out (by omega)).setCell (p := ⟨w.heap.size + 1, 0, none⟩) (by simp) _).setCell (p := ⟨w.heap.size + 1, 1, none⟩) (by simp) _) (by omega))
  · rw [bool_of_not h1] at C
    have HC := hid C
    have HE : Hid ((8 : Int) = dEr n xs p) := hid (by unfold dEr; rw [if_neg h1])
    clear C h1
    go_enter Try.func57, Try.ntmps57
    go_upto_region 1 with fail
    rw [← HW.out]
    go_wp2_with fail
    refine HC.out.mono ?_
    rintro e w1 ⟨rfl, hb1⟩
    have Y1 := hid (Y0.out.below hb1.out Y0.out.lt)
    have Z1 := hid (Z0.out.below hb1.out Z0.out.lt)
    have B1 := hid (B0.out.trans (hb1.out.mono B0.out.size))
    have f0 := Y1.out.frozen 0
    have f1 := Y1.out.frozen 1
    have c0 := Y1.out.c0
    have c1 := Y1.out.c1
    have g0 := Z1.out.frozen 0
    have g1 := Z1.out.frozen 1
    have g2 := Z1.out.frozen 2
    have d0 := Z1.out.c0
    have d1 := Z1.out.c1
    have d2 := Z1.out.c2
    clear b0 b1
    go_wp2
    have Y3 := (((((Y1.out.set0 (D := none) (m := 0) (d := 0)).set1 0).far (k := w.heap.size + 2) (by omega) 0 (.bool false)).far (k := w.heap.size + 2) (by omega) 1 (.slice none 0 0)).far (k := w.heap.size + 2) (by omega) 2 (.int .i64 0))
    have Z3 := ((Z1.out.far (k := w.heap.size + 1) (by omega) 0 (.slice none 0 0)).far (k := w.heap.size + 1) (by omega) 1 (.int .i64 0)).store (t := false) (u := .slice none 0 0) (y := 0)
    refine ret_rest_dyad rfl rfl rfl rfl rfl Y3 Z3 ?_
    exact DTRes.bad HE.out (by omega) (below_put3 ((B1.out.setCell (p := ⟨w.heap.size + 1, 0, none⟩) (by simp) _).setCell (p := ⟨w.heap.size + 1, 1, none⟩) (by simp) _) (by omega))

end Go.Proofs.Ytbankbehfjogpaa


namespace Go.Proofs.Ytbankbehfjogpaa
open Go.RowKit
set_option maxRecDepth 100000

/-- What a call hands back that takes a dyad. -/
def DTRs (w : World) (A : Option Addr) (n c : Nat) (xs : List Nat) (p : Int) (e : Ending) (w' : World) : Prop := ∃ A' n' c', ∃ p' : Int, ∃ s D k d, ∃ x er : Int, ∃ f : Nat → Nat, e = .returned (.tuple #[.agg #[.slice A' n' c', .int .i64 p'], .agg #[.bool s, .slice D k d, .int .i64 x], .int .i64 er]) ∧
  Hid (er = dEr n xs p) ∧ Hid (er = 0 → A' = A ∧ n' = n ∧ c' = c) ∧ Hid (er ≠ 0 → A' = none ∧ n' = 0 ∧ c' = 0) ∧ Hid (p' = if er = 0 then p + (4 + 4 * (cntOf (xs.drop p.toNat) : Int)) else 0) ∧ Hid (Mk w' 34 w.heap.size D k d f) ∧
  Hid (er = 0 → s = decide (sgOf (xs.drop p.toNat) = 1) ∧ k = cntOf (xs.drop p.toNat) ∧ f = limOf (xs.drop p.toNat) ∧ x = (expOf (xs.drop p.toNat) : Int)) ∧ Hid (er ≠ 0 → s = false ∧ D = none ∧ k = 0 ∧ d = 0 ∧ f = (fun _ => 0) ∧ x = 0) ∧ Hid (Below w.heap.size w w')
theorem DTRs.bad {w w' : World} {A : Option Addr} {n c : Nat} {xs : List Nat} {p er : Int} (he : er = dEr n xs p) (h0 : er ≠ 0) (hb : Below w.heap.size w w') : DTRs w A n c xs p (.returned (.tuple #[.agg #[.slice none 0 0, .int .i64 0], .agg #[.bool false, .slice none 0 0, .int .i64 0], .int .i64 er])) w' :=
  ⟨none, 0, 0, 0, false, none, 0, 0, 0, er, fun _ => 0, rfl, he, fun h => absurd h h0, fun _ => ⟨rfl, rfl, rfl⟩, by rw [if_neg h0]; exact rfl, Mk.nil _ _ _, fun h => absurd h h0, fun _ => ⟨rfl, rfl, rfl, rfl, rfl, rfl⟩, hb⟩

set_option maxHeartbeats 6400000 in
theorem Dyad_s {w : World} {n c : Nat} {A : Option Addr} {xs : List Nat} (h : By w w.heap.size A n c xs) (p : Int) :
    Calls Try.prog 57 #[.agg #[.slice A n c, .int .i64 p]] w (DTRs w A n c xs p) := by
  obtain ⟨W, hW⟩ : ∃ W, W = ((w.alloc (.cells #[.slice A n c, .int .i64 p] 64)).alloc (.cells #[.slice none 0 0, .int .i64 0] 64)).alloc (.cells #[.bool false, .slice none 0 0, .int .i64 0] 24) := ⟨_, rfl⟩
  have B0 := hid (show Below w.heap.size w W from hW ▸ (((Below.refl w.heap.size w).alloc (Nat.le_refl _) _).alloc (by simp) _).alloc (by simp; omega) _)
  have R0 : Hid (Rbox W 64 w.heap.size A n c p) := hid (hW ▸ heap3_0 w _ _ _)
  have Y0 : Hid (Rbox W 64 (w.heap.size + 1) none 0 0 0) := hid (hW ▸ heap3_1 w _ _ _)
  have Z0 : Hid (Dbox W (w.heap.size + 2) false (.slice none 0 0) 0) := hid (hW ▸ heap3_2 w _ _ _)
  have HW := hid hW
  have HX := hid h
  have hmax := h.max
  clear hW h
  have C := mayRead_any A n c p W hmax
  have b0 := R0.out.c0
  have b1 := R0.out.c1
  by_cases h1 : 0 ≤ p ∧ p ≤ (n : Int)
  · rw [bool_of_dec h1] at C
    have HC := hid C
    obtain ⟨q, rfl⟩ : ∃ q : Nat, p = q := ⟨p.toNat, by omega⟩
    clear C
    go_enter Try.func57, Try.ntmps57
    go_upto_region 1 with fail
    rw [← HW.out]
    go_wp2_with fail
    refine HC.out.mono ?_
    rintro e w1 ⟨rfl, hb1⟩
    have R1 := hid (R0.out.below hb1.out R0.out.lt)
    have Y1 := hid (Y0.out.below hb1.out Y0.out.lt)
    have Z1 := hid (Z0.out.below hb1.out Z0.out.lt)
    have B1 := hid (B0.out.trans (hb1.out.mono B0.out.size))
    have e0 := R1.out.c0
    have e1 := R1.out.c1
    have Zlt := Z1.out.lt
    clear b0 b1 HC hb1
    go_wp2_with fail
    have RR : Hid (Rbox (w1.alloc (.cells #[.slice A n c, .int .i64 (q : Int)] 120)) 120 w1.heap.size A n c (q : Int)) := heap_alloc_new w1 _
    have Ba := hid ((Below.refl w1.heap.size w1).alloc (Nat.le_refl _) (.cells #[.slice A n c, .int .i64 (q : Int)] 120))
    have hX2 := hid (HX.out.below (B1.out.trans (Ba.out.mono B1.out.size)))
    refine (takeDyad_any RR.out hX2.out B1.out.size (by omega)).mono ?_
    rintro e w2 ⟨s, D, k, d, x, er, f, rfl, he, hM, hV, hZ, hR, hb⟩
    have K2 := hid (Ba.out.trans hb.out)
    have Y2 := hid (Y1.out.below K2.out (by omega))
    have Z2 := hid (Z1.out.below K2.out (by omega))
    have B2 := hid (B1.out.trans (K2.out.mono B1.out.size))
    have HE : Hid (er = dEr n xs (q : Int)) := hid (by unfold dEr; rw [if_pos h1]; exact he.out)
    have hM2 := hid (hM.out.mono (B' := w1.heap.size) (by simp))
    have HT : Hid (((q : Nat) : Int).toNat = q) := hid (by omega)
    clear e0 e1 RR Ba hX2 he hb hM h1 R1 Y1 Z1 B1 K2 R0 Y0 Z0 B0
    have f0 := Y2.out.frozen 0
    have f1 := Y2.out.frozen 1
    have c0 := Y2.out.c0
    have c1 := Y2.out.c1
    have g0 := Z2.out.frozen 0
    have g1 := Z2.out.frozen 1
    have g2 := Z2.out.frozen 2
    have d0 := Z2.out.c0
    have d1 := Z2.out.c1
    have d2 := Z2.out.c2
    by_cases h0 : er = 0
    · subst h0
      have R2 := hid (hR.out rfl)
      have r0 := R2.out.c0
      have r1 := R2.out.c1
      clear hR
      go_wp2_with fail
      obtain ⟨V, hV0⟩ : ∃ V, V = ((w2.setCell ⟨w.heap.size + 2, 0, none⟩ (.bool s)).setCell ⟨w.heap.size + 2, 1, none⟩ (.slice D k d)).setCell ⟨w.heap.size + 2, 2, none⟩ (.int .i64 x) := ⟨_, rfl⟩
      have HV := hid hV0
      have Z3 : Hid (Dbox V (w.heap.size + 1 + 1) s (.slice D k d) x) := hid (hV0 ▸ Z2.out.store)
      have Y3 : Hid (Rbox V 64 (w.heap.size + 1) none 0 0 0) := hid (hV0 ▸ ((Y2.out.far (k := w.heap.size + 2) (by omega) 0 _).far (k := w.heap.size + 2) (by omega) 1 _).far (k := w.heap.size + 2) (by omega) 2 _)
      have R3 : Hid (Rbox V 120 w1.heap.size A n c ((q + (4 + 4 * cntOf (xs.drop q)) : Nat) : Int)) := hid (hV0 ▸ ((R2.out.far (k := w.heap.size + 2) (by omega) 0 _).far (k := w.heap.size + 2) (by omega) 1 _).far (k := w.heap.size + 2) (by omega) 2 _)
      have M3 : Hid (Mk V 34 w1.heap.size D k d f) := hid (hV0 ▸ hM2.out.put3 (by omega))
      have B3 : Hid (Below w.heap.size w V) := hid (hV0 ▸ below_put3 B2.out (by omega))
      have hV1 : ((w2.setCell ⟨w.heap.size + 1 + 1, 0, none⟩ (.bool s)).setCell ⟨w.heap.size + 1 + 1, 1, none⟩ (.slice D k d)).setCell ⟨w.heap.size + 1 + 1, 2, none⟩ (.int .i64 x) = V := hV0.symm
      rw [hV1]
      clear hV0 hV1 HV f0 f1 c0 c1 g0 g1 g2 d0 d1 d2 r0 r1 Y2 Z2 R2 hM2 B2
      obtain ⟨P, hP⟩ : ∃ P : Nat, P = q + (4 + 4 * cntOf (xs.drop q)) := ⟨_, rfl⟩
      rw [← hP] at R3
      have HP := hid hP
      clear hP
      have f0 := Y3.out.frozen 0
      have f1 := Y3.out.frozen 1
      have c0 := Y3.out.c0
      have c1 := Y3.out.c1
      have g0 := Z3.out.frozen 0
      have g1 := Z3.out.frozen 1
      have g2 := Z3.out.frozen 2
      have d0 := Z3.out.c0
      have d1 := Z3.out.c1
      have d2 := Z3.out.c2
      have r0 := R3.out.c0
      have r1 := R3.out.c1
      go_region
      all_goals
        go_wp2
        have Y4 := (((((Y3.out.set0 (D := A) (m := n) (d := c)).set1 (P : Int)).far (k := w.heap.size + 1 + 1) (by omega) 0 (.bool s)).far (k := w.heap.size + 1 + 1) (by omega) 1 (.slice D k d)).far (k := w.heap.size + 1 + 1) (by omega) 2 (.int .i64 (x : Int))).drew
        have Z4 := (((Z3.out.far (k := w.heap.size + 1) (by omega) 0 (.slice A n c)).far (k := w.heap.size + 1) (by omega) 1 (.int .i64 (P : Int))).store (t := s) (u := .slice D k d) (y := x)).drew
        have B4 := (below_put3 (s := s) (v := .slice D k d) (x := x) (((B3.out.setCell (p := ⟨w.heap.size + 1, 0, none⟩) (by simp) (.slice A n c)).setCell (p := ⟨w.heap.size + 1, 1, none⟩) (by simp) (.int .i64 (P : Int)))) (show w.heap.size ≤ w.heap.size + 1 + 1 by omega)).drew
        have M4 := ((((M3.out.far (g := w.heap.size + 1) (by omega) 0 (.slice A n c)).far (g := w.heap.size + 1) (by omega) 1 (.int .i64 (P : Int))).put3 (g := w.heap.size + 1 + 1) (s := s) (u := .slice D k d) (x := x) (by omega)).below ((Below.refl _ _).drew) (Nat.le_refl _)).mono (B' := w.heap.size) (by omega)
        obtain ⟨U, hU⟩ : ∃ U, U = (put3 ((V.setCell ⟨w.heap.size + 1, 0, none⟩ (.slice A n c)).setCell ⟨w.heap.size + 1, 1, none⟩ (.int .i64 (P : Int))) (w.heap.size + 1 + 1) s (.slice D k d) x).drew := ⟨_, rfl⟩
        have Y5 : Rbox U 64 (w.heap.size + 1) A n c (P : Int) := hU ▸ Y4
        have Z5 : Dbox U (w.heap.size + 1 + 1) s (.slice D k d) x := hU ▸ Z4
        have B5 : Below w.heap.size w U := hU ▸ B4
        have M5 : Mk U 34 w.heap.size D k d f := hU ▸ M4
        clear Y4 Z4 B4 M4
        unfold put3 at hU
        rw [← hU]
        refine ret_rest_dyad rfl rfl rfl rfl rfl Y5 Z5 ?_
        refine ⟨A, n, c, (P : Int), s, D, k, d, x, 0, f, rfl, HE, fun _ => ⟨rfl, rfl, rfl⟩, fun h => absurd rfl h, ?_, M5, ?_, fun h => absurd rfl h, B5⟩
        · rw [if_pos rfl, HT.out, HP.out]
          exact (Int.natCast_add _ _).trans (congrArg _ ((Int.natCast_add _ _).trans (congrArg _ (Int.natCast_mul _ _))))
        · rw [HT.out]
          exact fun _ => hV.out trivial
    · have hne : (er != 0) = true := by simpa using h0
      obtain ⟨hs0, hD0, hk0, hd0, hf0, hx0⟩ := hZ.out h0
      subst hs0 hD0 hk0 hd0 hx0
      have H0 := hid h0
      clear hR hV hZ hM2 h0
      go_wp2
      have Z3 := Z2.out.store (t := false) (u := .slice none 0 0) (y := 0)
      have Y3 := (((Y2.out.far (k := w.heap.size + 2) (by omega) 0 (.bool false)).far (k := w.heap.size + 2) (by omega) 1 (.slice none 0 0)).far (k := w.heap.size + 2) (by omega) 2 (.int .i64 0))
      have Z4 := ((Z3.far (k := w.heap.size + 1) (by omega) 0 (.slice none 0 0)).far (k := w.heap.size + 1) (by omega) 1 (.int .i64 0)).store (t := false) (u := .slice none 0 0) (y := 0)
      have Y4 := (((((Y3.set0 (D := none) (m := 0) (d := 0)).set1 0).far (k := w.heap.size + 2) (by omega) 0 (.bool false)).far (k := w.heap.size + 2) (by omega) 1 (.slice none 0 0)).far (k := w.heap.size + 2) (by omega) 2 (.int .i64 0))
      refine ret_rest_dyad rfl rfl rfl rfl rfl Y4 Z4 ?_
      exact DTRs.bad HE.out H0.out (below_put3 (((below_put3 B2.out (by omega)).setCell (p := ⟨w.heap.size + 1, 0, none⟩) (by simp) _).setCell (p := ⟨w.heap.size + 1, 1, none⟩) (by simp) _) (by omega))
  · rw [bool_of_not h1] at C
    have HC := hid C
    have HE : Hid ((8 : Int) = dEr n xs p) := hid (by unfold dEr; rw [if_neg h1])
    clear C h1
    go_enter Try.func57, Try.ntmps57
    go_upto_region 1 with fail
    rw [← HW.out]
    go_wp2_with fail
    refine HC.out.mono ?_
    rintro e w1 ⟨rfl, hb1⟩
    have Y1 := hid (Y0.out.below hb1.out Y0.out.lt)
    have Z1 := hid (Z0.out.below hb1.out Z0.out.lt)
    have B1 := hid (B0.out.trans (hb1.out.mono B0.out.size))
    have f0 := Y1.out.frozen 0
    have f1 := Y1.out.frozen 1
    have c0 := Y1.out.c0
    have c1 := Y1.out.c1
    have g0 := Z1.out.frozen 0
    have g1 := Z1.out.frozen 1
    have g2 := Z1.out.frozen 2
    have d0 := Z1.out.c0
    have d1 := Z1.out.c1
    have d2 := Z1.out.c2
    clear b0 b1
    go_wp2
    have Y3 := (((((Y1.out.set0 (D := none) (m := 0) (d := 0)).set1 0).far (k := w.heap.size + 2) (by omega) 0 (.bool false)).far (k := w.heap.size + 2) (by omega) 1 (.slice none 0 0)).far (k := w.heap.size + 2) (by omega) 2 (.int .i64 0))
    have Z3 := ((Z1.out.far (k := w.heap.size + 1) (by omega) 0 (.slice none 0 0)).far (k := w.heap.size + 1) (by omega) 1 (.int .i64 0)).store (t := false) (u := .slice none 0 0) (y := 0)
    refine ret_rest_dyad rfl rfl rfl rfl rfl Y3 Z3 ?_
    exact DTRs.bad HE.out (by omega) (below_put3 ((B1.out.setCell (p := ⟨w.heap.size + 1, 0, none⟩) (by simp) _).setCell (p := ⟨w.heap.size + 1, 1, none⟩) (by simp) _) (by omega))

end Go.Proofs.Ytbankbehfjogpaa

