/- MassTells, walked. -/
import Derived.Test.YtelalanhalbicaaDoorMy3
import Derived.Test.YtelalanhalbicaaDoorMy2
import Derived.Test.YtelalanhalbicaaDoorMspoil
namespace Go.Proofs.YtelalanhalbicaaDoor
open Go.RowKit Go.Shelf

theorem wf_i64 {n : Int} (h : (Lit.int .i64 n).wf = true) : -9223372036854775808 ≤ n ∧ n ≤ 9223372036854775807 := by
  have hmin : IntKind.i64.min = -9223372036854775808 := rfl
  have hmax : IntKind.i64.max = 9223372036854775807 := rfl
  simp only [Lit.wf, Bool.and_eq_true, decide_eq_true_eq] at h
  omega
theorem Twd.grown_box {w w' : World} {B g : Nat} {d r : Dy} {D : Nat → Dy} (h : Twd B w d r) (hm : Mbox w g D) (hg : w.grownBy w' (some g)) : Twd B w' d r := ⟨h.lim.grown_box hm hg, h.s, h.n, h.x, h.f⟩
/-- The copies of two masses, each in a variable of its own. -/
def TwoM (W X : World) (g9 g10 : Nat) (D E R9 R10 : Nat → Dy) : Prop := Mbox X g9 R9 ∧ Mbox X g10 R10 ∧ (∀ k, k < 4 → Twd W.heap.size X (D k) (R9 k)) ∧ (∀ k, k < 4 → Twd W.heap.size X (E k) (R10 k)) ∧ Below W.heap.size W X
theorem two_store {W X : World} {g9 g10 : Nat} {D E R9 R10 : Nat → Dy} (h9 : Mbox X g9 D0) (h10 : Mbox X g10 D0) (t9 : ∀ k, k < 4 → Twd W.heap.size X (D k) (R9 k)) (t10 : ∀ k, k < 4 → Twd W.heap.size X (E k) (R10 k)) (hb : Below W.heap.size W X) (hne : g9 ≠ g10) (s9 : W.heap.size ≤ g9) (s10 : W.heap.size ≤ g10) :
    Mbox (mstore X g9 R9) g10 D0 ∧ Below W.heap.size W (mstore X g9 R9) ∧ Below W.heap.size W (mstore (mstore X g9 R9) g10 R10) ∧ TwoM W (mstore (mstore X g9 R9) g10 R10) g9 g10 D E R9 R10 := by
  have u9 := grown_mstore X g9 R9
  have u10 := grown_mstore (mstore X g9 R9) g10 R10
  have a10 := h10.grown u9 hne.symm
  have b1 := below_row hb u9 hb.size s9
  have b2 := below_row b1 u10 b1.size s10
  exact ⟨a10, b1, b2, (h9.store R9).grown u10 hne, a10.store R10, fun k hk => ((t9 k hk).grown_box h9 u9).grown_box a10 u10, fun k hk => ((t10 k hk).grown_box h9 u9).grown_box a10 u10, b2⟩
theorem resM_eq {er : Int} {M N : Nat → Int} (h : er = 0 → ∀ k, k < 4 → M k = N k) : ∀ k, k < 4 → resM er M k = resM er N k := fun k hk => by
  unfold resM
  split
  · next h0 => exact h h0 k hk
  · rfl
theorem split_same {P : Prop} {M0 M1 H0 H1 G0 G1 i j : Int} (h : Serr P H0 H1 i) (k : Serr P G0 G1 j) (hh : P → 2 * H0 = M0 ∧ 2 * H1 = M1) (hg : P → 2 * G0 = M0 ∧ 2 * G1 = M1) :
    j = i ∧ (i = 0 → H0 = G0 ∧ H1 = G1) := by
  by_cases hp : P
  · have a := hh hp
    have b := hg hp
    obtain rfl : H0 = G0 := by omega
    obtain rfl : H1 = G1 := by omega
    refine ⟨?_, fun _ => ⟨rfl, rfl⟩⟩
    rcases h.1 hp with ⟨h1, rfl⟩ | ⟨h1, rfl⟩ <;> rcases k.1 hp with ⟨k1, rfl⟩ | ⟨k1, rfl⟩
    · rfl
    · exact absurd h1 k1
    · exact absurd k1 h1
    · rfl
  · have e1 := h.2 hp
    have e2 := k.2 hp
    exact ⟨by omega, fun e => by omega⟩
/-- What a node begins with, or nothing. -/
def sdv (x T : Int) (b : Bool) : Nat → Int := if -2147483647 ≤ x ∧ x ≤ 2147483647 then of4 (x * T) T (if b then T else 0) (x * T) else fun _ => 0
def sde (x : Int) : Int := if -2147483647 ≤ x ∧ x ≤ 2147483647 then 0 else 2
theorem mseed_all {x T : Int} (hT : (tp 4000 : Int) = T) (b : Bool) (w : World) :
    Calls Tryd.prog 13 #[.int .i64 x, .bool b] w fun e w' => ∃ D, e = .returned (.tuple #[.agg (mcells D), .int .i64 (sde x)]) ∧ Hid (Mow w.heap.size w' (sdv x T b) D) ∧ Hid (Below w.heap.size w w') := by
  by_cases hx : -2147483647 ≤ x ∧ x ≤ 2147483647
  · rw [show sde x = 0 from if_pos hx, show sdv x T b = of4 (x * T) T (if b then T else 0) (x * T) from if_pos hx]
    cases b with
    | true => exact mseed_first hT hx w
    | false => exact mseed_later hT hx w
  · rw [show sde x = 2 from if_neg hx, show sdv x T b = fun _ => 0 from if_neg hx]
    refine (mseed_bad hx b w).mono ?_
    rintro e w' ⟨rfl, hb⟩
    exact ⟨D0, rfl, Mow.zero _ _, hb⟩
theorem emseed_all {x T : Int} (hT : (tp 4000 : Int) = T) (b : Bool) (w : World) :
    Calls Tryd.prog 14 #[.int .i64 x, .bool b] w fun e w' => ∃ D, e = .returned (.tuple #[.agg (mcells D), .int .i64 (sde x)]) ∧ Hid (Mrr w' (fun _ => True) (sdv x T b) D) ∧ Hid (Below w.heap.size w w') := by
  by_cases hx : -2147483647 ≤ x ∧ x ≤ 2147483647
  · rw [show sde x = 0 from if_pos hx, show sdv x T b = of4 (x * T) T (if b then T else 0) (x * T) from if_pos hx]
    cases b with
    | true => exact emseed_first hT hx w
    | false => exact emseed_later hT hx w
  · rw [show sde x = 2 from if_neg hx, show sdv x T b = fun _ => 0 from if_neg hx]
    refine (emseed_bad hx b w).mono ?_
    rintro e w' ⟨rfl, hb⟩
    exact ⟨D0, rfl, (mar_zero _).mrr, hb⟩
theorem Twd.sw {B : Nat} {w : World} {d r : Dy} (h : Twd B w d r) : Sw B w.heap.size w r := by
  have hm := h.lim
  rcases hm.own with ⟨h0, h1, _⟩ | ⟨g, cs, hA, hg, hc, hs, _⟩
  · exact .inl h1
  · exact .inr ⟨g, cs, hA, hg, lt_of_heap hc, hc, Nat.le_trans hm.cap hs, hm.cap, hm.max⟩
theorem not_great {D : Nat → Dy} (h : false = true ↔ MGr D) : ∀ k, k < 4 → (D k).n ≤ 42 := fun k hk => by
  rcases Nat.lt_or_ge 42 (D k).n with h0 | h0
  · have := h.2 ⟨k, hk, .inl h0⟩
    cases this
  · exact h0
theorem mbox_over {w w' : World} {b lo hi : Nat} {D : Nat → Dy} (h : Mbox w b D) (ho : Over lo hi w w') (hb : b < lo ∨ hi ≤ b) : Mbox w' b D := by
  rcases hb with h1 | h1
  · exact (ho.1.block b h1).trans h
  · exact (ho.2 b h1 h.lt).trans h
theorem sw_over {lo hi lo' hi' : Nat} {w w' : World} {D : Nat → Dy} (h : ∀ k, k < 4 → Sw lo' hi' w (D k)) (ho : Over lo hi w w') (hd : hi' ≤ lo ∨ hi ≤ lo') : ∀ k, k < 4 → Sw lo' hi' w' (D k) := fun k hk => (h k hk).over ho hd
theorem mow_over {lo hi B : Nat} {w w' : World} {M : Nat → Int} {D : Nat → Dy} (h : Mow B w M D) (ho : Over lo hi w w') (hB : hi ≤ B) : Mow B w' M D := fun k hk => (h k hk).over ho hB
theorem kept_over {wc X X' : World} {L lo hi : Nat} {q p : Nat → Prop} {M N : Nat → Int} {D R : Nat → Dy} (h : Mrr X p N R) (hc : Mar wc q M D) (hf : FrM L D R) (ho : Over lo hi X X') (h1 : wc.heap.size ≤ lo) (h2 : hi ≤ L) : Mrr X' p N R := fun k hk => (h k hk).over ho (fun hn g o hA => by
  rcases hf k hk with e | hfr
  · obtain ⟨b, off, hA2, hb, _⟩ := (hc k hk).rd.at_ (by rw [← e]; exact hn)
    rw [← e, hA] at hA2
    injection hA2 with hA2
    injection hA2 with e1 e2
    exact .inl (by omega)
  · exact .inr (Nat.le_trans h2 (hfr g o _ _ (by rw [hA]))))
theorem chk_same {P : Prop} {a b : Int} (h : (P → a = 0) ∧ (¬ P → a = 8)) (k : (P → b = 0) ∧ (¬ P → b = 8)) : a = b := by
  by_cases hp : P
  · rw [h.1 hp, k.1 hp]
  · rw [h.2 hp, k.2 hp]
theorem bool_same {P : Prop} {a b : Bool} (h : a = true ↔ P) (k : b = true ↔ P) : a = b := Bool.eq_iff_iff.2 (h.trans k.symm)
theorem twd_dsm {B : Nat} {w : World} {d r : Dy} (h : Twd B w d r) : Dsm r d := ⟨h.s, h.x, h.n, fun j => by rw [h.f]⟩
theorem twd_dsm2 {B C : Nat} {w w2 : World} {d r t : Dy} (h : Twd B w d r) (k : Twd C w2 r t) : Dsm t d := ⟨k.s.trans h.s, k.x.trans h.x, k.n.trans h.n, fun j => by rw [k.f, h.f]⟩
theorem twd_dsm_iff {B C : Nat} {w w2 : World} {D E R S : Nat → Dy} (h : ∀ k, k < 4 → Twd B w (D k) (R k)) (k : ∀ k, k < 4 → Twd C w2 (E k) (S k)) : (∀ k, k < 4 → Dsm (D k) (E k)) ↔ ∀ k, k < 4 → Dsm (R k) (S k) := by
  constructor
  · intro g j hj
    have a := h j hj
    have b := k j hj
    obtain ⟨g1, g2, g3, g4⟩ := g j hj
    exact ⟨by rw [a.s, b.s, g1], by rw [a.x, b.x, g2], by rw [a.n, b.n, g3], fun i => by rw [a.f, b.f, g4]⟩
  · intro g j hj
    have a := h j hj
    have b := k j hj
    obtain ⟨g1, g2, g3, g4⟩ := g j hj
    exact ⟨by rw [← a.s, ← b.s, g1], by rw [← a.x, ← b.x, g2], by rw [← a.n, ← b.n, g3], fun i => by rw [← a.f, ← b.f, g4]⟩
set_option maxRecDepth 100000 in
set_option maxHeartbeats 12800000 in
theorem mtells_walk {w : World} {D E : Nat → Dy} {x : Int} {first : Bool} (h : Mrd w w.heap.size D) (hn : ∀ k, k < 4 → (D k).A = none → (D k).n = 0 ∧ (D k).c = 0) (h2 : Mrd w w.heap.size E) (hn2 : ∀ k, k < 4 → (E k).A = none → (E k).n = 0 ∧ (E k).c = 0)
    (hx : -9223372036854775808 ≤ x ∧ x ≤ 9223372036854775807) (hT : Tab w) :
    Calls Tryd.prog 3 #[.agg (mcells D), .agg (mcells E), .int .i64 x, .bool first] w fun e w' => e = .returned (.bool true) ∧ Below w.heap.size w w' := by
  obtain ⟨q, M, hM⟩ := mar_of h hn
  obtain ⟨p, N, hN⟩ := mar_of h2 hn2
  have HM := hid hM
  have HN := hid hN
  have HTb := hid hT
  obtain ⟨T, hTT⟩ : ∃ T, (tp 4000 : Int) = T := ⟨_, rfl⟩
  have HT := hid hTT
  clear hTT
  have Hm1 := hid (fun k (hk : k < 4) => (h k hk).max)
  have Hm2 := hid (fun k (hk : k < 4) => (h2 k hk).max)
  obtain ⟨W, hW⟩ : ∃ W, W = (w.alloc (.cells (mcells D) 26)).alloc (.cells (mcells E) 26) := ⟨_, rfl⟩
  have HW := hid hW
  have K := hid (show Below w.heap.size w W from hW ▸ ((Below.refl _ w).alloc (Nat.le_refl _) _).alloc (by simp) _)
  have PD : Hid (Mbox W w.heap.size D) := hid (hW ▸ (show Mbox (w.alloc _) w.heap.size D from new_at rfl).alloc _)
  have PE : Hid (Mbox W (w.heap.size + 1) E) := hid (hW ▸ (show Mbox ((w.alloc _).alloc _) (w.heap.size + 1) E from new_at (by simp)))
  replace HM := hid (HM.out.below K.out)
  replace HN := hid (HN.out.below K.out)
  replace HTb := hid (HTb.out.below K.out HTb.out.lt)
  have Hx := hid hx
  clear hW h hn h2 hn2 hT hM hN hx
  go_enter Tryd.func3, Tryd.ntmps3
  go_upto_region 1 with fail
  rw [← HW.out]
  clear HW
  go_wp2_with (first
    | (with_reducible refine wp_mload rfl (.tmp 4) rfl w.heap.size D rfl PD.out ?_)
    | (with_reducible refine wp_mload rfl (.tmp 5) rfl (w.heap.size + 1) E rfl PE.out ?_)
    | (with_reducible refine wp_mload_g (by kernel_rfl) (.tmp 4) rfl w.heap.size D rfl PD.out ?_)
    | (with_reducible refine wp_mload_g (by kernel_rfl) (.tmp 5) rfl (w.heap.size + 1) E rfl PE.out ?_)
    | fail)
  refine (mgreat_any Hm1.out).mono ?_
  rintro e ua ⟨ga, rfl, Hga, hb⟩
  replace K := hid (K.out.trans (hb.out.mono K.out.size))
  replace PD := hid (PD.out.below hb.out PD.out.lt)
  replace PE := hid (PE.out.below hb.out PE.out.lt)
  replace HM := hid (HM.out.below hb.out)
  replace HN := hid (HN.out.below hb.out)
  replace HTb := hid (HTb.out.below hb.out HTb.out.lt)
  clear hb
  cases ga with
  | true =>
    clear Hga
    go_wp2_with fail
    exact ret_bool rfl rfl rfl ⟨rfl, K.out⟩
  | false =>
    have Hna := hid (show ∀ k, k < 4 → (D k).n ≤ 42 from not_great Hga.out)
    clear Hga
    go_wp2_with (first
      | (with_reducible refine wp_mload rfl (.tmp 4) rfl w.heap.size D rfl PD.out ?_)
      | (with_reducible refine wp_mload rfl (.tmp 5) rfl (w.heap.size + 1) E rfl PE.out ?_)
      | (with_reducible refine wp_mload_g (by kernel_rfl) (.tmp 4) rfl w.heap.size D rfl PD.out ?_)
      | (with_reducible refine wp_mload_g (by kernel_rfl) (.tmp 5) rfl (w.heap.size + 1) E rfl PE.out ?_)
      | fail)
    refine (mgreat_any Hm2.out).mono ?_
    rintro e ub ⟨gb, rfl, Hgb, hb⟩
    replace K := hid (K.out.trans (hb.out.mono K.out.size))
    replace PD := hid (PD.out.below hb.out PD.out.lt)
    replace PE := hid (PE.out.below hb.out PE.out.lt)
    replace HM := hid (HM.out.below hb.out)
    replace HN := hid (HN.out.below hb.out)
    replace HTb := hid (HTb.out.below hb.out HTb.out.lt)
    clear hb
    cases gb with
    | true =>
      clear Hgb
      go_wp2_with fail
      exact ret_bool rfl rfl rfl ⟨rfl, K.out⟩
    | false =>
      have Hnb := hid (show ∀ k, k < 4 → (E k).n ≤ 42 from not_great Hgb.out)
      clear Hgb
      go_upto_region 3 with (first
        | (with_reducible refine wp_mload rfl (.tmp 4) rfl w.heap.size D rfl PD.out ?_)
        | (with_reducible refine wp_mload rfl (.tmp 5) rfl (w.heap.size + 1) E rfl PE.out ?_)
        | (with_reducible refine wp_mload_g (by kernel_rfl) (.tmp 4) rfl w.heap.size D rfl PD.out ?_)
        | (with_reducible refine wp_mload_g (by kernel_rfl) (.tmp 5) rfl (w.heap.size + 1) E rfl PE.out ?_)
        | fail)
      obtain ⟨W1, hW1⟩ : ∃ W1, W1 = ub := ⟨_, rfl⟩
      rw [← hW1] at K PD PE HM HN HTb ⊢
      clear hW1
      go_cut [9, 10] (fun s9 s10 wx => ∃ (g9 g10 : Nat) (R9 R10 : Nat → Dy), s9 = .pointer (some ⟨g9, 0, none⟩) ∧ s10 = .pointer (some ⟨g10, 0, none⟩) ∧ Hid (TwoM W1 wx g9 g10 D E R9 R10))

      case first =>
        have CF : Hid (∀ X, Below W1.heap.size W1 X → SbS w D E X) := hid fun X hb => ⟨PD.out.below hb PD.out.lt, PE.out.below hb PE.out.lt⟩
        have BX : Hid (Below W1.heap.size W1 W1.drew) := hid (Below.refl W1.heap.size W1).drew
        have CA := hid (fun (X : World) (hb : Below W1.heap.size W1 X) => emtwin_any (w := X) (D := D) ((HM.out.below hb).mrd) (fun k hk => (HM.out k hk).nil) Hna.out)
        have CB := hid (fun (X : World) (hb : Below W1.heap.size W1 X) => emtwin_any (w := X) (D := E) ((HN.out.below hb).mrd) (fun k hk => (HN.out k hk).nil) Hnb.out)
        clear HM HN PD PE HTb
        refine wp_region_held_drew (S := SbS w D E) (by kernel_rfl) (CF.out _ BX.out) (fun hHeld => ?_)
        generalize W1.drew = V at *
        refine wpAnyH_take (i := 0) rfl (by kernel_rfl) (by kernel_rfl) (by kernel_rfl) (fun _ _ _ h => h) (yields_mload (by rfl) (.tmp 4) rfl w.heap.size D rfl (fun X hX => hX.1)) hHeld ?_
        (try simp only [Act.put, List.setIfInBounds_toArray, List.set_cons_zero, List.set_cons_succ, List.getElem_toArray, List.getElem_cons_zero])
        refine wpAnyH_take (i := 2) rfl (by kernel_rfl) (by kernel_rfl) (by kernel_rfl) (fun _ _ _ h => h) (yields_mload (by rfl) (.tmp 5) rfl (w.heap.size + 1) E rfl (fun X hX => hX.2)) hHeld ?_
        (try simp only [Act.put, List.setIfInBounds_toArray, List.set_cons_zero, List.set_cons_succ, List.getElem_toArray, List.getElem_cons_succ, List.getElem_cons_zero])
        refine wpAnyH_ready (rs := [1, 4, 5]) (by kernel_rfl) (by simp) ?_
        refine AllReadyH.cons rfl (fun K' hK => ?_) (AllReadyH.cons rfl (fun K' hK => ?_) (AllReadyH.cons rfl (fun K' hK => ?_) AllReadyH.nil))
        · (try simp only [List.getElem_toArray, List.getElem_cons_succ, List.getElem_cons_zero])
          go_simp
          refine (CA.out _ BX.out).mono ?_
          rintro e y9 ⟨R9, rfl, T9, hb⟩
          replace T9 := hid (fun k hk => (T9.out k hk).mono BX.out.size)
          replace BX := hid (BX.out.trans (hb.out.mono BX.out.size))
          clear hb
          try dsimp only
          refine hK.out _ _ (CF.out _ BX.out) (fun hHeld => ?_)
          clear hK K'
          (try simp only [Act.put, List.setIfInBounds_toArray, List.set_cons_zero, List.set_cons_succ, List.getElem_toArray, List.getElem_cons_succ, List.getElem_cons_zero])
          refine wpAnyH_ready (rs := [3, 4, 5]) (by kernel_rfl) (by simp) ?_
          refine AllReadyH.cons rfl (fun K' hK => ?_) (AllReadyH.cons rfl (fun K' hK => ?_) (AllReadyH.cons rfl (fun K' hK => ?_) AllReadyH.nil))
          · (try simp only [List.getElem_toArray, List.getElem_cons_succ, List.getElem_cons_zero])
            go_simp
            refine (CB.out _ BX.out).mono ?_
            rintro e y10 ⟨R10, rfl, T10, hb⟩
            replace T10 := hid (fun k hk => (T10.out k hk).mono BX.out.size)
            replace BX := hid (BX.out.trans (hb.out.mono BX.out.size))
            replace T9 := hid (fun k hk => (T9.out k hk).below hb.out)
            clear hb
            try dsimp only
            refine hK.out _ _ (CF.out _ BX.out) (fun hHeld => ?_)
            clear hK K'
            (try simp only [Act.put, List.setIfInBounds_toArray, List.set_cons_zero, List.set_cons_succ, List.getElem_toArray, List.getElem_cons_succ, List.getElem_cons_zero])
            refine wpAnyH_ready (rs := [4, 5]) (by kernel_rfl) (by simp) ?_
            refine AllReadyH.cons rfl (fun K' hK => ?_) (AllReadyH.cons rfl (fun K' hK => ?_) AllReadyH.nil)
            · (try simp only [List.getElem_toArray, List.getElem_cons_succ, List.getElem_cons_zero])
              go_simp
              obtain ⟨Y9, hX⟩ : ∃ X, X = (y10).alloc (.cells #[.bool false, .slice none 0 0, .int .i64 0, .bool false, .slice none 0 0, .int .i64 0, .bool false, .slice none 0 0, .int .i64 0, .bool false, .slice none 0 0, .int .i64 0] 26) := ⟨_, rfl⟩
              rw [← hX]
              have F9 : Hid (Mbox Y9 (y10).heap.size D0) := hid (hX ▸ fresh_mass _)
              have S9 := hid (show W1.heap.size ≤ (y10).heap.size from BX.out.size)
              have hb : Hid (Below (y10).heap.size (y10) Y9) := hid (hX ▸ (Below.refl _ _).alloc (Nat.le_refl _) _)
              clear hX
              replace BX := hid (BX.out.trans (hb.out.mono BX.out.size))
              replace T9 := hid (fun k hk => (T9.out k hk).below hb.out)
              replace T10 := hid (fun k hk => (T10.out k hk).below hb.out)
              clear hb
              generalize (y10).heap.size = g9 at *
              try dsimp only
              refine hK.out _ _ (CF.out _ BX.out) (fun hHeld => ?_)
              clear hK K'
              (try simp only [Act.put, List.setIfInBounds_toArray, List.set_cons_zero, List.set_cons_succ, List.getElem_toArray, List.getElem_cons_succ, List.getElem_cons_zero])
              refine wpAnyH_ready (rs := [5]) (by kernel_rfl) (by simp) ?_
              refine AllReadyH.cons rfl (fun K' hK => ?_) AllReadyH.nil
              (try simp only [List.getElem_toArray, List.getElem_cons_succ, List.getElem_cons_zero])
              go_simp
              obtain ⟨Y10, hX⟩ : ∃ X, X = (Y9).alloc (.cells #[.bool false, .slice none 0 0, .int .i64 0, .bool false, .slice none 0 0, .int .i64 0, .bool false, .slice none 0 0, .int .i64 0, .bool false, .slice none 0 0, .int .i64 0] 26) := ⟨_, rfl⟩
              rw [← hX]
              have F10 : Hid (Mbox Y10 (Y9).heap.size D0) := hid (hX ▸ fresh_mass _)
              have S10 := hid (show W1.heap.size ≤ (Y9).heap.size from BX.out.size)
              have hb : Hid (Below (Y9).heap.size (Y9) Y10) := hid (hX ▸ (Below.refl _ _).alloc (Nat.le_refl _) _)
              clear hX
              have Hne : Hid (g9 ≠ Y9.heap.size) := hid (Nat.ne_of_lt F9.out.lt)
              replace BX := hid (BX.out.trans (hb.out.mono BX.out.size))
              replace T9 := hid (fun k hk => (T9.out k hk).below hb.out)
              replace T10 := hid (fun k hk => (T10.out k hk).below hb.out)
              replace F9 := hid (F9.out.below hb.out F9.out.lt)
              clear hb
              generalize (Y9).heap.size = g10 at *
              try dsimp only
              refine hK.out _ _ (CF.out _ BX.out) (fun hHeld => ?_)
              clear hK K'
              (try simp only [Act.put, List.setIfInBounds_toArray, List.set_cons_zero, List.set_cons_succ, List.getElem_toArray, List.getElem_cons_succ, List.getElem_cons_zero])
              have hTwo := two_store F9.out F10.out T9.out T10.out BX.out Hne.out S9.out S10.out
              obtain ⟨a10, b1, b2, hfin⟩ := hTwo
              have HFin := hid hfin
              clear hfin
              refine wpAnyH_ready (rs := [6]) (by kernel_rfl) (by simp) ?_
              refine AllReadyH.cons rfl (fun K' hK => ?_) AllReadyH.nil
              (try simp only [List.getElem_toArray, List.getElem_cons_succ, List.getElem_cons_zero])
              refine ite_go (by kernel_rfl) ?_
              refine wp1_mstore (.tmp 9) (.tmp 39) rfl g9 D0 R9 rfl rfl F9.out ?_
              refine hK.out _ _ (CF.out _ b1) (fun hHeld => ?_)
              clear hK K'
              generalize mstore Y10 g9 R9 = Z1 at *
              (try simp only [Act.put])
              refine wpAnyH_ready (rs := [7]) (by kernel_rfl) (by simp) ?_
              refine AllReadyH.cons rfl (fun K' hK => ?_) AllReadyH.nil
              (try simp only [List.getElem_toArray, List.getElem_cons_succ, List.getElem_cons_zero])
              refine ite_go (by kernel_rfl) ?_
              refine wp1_mstore (.tmp 10) (.tmp 41) rfl g10 D0 R10 rfl rfl a10 ?_
              refine hK.out _ _ (CF.out _ b2) (fun hHeld => ?_)
              clear hK K'
              generalize mstore Z1 g10 R10 = Z2 at *
              (try simp only [Act.put])
              refine wpAnyH_done (by kernel_rfl) ?_ _
              go_wp2
              go_meet
              exact ⟨_, _, _, _, rfl, rfl, HFin⟩
            · (try simp only [List.getElem_toArray, List.getElem_cons_succ, List.getElem_cons_zero])
              go_simp
              obtain ⟨Y10, hX⟩ : ∃ X, X = (y10).alloc (.cells #[.bool false, .slice none 0 0, .int .i64 0, .bool false, .slice none 0 0, .int .i64 0, .bool false, .slice none 0 0, .int .i64 0, .bool false, .slice none 0 0, .int .i64 0] 26) := ⟨_, rfl⟩
              rw [← hX]
              have F10 : Hid (Mbox Y10 (y10).heap.size D0) := hid (hX ▸ fresh_mass _)
              have S10 := hid (show W1.heap.size ≤ (y10).heap.size from BX.out.size)
              have hb : Hid (Below (y10).heap.size (y10) Y10) := hid (hX ▸ (Below.refl _ _).alloc (Nat.le_refl _) _)
              clear hX
              replace BX := hid (BX.out.trans (hb.out.mono BX.out.size))
              replace T9 := hid (fun k hk => (T9.out k hk).below hb.out)
              replace T10 := hid (fun k hk => (T10.out k hk).below hb.out)
              clear hb
              generalize (y10).heap.size = g10 at *
              try dsimp only
              refine hK.out _ _ (CF.out _ BX.out) (fun hHeld => ?_)
              clear hK K'
              (try simp only [Act.put, List.setIfInBounds_toArray, List.set_cons_zero, List.set_cons_succ, List.getElem_toArray, List.getElem_cons_succ, List.getElem_cons_zero])
              refine wpAnyH_ready (rs := [4]) (by kernel_rfl) (by simp) ?_
              refine AllReadyH.cons rfl (fun K' hK => ?_) AllReadyH.nil
              (try simp only [List.getElem_toArray, List.getElem_cons_succ, List.getElem_cons_zero])
              go_simp
              obtain ⟨Y9, hX⟩ : ∃ X, X = (Y10).alloc (.cells #[.bool false, .slice none 0 0, .int .i64 0, .bool false, .slice none 0 0, .int .i64 0, .bool false, .slice none 0 0, .int .i64 0, .bool false, .slice none 0 0, .int .i64 0] 26) := ⟨_, rfl⟩
              rw [← hX]
              have F9 : Hid (Mbox Y9 (Y10).heap.size D0) := hid (hX ▸ fresh_mass _)
              have S9 := hid (show W1.heap.size ≤ (Y10).heap.size from BX.out.size)
              have hb : Hid (Below (Y10).heap.size (Y10) Y9) := hid (hX ▸ (Below.refl _ _).alloc (Nat.le_refl _) _)
              clear hX
              have Hne : Hid (Y10.heap.size ≠ g10) := hid ((Nat.ne_of_lt F10.out.lt).symm)
              replace BX := hid (BX.out.trans (hb.out.mono BX.out.size))
              replace T9 := hid (fun k hk => (T9.out k hk).below hb.out)
              replace T10 := hid (fun k hk => (T10.out k hk).below hb.out)
              replace F10 := hid (F10.out.below hb.out F10.out.lt)
              clear hb
              generalize (Y10).heap.size = g9 at *
              try dsimp only
              refine hK.out _ _ (CF.out _ BX.out) (fun hHeld => ?_)
              clear hK K'
              (try simp only [Act.put, List.setIfInBounds_toArray, List.set_cons_zero, List.set_cons_succ, List.getElem_toArray, List.getElem_cons_succ, List.getElem_cons_zero])
              have hTwo := two_store F9.out F10.out T9.out T10.out BX.out Hne.out S9.out S10.out
              obtain ⟨a10, b1, b2, hfin⟩ := hTwo
              have HFin := hid hfin
              clear hfin
              refine wpAnyH_ready (rs := [6]) (by kernel_rfl) (by simp) ?_
              refine AllReadyH.cons rfl (fun K' hK => ?_) AllReadyH.nil
              (try simp only [List.getElem_toArray, List.getElem_cons_succ, List.getElem_cons_zero])
              refine ite_go (by kernel_rfl) ?_
              refine wp1_mstore (.tmp 9) (.tmp 39) rfl g9 D0 R9 rfl rfl F9.out ?_
              refine hK.out _ _ (CF.out _ b1) (fun hHeld => ?_)
              clear hK K'
              generalize mstore Y9 g9 R9 = Z1 at *
              (try simp only [Act.put])
              refine wpAnyH_ready (rs := [7]) (by kernel_rfl) (by simp) ?_
              refine AllReadyH.cons rfl (fun K' hK => ?_) AllReadyH.nil
              (try simp only [List.getElem_toArray, List.getElem_cons_succ, List.getElem_cons_zero])
              refine ite_go (by kernel_rfl) ?_
              refine wp1_mstore (.tmp 10) (.tmp 41) rfl g10 D0 R10 rfl rfl a10 ?_
              refine hK.out _ _ (CF.out _ b2) (fun hHeld => ?_)
              clear hK K'
              generalize mstore Z1 g10 R10 = Z2 at *
              (try simp only [Act.put])
              refine wpAnyH_done (by kernel_rfl) ?_ _
              go_wp2
              go_meet
              exact ⟨_, _, _, _, rfl, rfl, HFin⟩
          · (try simp only [List.getElem_toArray, List.getElem_cons_succ, List.getElem_cons_zero])
            go_simp
            obtain ⟨Y9, hX⟩ : ∃ X, X = (y9).alloc (.cells #[.bool false, .slice none 0 0, .int .i64 0, .bool false, .slice none 0 0, .int .i64 0, .bool false, .slice none 0 0, .int .i64 0, .bool false, .slice none 0 0, .int .i64 0] 26) := ⟨_, rfl⟩
            rw [← hX]
            have F9 : Hid (Mbox Y9 (y9).heap.size D0) := hid (hX ▸ fresh_mass _)
            have S9 := hid (show W1.heap.size ≤ (y9).heap.size from BX.out.size)
            have hb : Hid (Below (y9).heap.size (y9) Y9) := hid (hX ▸ (Below.refl _ _).alloc (Nat.le_refl _) _)
            clear hX
            replace BX := hid (BX.out.trans (hb.out.mono BX.out.size))
            replace T9 := hid (fun k hk => (T9.out k hk).below hb.out)
            clear hb
            generalize (y9).heap.size = g9 at *
            try dsimp only
            refine hK.out _ _ (CF.out _ BX.out) (fun hHeld => ?_)
            clear hK K'
            (try simp only [Act.put, List.setIfInBounds_toArray, List.set_cons_zero, List.set_cons_succ, List.getElem_toArray, List.getElem_cons_succ, List.getElem_cons_zero])
            refine wpAnyH_ready (rs := [3, 5]) (by kernel_rfl) (by simp) ?_
            refine AllReadyH.cons rfl (fun K' hK => ?_) (AllReadyH.cons rfl (fun K' hK => ?_) AllReadyH.nil)
            · (try simp only [List.getElem_toArray, List.getElem_cons_succ, List.getElem_cons_zero])
              go_simp
              refine (CB.out _ BX.out).mono ?_
              rintro e y10 ⟨R10, rfl, T10, hb⟩
              replace T10 := hid (fun k hk => (T10.out k hk).mono BX.out.size)
              replace BX := hid (BX.out.trans (hb.out.mono BX.out.size))
              replace T9 := hid (fun k hk => (T9.out k hk).below hb.out)
              replace F9 := hid (F9.out.below hb.out F9.out.lt)
              clear hb
              try dsimp only
              refine hK.out _ _ (CF.out _ BX.out) (fun hHeld => ?_)
              clear hK K'
              (try simp only [Act.put, List.setIfInBounds_toArray, List.set_cons_zero, List.set_cons_succ, List.getElem_toArray, List.getElem_cons_succ, List.getElem_cons_zero])
              refine wpAnyH_ready (rs := [5]) (by kernel_rfl) (by simp) ?_
              refine AllReadyH.cons rfl (fun K' hK => ?_) AllReadyH.nil
              (try simp only [List.getElem_toArray, List.getElem_cons_succ, List.getElem_cons_zero])
              go_simp
              obtain ⟨Y10, hX⟩ : ∃ X, X = (y10).alloc (.cells #[.bool false, .slice none 0 0, .int .i64 0, .bool false, .slice none 0 0, .int .i64 0, .bool false, .slice none 0 0, .int .i64 0, .bool false, .slice none 0 0, .int .i64 0] 26) := ⟨_, rfl⟩
              rw [← hX]
              have F10 : Hid (Mbox Y10 (y10).heap.size D0) := hid (hX ▸ fresh_mass _)
              have S10 := hid (show W1.heap.size ≤ (y10).heap.size from BX.out.size)
              have hb : Hid (Below (y10).heap.size (y10) Y10) := hid (hX ▸ (Below.refl _ _).alloc (Nat.le_refl _) _)
              clear hX
              have Hne : Hid (g9 ≠ y10.heap.size) := hid (Nat.ne_of_lt F9.out.lt)
              replace BX := hid (BX.out.trans (hb.out.mono BX.out.size))
              replace T9 := hid (fun k hk => (T9.out k hk).below hb.out)
              replace F9 := hid (F9.out.below hb.out F9.out.lt)
              replace T10 := hid (fun k hk => (T10.out k hk).below hb.out)
              clear hb
              generalize (y10).heap.size = g10 at *
              try dsimp only
              refine hK.out _ _ (CF.out _ BX.out) (fun hHeld => ?_)
              clear hK K'
              (try simp only [Act.put, List.setIfInBounds_toArray, List.set_cons_zero, List.set_cons_succ, List.getElem_toArray, List.getElem_cons_succ, List.getElem_cons_zero])
              have hTwo := two_store F9.out F10.out T9.out T10.out BX.out Hne.out S9.out S10.out
              obtain ⟨a10, b1, b2, hfin⟩ := hTwo
              have HFin := hid hfin
              clear hfin
              refine wpAnyH_ready (rs := [6]) (by kernel_rfl) (by simp) ?_
              refine AllReadyH.cons rfl (fun K' hK => ?_) AllReadyH.nil
              (try simp only [List.getElem_toArray, List.getElem_cons_succ, List.getElem_cons_zero])
              refine ite_go (by kernel_rfl) ?_
              refine wp1_mstore (.tmp 9) (.tmp 39) rfl g9 D0 R9 rfl rfl F9.out ?_
              refine hK.out _ _ (CF.out _ b1) (fun hHeld => ?_)
              clear hK K'
              generalize mstore Y10 g9 R9 = Z1 at *
              (try simp only [Act.put])
              refine wpAnyH_ready (rs := [7]) (by kernel_rfl) (by simp) ?_
              refine AllReadyH.cons rfl (fun K' hK => ?_) AllReadyH.nil
              (try simp only [List.getElem_toArray, List.getElem_cons_succ, List.getElem_cons_zero])
              refine ite_go (by kernel_rfl) ?_
              refine wp1_mstore (.tmp 10) (.tmp 41) rfl g10 D0 R10 rfl rfl a10 ?_
              refine hK.out _ _ (CF.out _ b2) (fun hHeld => ?_)
              clear hK K'
              generalize mstore Z1 g10 R10 = Z2 at *
              (try simp only [Act.put])
              refine wpAnyH_done (by kernel_rfl) ?_ _
              go_wp2
              go_meet
              exact ⟨_, _, _, _, rfl, rfl, HFin⟩
            · (try simp only [List.getElem_toArray, List.getElem_cons_succ, List.getElem_cons_zero])
              go_simp
              obtain ⟨Y10, hX⟩ : ∃ X, X = (Y9).alloc (.cells #[.bool false, .slice none 0 0, .int .i64 0, .bool false, .slice none 0 0, .int .i64 0, .bool false, .slice none 0 0, .int .i64 0, .bool false, .slice none 0 0, .int .i64 0] 26) := ⟨_, rfl⟩
              rw [← hX]
              have F10 : Hid (Mbox Y10 (Y9).heap.size D0) := hid (hX ▸ fresh_mass _)
              have S10 := hid (show W1.heap.size ≤ (Y9).heap.size from BX.out.size)
              have hb : Hid (Below (Y9).heap.size (Y9) Y10) := hid (hX ▸ (Below.refl _ _).alloc (Nat.le_refl _) _)
              clear hX
              have Hne : Hid (g9 ≠ Y9.heap.size) := hid (Nat.ne_of_lt F9.out.lt)
              replace BX := hid (BX.out.trans (hb.out.mono BX.out.size))
              replace T9 := hid (fun k hk => (T9.out k hk).below hb.out)
              replace F9 := hid (F9.out.below hb.out F9.out.lt)
              clear hb
              generalize (Y9).heap.size = g10 at *
              try dsimp only
              refine hK.out _ _ (CF.out _ BX.out) (fun hHeld => ?_)
              clear hK K'
              (try simp only [Act.put, List.setIfInBounds_toArray, List.set_cons_zero, List.set_cons_succ, List.getElem_toArray, List.getElem_cons_succ, List.getElem_cons_zero])
              refine wpAnyH_ready (rs := [3]) (by kernel_rfl) (by simp) ?_
              refine AllReadyH.cons rfl (fun K' hK => ?_) AllReadyH.nil
              (try simp only [List.getElem_toArray, List.getElem_cons_succ, List.getElem_cons_zero])
              go_simp
              refine (CB.out _ BX.out).mono ?_
              rintro e y10 ⟨R10, rfl, T10, hb⟩
              replace T10 := hid (fun k hk => (T10.out k hk).mono BX.out.size)
              replace BX := hid (BX.out.trans (hb.out.mono BX.out.size))
              replace T9 := hid (fun k hk => (T9.out k hk).below hb.out)
              replace F9 := hid (F9.out.below hb.out F9.out.lt)
              replace F10 := hid (F10.out.below hb.out F10.out.lt)
              clear hb
              try dsimp only
              refine hK.out _ _ (CF.out _ BX.out) (fun hHeld => ?_)
              clear hK K'
              (try simp only [Act.put, List.setIfInBounds_toArray, List.set_cons_zero, List.set_cons_succ, List.getElem_toArray, List.getElem_cons_succ, List.getElem_cons_zero])
              have hTwo := two_store F9.out F10.out T9.out T10.out BX.out Hne.out S9.out S10.out
              obtain ⟨a10, b1, b2, hfin⟩ := hTwo
              have HFin := hid hfin
              clear hfin
              refine wpAnyH_ready (rs := [6]) (by kernel_rfl) (by simp) ?_
              refine AllReadyH.cons rfl (fun K' hK => ?_) AllReadyH.nil
              (try simp only [List.getElem_toArray, List.getElem_cons_succ, List.getElem_cons_zero])
              refine ite_go (by kernel_rfl) ?_
              refine wp1_mstore (.tmp 9) (.tmp 39) rfl g9 D0 R9 rfl rfl F9.out ?_
              refine hK.out _ _ (CF.out _ b1) (fun hHeld => ?_)
              clear hK K'
              generalize mstore y10 g9 R9 = Z1 at *
              (try simp only [Act.put])
              refine wpAnyH_ready (rs := [7]) (by kernel_rfl) (by simp) ?_
              refine AllReadyH.cons rfl (fun K' hK => ?_) AllReadyH.nil
              (try simp only [List.getElem_toArray, List.getElem_cons_succ, List.getElem_cons_zero])
              refine ite_go (by kernel_rfl) ?_
              refine wp1_mstore (.tmp 10) (.tmp 41) rfl g10 D0 R10 rfl rfl a10 ?_
              refine hK.out _ _ (CF.out _ b2) (fun hHeld => ?_)
              clear hK K'
              generalize mstore Z1 g10 R10 = Z2 at *
              (try simp only [Act.put])
              refine wpAnyH_done (by kernel_rfl) ?_ _
              go_wp2
              go_meet
              exact ⟨_, _, _, _, rfl, rfl, HFin⟩
          · (try simp only [List.getElem_toArray, List.getElem_cons_succ, List.getElem_cons_zero])
            go_simp
            obtain ⟨Y10, hX⟩ : ∃ X, X = (y9).alloc (.cells #[.bool false, .slice none 0 0, .int .i64 0, .bool false, .slice none 0 0, .int .i64 0, .bool false, .slice none 0 0, .int .i64 0, .bool false, .slice none 0 0, .int .i64 0] 26) := ⟨_, rfl⟩
            rw [← hX]
            have F10 : Hid (Mbox Y10 (y9).heap.size D0) := hid (hX ▸ fresh_mass _)
            have S10 := hid (show W1.heap.size ≤ (y9).heap.size from BX.out.size)
            have hb : Hid (Below (y9).heap.size (y9) Y10) := hid (hX ▸ (Below.refl _ _).alloc (Nat.le_refl _) _)
            clear hX
            replace BX := hid (BX.out.trans (hb.out.mono BX.out.size))
            replace T9 := hid (fun k hk => (T9.out k hk).below hb.out)
            clear hb
            generalize (y9).heap.size = g10 at *
            try dsimp only
            refine hK.out _ _ (CF.out _ BX.out) (fun hHeld => ?_)
            clear hK K'
            (try simp only [Act.put, List.setIfInBounds_toArray, List.set_cons_zero, List.set_cons_succ, List.getElem_toArray, List.getElem_cons_succ, List.getElem_cons_zero])
            refine wpAnyH_ready (rs := [3, 4]) (by kernel_rfl) (by simp) ?_
            refine AllReadyH.cons rfl (fun K' hK => ?_) (AllReadyH.cons rfl (fun K' hK => ?_) AllReadyH.nil)
            · (try simp only [List.getElem_toArray, List.getElem_cons_succ, List.getElem_cons_zero])
              go_simp
              refine (CB.out _ BX.out).mono ?_
              rintro e y10 ⟨R10, rfl, T10, hb⟩
              replace T10 := hid (fun k hk => (T10.out k hk).mono BX.out.size)
              replace BX := hid (BX.out.trans (hb.out.mono BX.out.size))
              replace T9 := hid (fun k hk => (T9.out k hk).below hb.out)
              replace F10 := hid (F10.out.below hb.out F10.out.lt)
              clear hb
              try dsimp only
              refine hK.out _ _ (CF.out _ BX.out) (fun hHeld => ?_)
              clear hK K'
              (try simp only [Act.put, List.setIfInBounds_toArray, List.set_cons_zero, List.set_cons_succ, List.getElem_toArray, List.getElem_cons_succ, List.getElem_cons_zero])
              refine wpAnyH_ready (rs := [4]) (by kernel_rfl) (by simp) ?_
              refine AllReadyH.cons rfl (fun K' hK => ?_) AllReadyH.nil
              (try simp only [List.getElem_toArray, List.getElem_cons_succ, List.getElem_cons_zero])
              go_simp
              obtain ⟨Y9, hX⟩ : ∃ X, X = (y10).alloc (.cells #[.bool false, .slice none 0 0, .int .i64 0, .bool false, .slice none 0 0, .int .i64 0, .bool false, .slice none 0 0, .int .i64 0, .bool false, .slice none 0 0, .int .i64 0] 26) := ⟨_, rfl⟩
              rw [← hX]
              have F9 : Hid (Mbox Y9 (y10).heap.size D0) := hid (hX ▸ fresh_mass _)
              have S9 := hid (show W1.heap.size ≤ (y10).heap.size from BX.out.size)
              have hb : Hid (Below (y10).heap.size (y10) Y9) := hid (hX ▸ (Below.refl _ _).alloc (Nat.le_refl _) _)
              clear hX
              have Hne : Hid (y10.heap.size ≠ g10) := hid ((Nat.ne_of_lt F10.out.lt).symm)
              replace BX := hid (BX.out.trans (hb.out.mono BX.out.size))
              replace T9 := hid (fun k hk => (T9.out k hk).below hb.out)
              replace F10 := hid (F10.out.below hb.out F10.out.lt)
              replace T10 := hid (fun k hk => (T10.out k hk).below hb.out)
              clear hb
              generalize (y10).heap.size = g9 at *
              try dsimp only
              refine hK.out _ _ (CF.out _ BX.out) (fun hHeld => ?_)
              clear hK K'
              (try simp only [Act.put, List.setIfInBounds_toArray, List.set_cons_zero, List.set_cons_succ, List.getElem_toArray, List.getElem_cons_succ, List.getElem_cons_zero])
              have hTwo := two_store F9.out F10.out T9.out T10.out BX.out Hne.out S9.out S10.out
              obtain ⟨a10, b1, b2, hfin⟩ := hTwo
              have HFin := hid hfin
              clear hfin
              refine wpAnyH_ready (rs := [6]) (by kernel_rfl) (by simp) ?_
              refine AllReadyH.cons rfl (fun K' hK => ?_) AllReadyH.nil
              (try simp only [List.getElem_toArray, List.getElem_cons_succ, List.getElem_cons_zero])
              refine ite_go (by kernel_rfl) ?_
              refine wp1_mstore (.tmp 9) (.tmp 39) rfl g9 D0 R9 rfl rfl F9.out ?_
              refine hK.out _ _ (CF.out _ b1) (fun hHeld => ?_)
              clear hK K'
              generalize mstore Y9 g9 R9 = Z1 at *
              (try simp only [Act.put])
              refine wpAnyH_ready (rs := [7]) (by kernel_rfl) (by simp) ?_
              refine AllReadyH.cons rfl (fun K' hK => ?_) AllReadyH.nil
              (try simp only [List.getElem_toArray, List.getElem_cons_succ, List.getElem_cons_zero])
              refine ite_go (by kernel_rfl) ?_
              refine wp1_mstore (.tmp 10) (.tmp 41) rfl g10 D0 R10 rfl rfl a10 ?_
              refine hK.out _ _ (CF.out _ b2) (fun hHeld => ?_)
              clear hK K'
              generalize mstore Z1 g10 R10 = Z2 at *
              (try simp only [Act.put])
              refine wpAnyH_done (by kernel_rfl) ?_ _
              go_wp2
              go_meet
              exact ⟨_, _, _, _, rfl, rfl, HFin⟩
            · (try simp only [List.getElem_toArray, List.getElem_cons_succ, List.getElem_cons_zero])
              go_simp
              obtain ⟨Y9, hX⟩ : ∃ X, X = (Y10).alloc (.cells #[.bool false, .slice none 0 0, .int .i64 0, .bool false, .slice none 0 0, .int .i64 0, .bool false, .slice none 0 0, .int .i64 0, .bool false, .slice none 0 0, .int .i64 0] 26) := ⟨_, rfl⟩
              rw [← hX]
              have F9 : Hid (Mbox Y9 (Y10).heap.size D0) := hid (hX ▸ fresh_mass _)
              have S9 := hid (show W1.heap.size ≤ (Y10).heap.size from BX.out.size)
              have hb : Hid (Below (Y10).heap.size (Y10) Y9) := hid (hX ▸ (Below.refl _ _).alloc (Nat.le_refl _) _)
              clear hX
              have Hne : Hid (Y10.heap.size ≠ g10) := hid ((Nat.ne_of_lt F10.out.lt).symm)
              replace BX := hid (BX.out.trans (hb.out.mono BX.out.size))
              replace T9 := hid (fun k hk => (T9.out k hk).below hb.out)
              replace F10 := hid (F10.out.below hb.out F10.out.lt)
              clear hb
              generalize (Y10).heap.size = g9 at *
              try dsimp only
              refine hK.out _ _ (CF.out _ BX.out) (fun hHeld => ?_)
              clear hK K'
              (try simp only [Act.put, List.setIfInBounds_toArray, List.set_cons_zero, List.set_cons_succ, List.getElem_toArray, List.getElem_cons_succ, List.getElem_cons_zero])
              refine wpAnyH_ready (rs := [3]) (by kernel_rfl) (by simp) ?_
              refine AllReadyH.cons rfl (fun K' hK => ?_) AllReadyH.nil
              (try simp only [List.getElem_toArray, List.getElem_cons_succ, List.getElem_cons_zero])
              go_simp
              refine (CB.out _ BX.out).mono ?_
              rintro e y10 ⟨R10, rfl, T10, hb⟩
              replace T10 := hid (fun k hk => (T10.out k hk).mono BX.out.size)
              replace BX := hid (BX.out.trans (hb.out.mono BX.out.size))
              replace T9 := hid (fun k hk => (T9.out k hk).below hb.out)
              replace F10 := hid (F10.out.below hb.out F10.out.lt)
              replace F9 := hid (F9.out.below hb.out F9.out.lt)
              clear hb
              try dsimp only
              refine hK.out _ _ (CF.out _ BX.out) (fun hHeld => ?_)
              clear hK K'
              (try simp only [Act.put, List.setIfInBounds_toArray, List.set_cons_zero, List.set_cons_succ, List.getElem_toArray, List.getElem_cons_succ, List.getElem_cons_zero])
              have hTwo := two_store F9.out F10.out T9.out T10.out BX.out Hne.out S9.out S10.out
              obtain ⟨a10, b1, b2, hfin⟩ := hTwo
              have HFin := hid hfin
              clear hfin
              refine wpAnyH_ready (rs := [6]) (by kernel_rfl) (by simp) ?_
              refine AllReadyH.cons rfl (fun K' hK => ?_) AllReadyH.nil
              (try simp only [List.getElem_toArray, List.getElem_cons_succ, List.getElem_cons_zero])
              refine ite_go (by kernel_rfl) ?_
              refine wp1_mstore (.tmp 9) (.tmp 39) rfl g9 D0 R9 rfl rfl F9.out ?_
              refine hK.out _ _ (CF.out _ b1) (fun hHeld => ?_)
              clear hK K'
              generalize mstore y10 g9 R9 = Z1 at *
              (try simp only [Act.put])
              refine wpAnyH_ready (rs := [7]) (by kernel_rfl) (by simp) ?_
              refine AllReadyH.cons rfl (fun K' hK => ?_) AllReadyH.nil
              (try simp only [List.getElem_toArray, List.getElem_cons_succ, List.getElem_cons_zero])
              refine ite_go (by kernel_rfl) ?_
              refine wp1_mstore (.tmp 10) (.tmp 41) rfl g10 D0 R10 rfl rfl a10 ?_
              refine hK.out _ _ (CF.out _ b2) (fun hHeld => ?_)
              clear hK K'
              generalize mstore Z1 g10 R10 = Z2 at *
              (try simp only [Act.put])
              refine wpAnyH_done (by kernel_rfl) ?_ _
              go_wp2
              go_meet
              exact ⟨_, _, _, _, rfl, rfl, HFin⟩
        · (try simp only [List.getElem_toArray, List.getElem_cons_succ, List.getElem_cons_zero])
          go_simp
          obtain ⟨Y9, hX⟩ : ∃ X, X = (V).alloc (.cells #[.bool false, .slice none 0 0, .int .i64 0, .bool false, .slice none 0 0, .int .i64 0, .bool false, .slice none 0 0, .int .i64 0, .bool false, .slice none 0 0, .int .i64 0] 26) := ⟨_, rfl⟩
          rw [← hX]
          have F9 : Hid (Mbox Y9 (V).heap.size D0) := hid (hX ▸ fresh_mass _)
          have S9 := hid (show W1.heap.size ≤ (V).heap.size from BX.out.size)
          have hb : Hid (Below (V).heap.size (V) Y9) := hid (hX ▸ (Below.refl _ _).alloc (Nat.le_refl _) _)
          clear hX
          replace BX := hid (BX.out.trans (hb.out.mono BX.out.size))
          clear hb
          generalize (V).heap.size = g9 at *
          try dsimp only
          refine hK.out _ _ (CF.out _ BX.out) (fun hHeld => ?_)
          clear hK K'
          (try simp only [Act.put, List.setIfInBounds_toArray, List.set_cons_zero, List.set_cons_succ, List.getElem_toArray, List.getElem_cons_succ, List.getElem_cons_zero])
          refine wpAnyH_ready (rs := [1, 5]) (by kernel_rfl) (by simp) ?_
          refine AllReadyH.cons rfl (fun K' hK => ?_) (AllReadyH.cons rfl (fun K' hK => ?_) AllReadyH.nil)
          · (try simp only [List.getElem_toArray, List.getElem_cons_succ, List.getElem_cons_zero])
            go_simp
            refine (CA.out _ BX.out).mono ?_
            rintro e y9 ⟨R9, rfl, T9, hb⟩
            replace T9 := hid (fun k hk => (T9.out k hk).mono BX.out.size)
            replace BX := hid (BX.out.trans (hb.out.mono BX.out.size))
            replace F9 := hid (F9.out.below hb.out F9.out.lt)
            clear hb
            try dsimp only
            refine hK.out _ _ (CF.out _ BX.out) (fun hHeld => ?_)
            clear hK K'
            (try simp only [Act.put, List.setIfInBounds_toArray, List.set_cons_zero, List.set_cons_succ, List.getElem_toArray, List.getElem_cons_succ, List.getElem_cons_zero])
            refine wpAnyH_ready (rs := [3, 5]) (by kernel_rfl) (by simp) ?_
            refine AllReadyH.cons rfl (fun K' hK => ?_) (AllReadyH.cons rfl (fun K' hK => ?_) AllReadyH.nil)
            · (try simp only [List.getElem_toArray, List.getElem_cons_succ, List.getElem_cons_zero])
              go_simp
              refine (CB.out _ BX.out).mono ?_
              rintro e y10 ⟨R10, rfl, T10, hb⟩
              replace T10 := hid (fun k hk => (T10.out k hk).mono BX.out.size)
              replace BX := hid (BX.out.trans (hb.out.mono BX.out.size))
              replace F9 := hid (F9.out.below hb.out F9.out.lt)
              replace T9 := hid (fun k hk => (T9.out k hk).below hb.out)
              clear hb
              try dsimp only
              refine hK.out _ _ (CF.out _ BX.out) (fun hHeld => ?_)
              clear hK K'
              (try simp only [Act.put, List.setIfInBounds_toArray, List.set_cons_zero, List.set_cons_succ, List.getElem_toArray, List.getElem_cons_succ, List.getElem_cons_zero])
              refine wpAnyH_ready (rs := [5]) (by kernel_rfl) (by simp) ?_
              refine AllReadyH.cons rfl (fun K' hK => ?_) AllReadyH.nil
              (try simp only [List.getElem_toArray, List.getElem_cons_succ, List.getElem_cons_zero])
              go_simp
              obtain ⟨Y10, hX⟩ : ∃ X, X = (y10).alloc (.cells #[.bool false, .slice none 0 0, .int .i64 0, .bool false, .slice none 0 0, .int .i64 0, .bool false, .slice none 0 0, .int .i64 0, .bool false, .slice none 0 0, .int .i64 0] 26) := ⟨_, rfl⟩
              rw [← hX]
              have F10 : Hid (Mbox Y10 (y10).heap.size D0) := hid (hX ▸ fresh_mass _)
              have S10 := hid (show W1.heap.size ≤ (y10).heap.size from BX.out.size)
              have hb : Hid (Below (y10).heap.size (y10) Y10) := hid (hX ▸ (Below.refl _ _).alloc (Nat.le_refl _) _)
              clear hX
              have Hne : Hid (g9 ≠ y10.heap.size) := hid (Nat.ne_of_lt F9.out.lt)
              replace BX := hid (BX.out.trans (hb.out.mono BX.out.size))
              replace F9 := hid (F9.out.below hb.out F9.out.lt)
              replace T9 := hid (fun k hk => (T9.out k hk).below hb.out)
              replace T10 := hid (fun k hk => (T10.out k hk).below hb.out)
              clear hb
              generalize (y10).heap.size = g10 at *
              try dsimp only
              refine hK.out _ _ (CF.out _ BX.out) (fun hHeld => ?_)
              clear hK K'
              (try simp only [Act.put, List.setIfInBounds_toArray, List.set_cons_zero, List.set_cons_succ, List.getElem_toArray, List.getElem_cons_succ, List.getElem_cons_zero])
              have hTwo := two_store F9.out F10.out T9.out T10.out BX.out Hne.out S9.out S10.out
              obtain ⟨a10, b1, b2, hfin⟩ := hTwo
              have HFin := hid hfin
              clear hfin
              refine wpAnyH_ready (rs := [6]) (by kernel_rfl) (by simp) ?_
              refine AllReadyH.cons rfl (fun K' hK => ?_) AllReadyH.nil
              (try simp only [List.getElem_toArray, List.getElem_cons_succ, List.getElem_cons_zero])
              refine ite_go (by kernel_rfl) ?_
              refine wp1_mstore (.tmp 9) (.tmp 39) rfl g9 D0 R9 rfl rfl F9.out ?_
              refine hK.out _ _ (CF.out _ b1) (fun hHeld => ?_)
              clear hK K'
              generalize mstore Y10 g9 R9 = Z1 at *
              (try simp only [Act.put])
              refine wpAnyH_ready (rs := [7]) (by kernel_rfl) (by simp) ?_
              refine AllReadyH.cons rfl (fun K' hK => ?_) AllReadyH.nil
              (try simp only [List.getElem_toArray, List.getElem_cons_succ, List.getElem_cons_zero])
              refine ite_go (by kernel_rfl) ?_
              refine wp1_mstore (.tmp 10) (.tmp 41) rfl g10 D0 R10 rfl rfl a10 ?_
              refine hK.out _ _ (CF.out _ b2) (fun hHeld => ?_)
              clear hK K'
              generalize mstore Z1 g10 R10 = Z2 at *
              (try simp only [Act.put])
              refine wpAnyH_done (by kernel_rfl) ?_ _
              go_wp2
              go_meet
              exact ⟨_, _, _, _, rfl, rfl, HFin⟩
            · (try simp only [List.getElem_toArray, List.getElem_cons_succ, List.getElem_cons_zero])
              go_simp
              obtain ⟨Y10, hX⟩ : ∃ X, X = (y9).alloc (.cells #[.bool false, .slice none 0 0, .int .i64 0, .bool false, .slice none 0 0, .int .i64 0, .bool false, .slice none 0 0, .int .i64 0, .bool false, .slice none 0 0, .int .i64 0] 26) := ⟨_, rfl⟩
              rw [← hX]
              have F10 : Hid (Mbox Y10 (y9).heap.size D0) := hid (hX ▸ fresh_mass _)
              have S10 := hid (show W1.heap.size ≤ (y9).heap.size from BX.out.size)
              have hb : Hid (Below (y9).heap.size (y9) Y10) := hid (hX ▸ (Below.refl _ _).alloc (Nat.le_refl _) _)
              clear hX
              have Hne : Hid (g9 ≠ y9.heap.size) := hid (Nat.ne_of_lt F9.out.lt)
              replace BX := hid (BX.out.trans (hb.out.mono BX.out.size))
              replace F9 := hid (F9.out.below hb.out F9.out.lt)
              replace T9 := hid (fun k hk => (T9.out k hk).below hb.out)
              clear hb
              generalize (y9).heap.size = g10 at *
              try dsimp only
              refine hK.out _ _ (CF.out _ BX.out) (fun hHeld => ?_)
              clear hK K'
              (try simp only [Act.put, List.setIfInBounds_toArray, List.set_cons_zero, List.set_cons_succ, List.getElem_toArray, List.getElem_cons_succ, List.getElem_cons_zero])
              refine wpAnyH_ready (rs := [3]) (by kernel_rfl) (by simp) ?_
              refine AllReadyH.cons rfl (fun K' hK => ?_) AllReadyH.nil
              (try simp only [List.getElem_toArray, List.getElem_cons_succ, List.getElem_cons_zero])
              go_simp
              refine (CB.out _ BX.out).mono ?_
              rintro e y10 ⟨R10, rfl, T10, hb⟩
              replace T10 := hid (fun k hk => (T10.out k hk).mono BX.out.size)
              replace BX := hid (BX.out.trans (hb.out.mono BX.out.size))
              replace F9 := hid (F9.out.below hb.out F9.out.lt)
              replace T9 := hid (fun k hk => (T9.out k hk).below hb.out)
              replace F10 := hid (F10.out.below hb.out F10.out.lt)
              clear hb
              try dsimp only
              refine hK.out _ _ (CF.out _ BX.out) (fun hHeld => ?_)
              clear hK K'
              (try simp only [Act.put, List.setIfInBounds_toArray, List.set_cons_zero, List.set_cons_succ, List.getElem_toArray, List.getElem_cons_succ, List.getElem_cons_zero])
              have hTwo := two_store F9.out F10.out T9.out T10.out BX.out Hne.out S9.out S10.out
              obtain ⟨a10, b1, b2, hfin⟩ := hTwo
              have HFin := hid hfin
              clear hfin
              refine wpAnyH_ready (rs := [6]) (by kernel_rfl) (by simp) ?_
              refine AllReadyH.cons rfl (fun K' hK => ?_) AllReadyH.nil
              (try simp only [List.getElem_toArray, List.getElem_cons_succ, List.getElem_cons_zero])
              refine ite_go (by kernel_rfl) ?_
              refine wp1_mstore (.tmp 9) (.tmp 39) rfl g9 D0 R9 rfl rfl F9.out ?_
              refine hK.out _ _ (CF.out _ b1) (fun hHeld => ?_)
              clear hK K'
              generalize mstore y10 g9 R9 = Z1 at *
              (try simp only [Act.put])
              refine wpAnyH_ready (rs := [7]) (by kernel_rfl) (by simp) ?_
              refine AllReadyH.cons rfl (fun K' hK => ?_) AllReadyH.nil
              (try simp only [List.getElem_toArray, List.getElem_cons_succ, List.getElem_cons_zero])
              refine ite_go (by kernel_rfl) ?_
              refine wp1_mstore (.tmp 10) (.tmp 41) rfl g10 D0 R10 rfl rfl a10 ?_
              refine hK.out _ _ (CF.out _ b2) (fun hHeld => ?_)
              clear hK K'
              generalize mstore Z1 g10 R10 = Z2 at *
              (try simp only [Act.put])
              refine wpAnyH_done (by kernel_rfl) ?_ _
              go_wp2
              go_meet
              exact ⟨_, _, _, _, rfl, rfl, HFin⟩
          · (try simp only [List.getElem_toArray, List.getElem_cons_succ, List.getElem_cons_zero])
            go_simp
            obtain ⟨Y10, hX⟩ : ∃ X, X = (Y9).alloc (.cells #[.bool false, .slice none 0 0, .int .i64 0, .bool false, .slice none 0 0, .int .i64 0, .bool false, .slice none 0 0, .int .i64 0, .bool false, .slice none 0 0, .int .i64 0] 26) := ⟨_, rfl⟩
            rw [← hX]
            have F10 : Hid (Mbox Y10 (Y9).heap.size D0) := hid (hX ▸ fresh_mass _)
            have S10 := hid (show W1.heap.size ≤ (Y9).heap.size from BX.out.size)
            have hb : Hid (Below (Y9).heap.size (Y9) Y10) := hid (hX ▸ (Below.refl _ _).alloc (Nat.le_refl _) _)
            clear hX
            have Hne : Hid (g9 ≠ Y9.heap.size) := hid (Nat.ne_of_lt F9.out.lt)
            replace BX := hid (BX.out.trans (hb.out.mono BX.out.size))
            replace F9 := hid (F9.out.below hb.out F9.out.lt)
            clear hb
            generalize (Y9).heap.size = g10 at *
            try dsimp only
            refine hK.out _ _ (CF.out _ BX.out) (fun hHeld => ?_)
            clear hK K'
            (try simp only [Act.put, List.setIfInBounds_toArray, List.set_cons_zero, List.set_cons_succ, List.getElem_toArray, List.getElem_cons_succ, List.getElem_cons_zero])
            refine wpAnyH_ready (rs := [1]) (by kernel_rfl) (by simp) ?_
            refine AllReadyH.cons rfl (fun K' hK => ?_) AllReadyH.nil
            (try simp only [List.getElem_toArray, List.getElem_cons_succ, List.getElem_cons_zero])
            go_simp
            refine (CA.out _ BX.out).mono ?_
            rintro e y9 ⟨R9, rfl, T9, hb⟩
            replace T9 := hid (fun k hk => (T9.out k hk).mono BX.out.size)
            replace BX := hid (BX.out.trans (hb.out.mono BX.out.size))
            replace F9 := hid (F9.out.below hb.out F9.out.lt)
            replace F10 := hid (F10.out.below hb.out F10.out.lt)
            clear hb
            try dsimp only
            refine hK.out _ _ (CF.out _ BX.out) (fun hHeld => ?_)
            clear hK K'
            (try simp only [Act.put, List.setIfInBounds_toArray, List.set_cons_zero, List.set_cons_succ, List.getElem_toArray, List.getElem_cons_succ, List.getElem_cons_zero])
            refine wpAnyH_ready (rs := [3]) (by kernel_rfl) (by simp) ?_
            refine AllReadyH.cons rfl (fun K' hK => ?_) AllReadyH.nil
            (try simp only [List.getElem_toArray, List.getElem_cons_succ, List.getElem_cons_zero])
            go_simp
            refine (CB.out _ BX.out).mono ?_
            rintro e y10 ⟨R10, rfl, T10, hb⟩
            replace T10 := hid (fun k hk => (T10.out k hk).mono BX.out.size)
            replace BX := hid (BX.out.trans (hb.out.mono BX.out.size))
            replace F9 := hid (F9.out.below hb.out F9.out.lt)
            replace F10 := hid (F10.out.below hb.out F10.out.lt)
            replace T9 := hid (fun k hk => (T9.out k hk).below hb.out)
            clear hb
            try dsimp only
            refine hK.out _ _ (CF.out _ BX.out) (fun hHeld => ?_)
            clear hK K'
            (try simp only [Act.put, List.setIfInBounds_toArray, List.set_cons_zero, List.set_cons_succ, List.getElem_toArray, List.getElem_cons_succ, List.getElem_cons_zero])
            have hTwo := two_store F9.out F10.out T9.out T10.out BX.out Hne.out S9.out S10.out
            obtain ⟨a10, b1, b2, hfin⟩ := hTwo
            have HFin := hid hfin
            clear hfin
            refine wpAnyH_ready (rs := [6]) (by kernel_rfl) (by simp) ?_
            refine AllReadyH.cons rfl (fun K' hK => ?_) AllReadyH.nil
            (try simp only [List.getElem_toArray, List.getElem_cons_succ, List.getElem_cons_zero])
            refine ite_go (by kernel_rfl) ?_
            refine wp1_mstore (.tmp 9) (.tmp 39) rfl g9 D0 R9 rfl rfl F9.out ?_
            refine hK.out _ _ (CF.out _ b1) (fun hHeld => ?_)
            clear hK K'
            generalize mstore y10 g9 R9 = Z1 at *
            (try simp only [Act.put])
            refine wpAnyH_ready (rs := [7]) (by kernel_rfl) (by simp) ?_
            refine AllReadyH.cons rfl (fun K' hK => ?_) AllReadyH.nil
            (try simp only [List.getElem_toArray, List.getElem_cons_succ, List.getElem_cons_zero])
            refine ite_go (by kernel_rfl) ?_
            refine wp1_mstore (.tmp 10) (.tmp 41) rfl g10 D0 R10 rfl rfl a10 ?_
            refine hK.out _ _ (CF.out _ b2) (fun hHeld => ?_)
            clear hK K'
            generalize mstore Z1 g10 R10 = Z2 at *
            (try simp only [Act.put])
            refine wpAnyH_done (by kernel_rfl) ?_ _
            go_wp2
            go_meet
            exact ⟨_, _, _, _, rfl, rfl, HFin⟩
        · (try simp only [List.getElem_toArray, List.getElem_cons_succ, List.getElem_cons_zero])
          go_simp
          obtain ⟨Y10, hX⟩ : ∃ X, X = (V).alloc (.cells #[.bool false, .slice none 0 0, .int .i64 0, .bool false, .slice none 0 0, .int .i64 0, .bool false, .slice none 0 0, .int .i64 0, .bool false, .slice none 0 0, .int .i64 0] 26) := ⟨_, rfl⟩
          rw [← hX]
          have F10 : Hid (Mbox Y10 (V).heap.size D0) := hid (hX ▸ fresh_mass _)
          have S10 := hid (show W1.heap.size ≤ (V).heap.size from BX.out.size)
          have hb : Hid (Below (V).heap.size (V) Y10) := hid (hX ▸ (Below.refl _ _).alloc (Nat.le_refl _) _)
          clear hX
          replace BX := hid (BX.out.trans (hb.out.mono BX.out.size))
          clear hb
          generalize (V).heap.size = g10 at *
          try dsimp only
          refine hK.out _ _ (CF.out _ BX.out) (fun hHeld => ?_)
          clear hK K'
          (try simp only [Act.put, List.setIfInBounds_toArray, List.set_cons_zero, List.set_cons_succ, List.getElem_toArray, List.getElem_cons_succ, List.getElem_cons_zero])
          refine wpAnyH_ready (rs := [1, 4]) (by kernel_rfl) (by simp) ?_
          refine AllReadyH.cons rfl (fun K' hK => ?_) (AllReadyH.cons rfl (fun K' hK => ?_) AllReadyH.nil)
          · (try simp only [List.getElem_toArray, List.getElem_cons_succ, List.getElem_cons_zero])
            go_simp
            refine (CA.out _ BX.out).mono ?_
            rintro e y9 ⟨R9, rfl, T9, hb⟩
            replace T9 := hid (fun k hk => (T9.out k hk).mono BX.out.size)
            replace BX := hid (BX.out.trans (hb.out.mono BX.out.size))
            replace F10 := hid (F10.out.below hb.out F10.out.lt)
            clear hb
            try dsimp only
            refine hK.out _ _ (CF.out _ BX.out) (fun hHeld => ?_)
            clear hK K'
            (try simp only [Act.put, List.setIfInBounds_toArray, List.set_cons_zero, List.set_cons_succ, List.getElem_toArray, List.getElem_cons_succ, List.getElem_cons_zero])
            refine wpAnyH_ready (rs := [3, 4]) (by kernel_rfl) (by simp) ?_
            refine AllReadyH.cons rfl (fun K' hK => ?_) (AllReadyH.cons rfl (fun K' hK => ?_) AllReadyH.nil)
            · (try simp only [List.getElem_toArray, List.getElem_cons_succ, List.getElem_cons_zero])
              go_simp
              refine (CB.out _ BX.out).mono ?_
              rintro e y10 ⟨R10, rfl, T10, hb⟩
              replace T10 := hid (fun k hk => (T10.out k hk).mono BX.out.size)
              replace BX := hid (BX.out.trans (hb.out.mono BX.out.size))
              replace F10 := hid (F10.out.below hb.out F10.out.lt)
              replace T9 := hid (fun k hk => (T9.out k hk).below hb.out)
              clear hb
              try dsimp only
              refine hK.out _ _ (CF.out _ BX.out) (fun hHeld => ?_)
              clear hK K'
              (try simp only [Act.put, List.setIfInBounds_toArray, List.set_cons_zero, List.set_cons_succ, List.getElem_toArray, List.getElem_cons_succ, List.getElem_cons_zero])
              refine wpAnyH_ready (rs := [4]) (by kernel_rfl) (by simp) ?_
              refine AllReadyH.cons rfl (fun K' hK => ?_) AllReadyH.nil
              (try simp only [List.getElem_toArray, List.getElem_cons_succ, List.getElem_cons_zero])
              go_simp
              obtain ⟨Y9, hX⟩ : ∃ X, X = (y10).alloc (.cells #[.bool false, .slice none 0 0, .int .i64 0, .bool false, .slice none 0 0, .int .i64 0, .bool false, .slice none 0 0, .int .i64 0, .bool false, .slice none 0 0, .int .i64 0] 26) := ⟨_, rfl⟩
              rw [← hX]
              have F9 : Hid (Mbox Y9 (y10).heap.size D0) := hid (hX ▸ fresh_mass _)
              have S9 := hid (show W1.heap.size ≤ (y10).heap.size from BX.out.size)
              have hb : Hid (Below (y10).heap.size (y10) Y9) := hid (hX ▸ (Below.refl _ _).alloc (Nat.le_refl _) _)
              clear hX
              have Hne : Hid (y10.heap.size ≠ g10) := hid ((Nat.ne_of_lt F10.out.lt).symm)
              replace BX := hid (BX.out.trans (hb.out.mono BX.out.size))
              replace F10 := hid (F10.out.below hb.out F10.out.lt)
              replace T9 := hid (fun k hk => (T9.out k hk).below hb.out)
              replace T10 := hid (fun k hk => (T10.out k hk).below hb.out)
              clear hb
              generalize (y10).heap.size = g9 at *
              try dsimp only
              refine hK.out _ _ (CF.out _ BX.out) (fun hHeld => ?_)
              clear hK K'
              (try simp only [Act.put, List.setIfInBounds_toArray, List.set_cons_zero, List.set_cons_succ, List.getElem_toArray, List.getElem_cons_succ, List.getElem_cons_zero])
              have hTwo := two_store F9.out F10.out T9.out T10.out BX.out Hne.out S9.out S10.out
              obtain ⟨a10, b1, b2, hfin⟩ := hTwo
              have HFin := hid hfin
              clear hfin
              refine wpAnyH_ready (rs := [6]) (by kernel_rfl) (by simp) ?_
              refine AllReadyH.cons rfl (fun K' hK => ?_) AllReadyH.nil
              (try simp only [List.getElem_toArray, List.getElem_cons_succ, List.getElem_cons_zero])
              refine ite_go (by kernel_rfl) ?_
              refine wp1_mstore (.tmp 9) (.tmp 39) rfl g9 D0 R9 rfl rfl F9.out ?_
              refine hK.out _ _ (CF.out _ b1) (fun hHeld => ?_)
              clear hK K'
              generalize mstore Y9 g9 R9 = Z1 at *
              (try simp only [Act.put])
              refine wpAnyH_ready (rs := [7]) (by kernel_rfl) (by simp) ?_
              refine AllReadyH.cons rfl (fun K' hK => ?_) AllReadyH.nil
              (try simp only [List.getElem_toArray, List.getElem_cons_succ, List.getElem_cons_zero])
              refine ite_go (by kernel_rfl) ?_
              refine wp1_mstore (.tmp 10) (.tmp 41) rfl g10 D0 R10 rfl rfl a10 ?_
              refine hK.out _ _ (CF.out _ b2) (fun hHeld => ?_)
              clear hK K'
              generalize mstore Z1 g10 R10 = Z2 at *
              (try simp only [Act.put])
              refine wpAnyH_done (by kernel_rfl) ?_ _
              go_wp2
              go_meet
              exact ⟨_, _, _, _, rfl, rfl, HFin⟩
            · (try simp only [List.getElem_toArray, List.getElem_cons_succ, List.getElem_cons_zero])
              go_simp
              obtain ⟨Y9, hX⟩ : ∃ X, X = (y9).alloc (.cells #[.bool false, .slice none 0 0, .int .i64 0, .bool false, .slice none 0 0, .int .i64 0, .bool false, .slice none 0 0, .int .i64 0, .bool false, .slice none 0 0, .int .i64 0] 26) := ⟨_, rfl⟩
              rw [← hX]
              have F9 : Hid (Mbox Y9 (y9).heap.size D0) := hid (hX ▸ fresh_mass _)
              have S9 := hid (show W1.heap.size ≤ (y9).heap.size from BX.out.size)
              have hb : Hid (Below (y9).heap.size (y9) Y9) := hid (hX ▸ (Below.refl _ _).alloc (Nat.le_refl _) _)
              clear hX
              have Hne : Hid (y9.heap.size ≠ g10) := hid ((Nat.ne_of_lt F10.out.lt).symm)
              replace BX := hid (BX.out.trans (hb.out.mono BX.out.size))
              replace F10 := hid (F10.out.below hb.out F10.out.lt)
              replace T9 := hid (fun k hk => (T9.out k hk).below hb.out)
              clear hb
              generalize (y9).heap.size = g9 at *
              try dsimp only
              refine hK.out _ _ (CF.out _ BX.out) (fun hHeld => ?_)
              clear hK K'
              (try simp only [Act.put, List.setIfInBounds_toArray, List.set_cons_zero, List.set_cons_succ, List.getElem_toArray, List.getElem_cons_succ, List.getElem_cons_zero])
              refine wpAnyH_ready (rs := [3]) (by kernel_rfl) (by simp) ?_
              refine AllReadyH.cons rfl (fun K' hK => ?_) AllReadyH.nil
              (try simp only [List.getElem_toArray, List.getElem_cons_succ, List.getElem_cons_zero])
              go_simp
              refine (CB.out _ BX.out).mono ?_
              rintro e y10 ⟨R10, rfl, T10, hb⟩
              replace T10 := hid (fun k hk => (T10.out k hk).mono BX.out.size)
              replace BX := hid (BX.out.trans (hb.out.mono BX.out.size))
              replace F10 := hid (F10.out.below hb.out F10.out.lt)
              replace T9 := hid (fun k hk => (T9.out k hk).below hb.out)
              replace F9 := hid (F9.out.below hb.out F9.out.lt)
              clear hb
              try dsimp only
              refine hK.out _ _ (CF.out _ BX.out) (fun hHeld => ?_)
              clear hK K'
              (try simp only [Act.put, List.setIfInBounds_toArray, List.set_cons_zero, List.set_cons_succ, List.getElem_toArray, List.getElem_cons_succ, List.getElem_cons_zero])
              have hTwo := two_store F9.out F10.out T9.out T10.out BX.out Hne.out S9.out S10.out
              obtain ⟨a10, b1, b2, hfin⟩ := hTwo
              have HFin := hid hfin
              clear hfin
              refine wpAnyH_ready (rs := [6]) (by kernel_rfl) (by simp) ?_
              refine AllReadyH.cons rfl (fun K' hK => ?_) AllReadyH.nil
              (try simp only [List.getElem_toArray, List.getElem_cons_succ, List.getElem_cons_zero])
              refine ite_go (by kernel_rfl) ?_
              refine wp1_mstore (.tmp 9) (.tmp 39) rfl g9 D0 R9 rfl rfl F9.out ?_
              refine hK.out _ _ (CF.out _ b1) (fun hHeld => ?_)
              clear hK K'
              generalize mstore y10 g9 R9 = Z1 at *
              (try simp only [Act.put])
              refine wpAnyH_ready (rs := [7]) (by kernel_rfl) (by simp) ?_
              refine AllReadyH.cons rfl (fun K' hK => ?_) AllReadyH.nil
              (try simp only [List.getElem_toArray, List.getElem_cons_succ, List.getElem_cons_zero])
              refine ite_go (by kernel_rfl) ?_
              refine wp1_mstore (.tmp 10) (.tmp 41) rfl g10 D0 R10 rfl rfl a10 ?_
              refine hK.out _ _ (CF.out _ b2) (fun hHeld => ?_)
              clear hK K'
              generalize mstore Z1 g10 R10 = Z2 at *
              (try simp only [Act.put])
              refine wpAnyH_done (by kernel_rfl) ?_ _
              go_wp2
              go_meet
              exact ⟨_, _, _, _, rfl, rfl, HFin⟩
          · (try simp only [List.getElem_toArray, List.getElem_cons_succ, List.getElem_cons_zero])
            go_simp
            obtain ⟨Y9, hX⟩ : ∃ X, X = (Y10).alloc (.cells #[.bool false, .slice none 0 0, .int .i64 0, .bool false, .slice none 0 0, .int .i64 0, .bool false, .slice none 0 0, .int .i64 0, .bool false, .slice none 0 0, .int .i64 0] 26) := ⟨_, rfl⟩
            rw [← hX]
            have F9 : Hid (Mbox Y9 (Y10).heap.size D0) := hid (hX ▸ fresh_mass _)
            have S9 := hid (show W1.heap.size ≤ (Y10).heap.size from BX.out.size)
            have hb : Hid (Below (Y10).heap.size (Y10) Y9) := hid (hX ▸ (Below.refl _ _).alloc (Nat.le_refl _) _)
            clear hX
            have Hne : Hid (Y10.heap.size ≠ g10) := hid ((Nat.ne_of_lt F10.out.lt).symm)
            replace BX := hid (BX.out.trans (hb.out.mono BX.out.size))
            replace F10 := hid (F10.out.below hb.out F10.out.lt)
            clear hb
            generalize (Y10).heap.size = g9 at *
            try dsimp only
            refine hK.out _ _ (CF.out _ BX.out) (fun hHeld => ?_)
            clear hK K'
            (try simp only [Act.put, List.setIfInBounds_toArray, List.set_cons_zero, List.set_cons_succ, List.getElem_toArray, List.getElem_cons_succ, List.getElem_cons_zero])
            refine wpAnyH_ready (rs := [1]) (by kernel_rfl) (by simp) ?_
            refine AllReadyH.cons rfl (fun K' hK => ?_) AllReadyH.nil
            (try simp only [List.getElem_toArray, List.getElem_cons_succ, List.getElem_cons_zero])
            go_simp
            refine (CA.out _ BX.out).mono ?_
            rintro e y9 ⟨R9, rfl, T9, hb⟩
            replace T9 := hid (fun k hk => (T9.out k hk).mono BX.out.size)
            replace BX := hid (BX.out.trans (hb.out.mono BX.out.size))
            replace F10 := hid (F10.out.below hb.out F10.out.lt)
            replace F9 := hid (F9.out.below hb.out F9.out.lt)
            clear hb
            try dsimp only
            refine hK.out _ _ (CF.out _ BX.out) (fun hHeld => ?_)
            clear hK K'
            (try simp only [Act.put, List.setIfInBounds_toArray, List.set_cons_zero, List.set_cons_succ, List.getElem_toArray, List.getElem_cons_succ, List.getElem_cons_zero])
            refine wpAnyH_ready (rs := [3]) (by kernel_rfl) (by simp) ?_
            refine AllReadyH.cons rfl (fun K' hK => ?_) AllReadyH.nil
            (try simp only [List.getElem_toArray, List.getElem_cons_succ, List.getElem_cons_zero])
            go_simp
            refine (CB.out _ BX.out).mono ?_
            rintro e y10 ⟨R10, rfl, T10, hb⟩
            replace T10 := hid (fun k hk => (T10.out k hk).mono BX.out.size)
            replace BX := hid (BX.out.trans (hb.out.mono BX.out.size))
            replace F10 := hid (F10.out.below hb.out F10.out.lt)
            replace F9 := hid (F9.out.below hb.out F9.out.lt)
            replace T9 := hid (fun k hk => (T9.out k hk).below hb.out)
            clear hb
            try dsimp only
            refine hK.out _ _ (CF.out _ BX.out) (fun hHeld => ?_)
            clear hK K'
            (try simp only [Act.put, List.setIfInBounds_toArray, List.set_cons_zero, List.set_cons_succ, List.getElem_toArray, List.getElem_cons_succ, List.getElem_cons_zero])
            have hTwo := two_store F9.out F10.out T9.out T10.out BX.out Hne.out S9.out S10.out
            obtain ⟨a10, b1, b2, hfin⟩ := hTwo
            have HFin := hid hfin
            clear hfin
            refine wpAnyH_ready (rs := [6]) (by kernel_rfl) (by simp) ?_
            refine AllReadyH.cons rfl (fun K' hK => ?_) AllReadyH.nil
            (try simp only [List.getElem_toArray, List.getElem_cons_succ, List.getElem_cons_zero])
            refine ite_go (by kernel_rfl) ?_
            refine wp1_mstore (.tmp 9) (.tmp 39) rfl g9 D0 R9 rfl rfl F9.out ?_
            refine hK.out _ _ (CF.out _ b1) (fun hHeld => ?_)
            clear hK K'
            generalize mstore y10 g9 R9 = Z1 at *
            (try simp only [Act.put])
            refine wpAnyH_ready (rs := [7]) (by kernel_rfl) (by simp) ?_
            refine AllReadyH.cons rfl (fun K' hK => ?_) AllReadyH.nil
            (try simp only [List.getElem_toArray, List.getElem_cons_succ, List.getElem_cons_zero])
            refine ite_go (by kernel_rfl) ?_
            refine wp1_mstore (.tmp 10) (.tmp 41) rfl g10 D0 R10 rfl rfl a10 ?_
            refine hK.out _ _ (CF.out _ b2) (fun hHeld => ?_)
            clear hK K'
            generalize mstore Z1 g10 R10 = Z2 at *
            (try simp only [Act.put])
            refine wpAnyH_done (by kernel_rfl) ?_ _
            go_wp2
            go_meet
            exact ⟨_, _, _, _, rfl, rfl, HFin⟩
      case rest =>
        obtain ⟨g9, g10, R9, R10, rfl, rfl, HC⟩ := hcut
        have P9 := hid HC.out.1
        have P10 := hid HC.out.2.1
        have T9 := hid HC.out.2.2.1
        have T10 := hid HC.out.2.2.2.1
        have J := hid HC.out.2.2.2.2
        clear HC
        replace PD := hid (PD.out.below J.out PD.out.lt)
        replace PE := hid (PE.out.below J.out PE.out.lt)
        replace HM := hid (HM.out.below J.out)
        replace HN := hid (HN.out.below J.out)
        replace HTb := hid (HTb.out.below J.out HTb.out.lt)
        replace K := hid (K.out.trans (J.out.mono K.out.size))
        clear J
        have HO : Hid (Mar wc q M R9) := hid (fun k hk => (T9.out k hk).read (HM.out k hk))
        have HP : Hid (Mar wc p N R10) := hid (fun k hk => (T10.out k hk).read (HN.out k hk))
        have KB := hid (Below.refl wc.heap.size wc)
        have HKW := hid (show w.heap.size ≤ wc.heap.size from K.out.size)
        have HMc := HM
        have HNc := HN
        have HOc := HO
        have HPc := HP
        have PDc := PD
        have PEc := PE
        have Kc := K
        have P9c := P9
        have P10c := P10
        go_wp2_with (first
          | (with_reducible refine wp_mload rfl (.tmp 4) rfl w.heap.size D rfl PD.out ?_)
          | (with_reducible refine wp_mload rfl (.tmp 5) rfl (w.heap.size + 1) E rfl PE.out ?_)
          | (with_reducible refine wp_mload rfl (.tmp 9) rfl g9 R9 rfl P9.out ?_)
          | (with_reducible refine wp_mload rfl (.tmp 10) rfl g10 R10 rfl P10.out ?_)
          | (with_reducible refine wp_mload_g (by kernel_rfl) (.tmp 4) rfl w.heap.size D rfl PD.out ?_)
          | (with_reducible refine wp_mload_g (by kernel_rfl) (.tmp 5) rfl (w.heap.size + 1) E rfl PE.out ?_)
          | (with_reducible refine wp_mload_g (by kernel_rfl) (.tmp 9) rfl g9 R9 rfl P9.out ?_)
          | (with_reducible refine wp_mload_g (by kernel_rfl) (.tmp 10) rfl g10 R10 rfl P10.out ?_)
          | fail)
        refine (madd_any HO.out HP.out HTb.out).mono ?_
        rintro e y1 ⟨Dp, ep, rfl, HEp, HVp, hb⟩
        have Zc1 := hid hb.out.size
        replace KB := hid (KB.out.trans (hb.out.mono KB.out.size))
        replace K := hid (K.out.trans (hb.out.mono K.out.size))
        replace HM := hid (HM.out.below hb.out)
        replace HN := hid (HN.out.below hb.out)
        replace HO := hid (HO.out.below hb.out)
        replace HP := hid (HP.out.below hb.out)
        replace HTb := hid (HTb.out.below hb.out HTb.out.lt)
        replace PD := hid (PD.out.below hb.out PD.out.lt)
        replace PE := hid (PE.out.below hb.out PE.out.lt)
        replace P9 := hid (P9.out.below hb.out P9.out.lt)
        replace P10 := hid (P10.out.below hb.out P10.out.lt)
        have Swp : Hid (∀ k, k < 4 → Sw wc.heap.size y1.heap.size y1 (Dp k)) := hid (fun k hk => (HVp.out k hk).sw (HVp.out k hk).ahead)
        have Lop := hid (show wc.heap.size ≤ wc.heap.size ∧ wc.heap.size ≤ y1.heap.size from ⟨Nat.le_refl _, hb.out.size⟩)
        have Hsy1 := hid (show wc.heap.size ≤ y1.heap.size from KB.out.size)
        clear hb
        have F_P11 := hid (fresh_mass y1)
        go_upto_region 5 with (first
          | (with_reducible refine wp_mstore rfl (.tmp 11) (.tmp 46) rfl y1.heap.size D0 Dp rfl rfl F_P11.out ?_)
          | (with_reducible refine wp_mload rfl (.tmp 4) rfl w.heap.size D rfl PD.out ?_)
          | (with_reducible refine wp_mload rfl (.tmp 5) rfl (w.heap.size + 1) E rfl PE.out ?_)
          | (with_reducible refine wp_mload rfl (.tmp 9) rfl g9 R9 rfl P9.out ?_)
          | (with_reducible refine wp_mload rfl (.tmp 10) rfl g10 R10 rfl P10.out ?_)
          | (with_reducible refine wp_mload_g (by kernel_rfl) (.tmp 4) rfl w.heap.size D rfl PD.out ?_)
          | (with_reducible refine wp_mload_g (by kernel_rfl) (.tmp 5) rfl (w.heap.size + 1) E rfl PE.out ?_)
          | (with_reducible refine wp_mload_g (by kernel_rfl) (.tmp 9) rfl g9 R9 rfl P9.out ?_)
          | (with_reducible refine wp_mload_g (by kernel_rfl) (.tmp 10) rfl g10 R10 rfl P10.out ?_)
          | fail)
        obtain ⟨Y1, hY1⟩ : ∃ W, W = mstore (y1.alloc (.cells #[.bool false, .slice none 0 0, .int .i64 0, .bool false, .slice none 0 0, .int .i64 0, .bool false, .slice none 0 0, .int .i64 0, .bool false, .slice none 0 0, .int .i64 0] 26)) y1.heap.size Dp := ⟨_, rfl⟩
        rw [← hY1]
        have P11 : Hid (Mbox Y1 y1.heap.size Dp) := hid (hY1 ▸ (new_mass y1 Dp).1)
        have hn : Hid (Below y1.heap.size y1 Y1) := hid (hY1 ▸ (new_mass y1 Dp).2)
        clear hY1 F_P11
        have Zc2 := hid hn.out.size
        replace KB := hid (KB.out.trans (hn.out.mono KB.out.size))
        replace K := hid (K.out.trans (hn.out.mono K.out.size))
        replace HM := hid (HM.out.below hn.out)
        replace HN := hid (HN.out.below hn.out)
        replace HO := hid (HO.out.below hn.out)
        replace HP := hid (HP.out.below hn.out)
        replace HTb := hid (HTb.out.below hn.out HTb.out.lt)
        replace PD := hid (PD.out.below hn.out PD.out.lt)
        replace PE := hid (PE.out.below hn.out PE.out.lt)
        replace P9 := hid (P9.out.below hn.out P9.out.lt)
        replace P10 := hid (P10.out.below hn.out P10.out.lt)
        replace HVp := hid (HVp.out.below hn.out)
        replace Swp := hid (fun k hk => (Swp.out k hk).below hn.out)
        clear hn
        have Zs11 := hid P11.out.lt
        have HsY1 := hid (show wc.heap.size ≤ Y1.heap.size from KB.out.size)
        go_wp2_with (first
          | (with_reducible refine wp_mload rfl (.tmp 4) rfl w.heap.size D rfl PD.out ?_)
          | (with_reducible refine wp_mload rfl (.tmp 5) rfl (w.heap.size + 1) E rfl PE.out ?_)
          | (with_reducible refine wp_mload rfl (.tmp 9) rfl g9 R9 rfl P9.out ?_)
          | (with_reducible refine wp_mload rfl (.tmp 10) rfl g10 R10 rfl P10.out ?_)
          | (with_reducible refine wp_mload rfl (.tmp 11) rfl y1.heap.size Dp rfl P11.out ?_)
          | (with_reducible refine wp_mload_g (by kernel_rfl) (.tmp 4) rfl w.heap.size D rfl PD.out ?_)
          | (with_reducible refine wp_mload_g (by kernel_rfl) (.tmp 5) rfl (w.heap.size + 1) E rfl PE.out ?_)
          | (with_reducible refine wp_mload_g (by kernel_rfl) (.tmp 9) rfl g9 R9 rfl P9.out ?_)
          | (with_reducible refine wp_mload_g (by kernel_rfl) (.tmp 10) rfl g10 R10 rfl P10.out ?_)
          | (with_reducible refine wp_mload_g (by kernel_rfl) (.tmp 11) rfl y1.heap.size Dp rfl P11.out ?_)
          | fail)
        refine (emadd_any HM.out.mrr HN.out.mrr).mono ?_
        rintro e y2 ⟨Dq, eq, rfl, HEq, HVq, hb⟩
        have Zc3 := hid hb.out.size
        replace KB := hid (KB.out.trans (hb.out.mono KB.out.size))
        replace K := hid (K.out.trans (hb.out.mono K.out.size))
        replace HM := hid (HM.out.below hb.out)
        replace HN := hid (HN.out.below hb.out)
        replace HO := hid (HO.out.below hb.out)
        replace HP := hid (HP.out.below hb.out)
        replace HTb := hid (HTb.out.below hb.out HTb.out.lt)
        replace PD := hid (PD.out.below hb.out PD.out.lt)
        replace PE := hid (PE.out.below hb.out PE.out.lt)
        replace P9 := hid (P9.out.below hb.out P9.out.lt)
        replace P10 := hid (P10.out.below hb.out P10.out.lt)
        replace HVp := hid (HVp.out.below hb.out)
        replace P11 := hid (P11.out.below hb.out P11.out.lt)
        replace Swp := hid (fun k hk => (Swp.out k hk).below hb.out)
        have Hsy2 := hid (show wc.heap.size ≤ y2.heap.size from KB.out.size)
        clear hb
        obtain rfl : eq = ep := HEq.out.uniq HEp.out Iff.rfl (fun _ _ => rfl)
        clear HEp HEq
        have F_P13 := hid (fresh_mass y2)
        go_upto_region 6 with (first
          | (with_reducible refine wp_mstore rfl (.tmp 13) (.tmp 52) rfl y2.heap.size D0 Dq rfl rfl F_P13.out ?_)
          | (with_reducible refine wp_mload rfl (.tmp 4) rfl w.heap.size D rfl PD.out ?_)
          | (with_reducible refine wp_mload rfl (.tmp 5) rfl (w.heap.size + 1) E rfl PE.out ?_)
          | (with_reducible refine wp_mload rfl (.tmp 9) rfl g9 R9 rfl P9.out ?_)
          | (with_reducible refine wp_mload rfl (.tmp 10) rfl g10 R10 rfl P10.out ?_)
          | (with_reducible refine wp_mload rfl (.tmp 11) rfl y1.heap.size Dp rfl P11.out ?_)
          | (with_reducible refine wp_mload_g (by kernel_rfl) (.tmp 4) rfl w.heap.size D rfl PD.out ?_)
          | (with_reducible refine wp_mload_g (by kernel_rfl) (.tmp 5) rfl (w.heap.size + 1) E rfl PE.out ?_)
          | (with_reducible refine wp_mload_g (by kernel_rfl) (.tmp 9) rfl g9 R9 rfl P9.out ?_)
          | (with_reducible refine wp_mload_g (by kernel_rfl) (.tmp 10) rfl g10 R10 rfl P10.out ?_)
          | (with_reducible refine wp_mload_g (by kernel_rfl) (.tmp 11) rfl y1.heap.size Dp rfl P11.out ?_)
          | fail)
        obtain ⟨Y2, hY2⟩ : ∃ W, W = mstore (y2.alloc (.cells #[.bool false, .slice none 0 0, .int .i64 0, .bool false, .slice none 0 0, .int .i64 0, .bool false, .slice none 0 0, .int .i64 0, .bool false, .slice none 0 0, .int .i64 0] 26)) y2.heap.size Dq := ⟨_, rfl⟩
        rw [← hY2]
        have P13 : Hid (Mbox Y2 y2.heap.size Dq) := hid (hY2 ▸ (new_mass y2 Dq).1)
        have hn : Hid (Below y2.heap.size y2 Y2) := hid (hY2 ▸ (new_mass y2 Dq).2)
        clear hY2 F_P13
        have Zc4 := hid hn.out.size
        replace KB := hid (KB.out.trans (hn.out.mono KB.out.size))
        replace K := hid (K.out.trans (hn.out.mono K.out.size))
        replace HM := hid (HM.out.below hn.out)
        replace HN := hid (HN.out.below hn.out)
        replace HO := hid (HO.out.below hn.out)
        replace HP := hid (HP.out.below hn.out)
        replace HTb := hid (HTb.out.below hn.out HTb.out.lt)
        replace PD := hid (PD.out.below hn.out PD.out.lt)
        replace PE := hid (PE.out.below hn.out PE.out.lt)
        replace P9 := hid (P9.out.below hn.out P9.out.lt)
        replace P10 := hid (P10.out.below hn.out P10.out.lt)
        replace HVp := hid (HVp.out.below hn.out)
        replace P11 := hid (P11.out.below hn.out P11.out.lt)
        replace HVq := hid (HVq.out.below hn.out)
        replace Swp := hid (fun k hk => (Swp.out k hk).below hn.out)
        clear hn
        have Zs13 := hid P13.out.lt
        have HsY2 := hid (show wc.heap.size ≤ Y2.heap.size from KB.out.size)
        go_wp2_with (first
          | (with_reducible refine wp_mload rfl (.tmp 4) rfl w.heap.size D rfl PD.out ?_)
          | (with_reducible refine wp_mload rfl (.tmp 5) rfl (w.heap.size + 1) E rfl PE.out ?_)
          | (with_reducible refine wp_mload rfl (.tmp 9) rfl g9 R9 rfl P9.out ?_)
          | (with_reducible refine wp_mload rfl (.tmp 10) rfl g10 R10 rfl P10.out ?_)
          | (with_reducible refine wp_mload rfl (.tmp 11) rfl y1.heap.size Dp rfl P11.out ?_)
          | (with_reducible refine wp_mload rfl (.tmp 13) rfl y2.heap.size Dq rfl P13.out ?_)
          | (with_reducible refine wp_mload_g (by kernel_rfl) (.tmp 4) rfl w.heap.size D rfl PD.out ?_)
          | (with_reducible refine wp_mload_g (by kernel_rfl) (.tmp 5) rfl (w.heap.size + 1) E rfl PE.out ?_)
          | (with_reducible refine wp_mload_g (by kernel_rfl) (.tmp 9) rfl g9 R9 rfl P9.out ?_)
          | (with_reducible refine wp_mload_g (by kernel_rfl) (.tmp 10) rfl g10 R10 rfl P10.out ?_)
          | (with_reducible refine wp_mload_g (by kernel_rfl) (.tmp 11) rfl y1.heap.size Dp rfl P11.out ?_)
          | (with_reducible refine wp_mload_g (by kernel_rfl) (.tmp 13) rfl y2.heap.size Dq rfl P13.out ?_)
          | fail)
        refine (msub_any HO.out HP.out HTb.out).mono ?_
        rintro e y3 ⟨Dd, ed, rfl, HEd, HVd, hb⟩
        have Zc5 := hid hb.out.size
        replace KB := hid (KB.out.trans (hb.out.mono KB.out.size))
        replace K := hid (K.out.trans (hb.out.mono K.out.size))
        replace HM := hid (HM.out.below hb.out)
        replace HN := hid (HN.out.below hb.out)
        replace HO := hid (HO.out.below hb.out)
        replace HP := hid (HP.out.below hb.out)
        replace HTb := hid (HTb.out.below hb.out HTb.out.lt)
        replace PD := hid (PD.out.below hb.out PD.out.lt)
        replace PE := hid (PE.out.below hb.out PE.out.lt)
        replace P9 := hid (P9.out.below hb.out P9.out.lt)
        replace P10 := hid (P10.out.below hb.out P10.out.lt)
        replace HVp := hid (HVp.out.below hb.out)
        replace P11 := hid (P11.out.below hb.out P11.out.lt)
        replace HVq := hid (HVq.out.below hb.out)
        replace P13 := hid (P13.out.below hb.out P13.out.lt)
        replace Swp := hid (fun k hk => (Swp.out k hk).below hb.out)
        have Swd : Hid (∀ k, k < 4 → Sw Y2.heap.size y3.heap.size y3 (Dd k)) := hid (fun k hk => (HVd.out k hk).sw (HVd.out k hk).ahead)
        have Lod := hid (show wc.heap.size ≤ Y2.heap.size ∧ Y2.heap.size ≤ y3.heap.size from ⟨HsY2.out, hb.out.size⟩)
        have Hsy3 := hid (show wc.heap.size ≤ y3.heap.size from KB.out.size)
        clear hb
        have F_P15 := hid (fresh_mass y3)
        go_upto_region 7 with (first
          | (with_reducible refine wp_mstore rfl (.tmp 15) (.tmp 58) rfl y3.heap.size D0 Dd rfl rfl F_P15.out ?_)
          | (with_reducible refine wp_mload rfl (.tmp 4) rfl w.heap.size D rfl PD.out ?_)
          | (with_reducible refine wp_mload rfl (.tmp 5) rfl (w.heap.size + 1) E rfl PE.out ?_)
          | (with_reducible refine wp_mload rfl (.tmp 9) rfl g9 R9 rfl P9.out ?_)
          | (with_reducible refine wp_mload rfl (.tmp 10) rfl g10 R10 rfl P10.out ?_)
          | (with_reducible refine wp_mload rfl (.tmp 11) rfl y1.heap.size Dp rfl P11.out ?_)
          | (with_reducible refine wp_mload rfl (.tmp 13) rfl y2.heap.size Dq rfl P13.out ?_)
          | (with_reducible refine wp_mload_g (by kernel_rfl) (.tmp 4) rfl w.heap.size D rfl PD.out ?_)
          | (with_reducible refine wp_mload_g (by kernel_rfl) (.tmp 5) rfl (w.heap.size + 1) E rfl PE.out ?_)
          | (with_reducible refine wp_mload_g (by kernel_rfl) (.tmp 9) rfl g9 R9 rfl P9.out ?_)
          | (with_reducible refine wp_mload_g (by kernel_rfl) (.tmp 10) rfl g10 R10 rfl P10.out ?_)
          | (with_reducible refine wp_mload_g (by kernel_rfl) (.tmp 11) rfl y1.heap.size Dp rfl P11.out ?_)
          | (with_reducible refine wp_mload_g (by kernel_rfl) (.tmp 13) rfl y2.heap.size Dq rfl P13.out ?_)
          | fail)
        obtain ⟨Y3, hY3⟩ : ∃ W, W = mstore (y3.alloc (.cells #[.bool false, .slice none 0 0, .int .i64 0, .bool false, .slice none 0 0, .int .i64 0, .bool false, .slice none 0 0, .int .i64 0, .bool false, .slice none 0 0, .int .i64 0] 26)) y3.heap.size Dd := ⟨_, rfl⟩
        rw [← hY3]
        have P15 : Hid (Mbox Y3 y3.heap.size Dd) := hid (hY3 ▸ (new_mass y3 Dd).1)
        have hn : Hid (Below y3.heap.size y3 Y3) := hid (hY3 ▸ (new_mass y3 Dd).2)
        clear hY3 F_P15
        have Zc6 := hid hn.out.size
        replace KB := hid (KB.out.trans (hn.out.mono KB.out.size))
        replace K := hid (K.out.trans (hn.out.mono K.out.size))
        replace HM := hid (HM.out.below hn.out)
        replace HN := hid (HN.out.below hn.out)
        replace HO := hid (HO.out.below hn.out)
        replace HP := hid (HP.out.below hn.out)
        replace HTb := hid (HTb.out.below hn.out HTb.out.lt)
        replace PD := hid (PD.out.below hn.out PD.out.lt)
        replace PE := hid (PE.out.below hn.out PE.out.lt)
        replace P9 := hid (P9.out.below hn.out P9.out.lt)
        replace P10 := hid (P10.out.below hn.out P10.out.lt)
        replace HVp := hid (HVp.out.below hn.out)
        replace P11 := hid (P11.out.below hn.out P11.out.lt)
        replace HVq := hid (HVq.out.below hn.out)
        replace P13 := hid (P13.out.below hn.out P13.out.lt)
        replace HVd := hid (HVd.out.below hn.out)
        replace Swp := hid (fun k hk => (Swp.out k hk).below hn.out)
        replace Swd := hid (fun k hk => (Swd.out k hk).below hn.out)
        clear hn
        have Zs15 := hid P15.out.lt
        have HsY3 := hid (show wc.heap.size ≤ Y3.heap.size from KB.out.size)
        go_wp2_with (first
          | (with_reducible refine wp_mload rfl (.tmp 4) rfl w.heap.size D rfl PD.out ?_)
          | (with_reducible refine wp_mload rfl (.tmp 5) rfl (w.heap.size + 1) E rfl PE.out ?_)
          | (with_reducible refine wp_mload rfl (.tmp 9) rfl g9 R9 rfl P9.out ?_)
          | (with_reducible refine wp_mload rfl (.tmp 10) rfl g10 R10 rfl P10.out ?_)
          | (with_reducible refine wp_mload rfl (.tmp 11) rfl y1.heap.size Dp rfl P11.out ?_)
          | (with_reducible refine wp_mload rfl (.tmp 13) rfl y2.heap.size Dq rfl P13.out ?_)
          | (with_reducible refine wp_mload rfl (.tmp 15) rfl y3.heap.size Dd rfl P15.out ?_)
          | (with_reducible refine wp_mload_g (by kernel_rfl) (.tmp 4) rfl w.heap.size D rfl PD.out ?_)
          | (with_reducible refine wp_mload_g (by kernel_rfl) (.tmp 5) rfl (w.heap.size + 1) E rfl PE.out ?_)
          | (with_reducible refine wp_mload_g (by kernel_rfl) (.tmp 9) rfl g9 R9 rfl P9.out ?_)
          | (with_reducible refine wp_mload_g (by kernel_rfl) (.tmp 10) rfl g10 R10 rfl P10.out ?_)
          | (with_reducible refine wp_mload_g (by kernel_rfl) (.tmp 11) rfl y1.heap.size Dp rfl P11.out ?_)
          | (with_reducible refine wp_mload_g (by kernel_rfl) (.tmp 13) rfl y2.heap.size Dq rfl P13.out ?_)
          | (with_reducible refine wp_mload_g (by kernel_rfl) (.tmp 15) rfl y3.heap.size Dd rfl P15.out ?_)
          | fail)
        refine (emsub_any HM.out.mrr HN.out.mrr).mono ?_
        rintro e y4 ⟨Dc, ec, rfl, HEc, HVc, hb⟩
        have Zc7 := hid hb.out.size
        replace KB := hid (KB.out.trans (hb.out.mono KB.out.size))
        replace K := hid (K.out.trans (hb.out.mono K.out.size))
        replace HM := hid (HM.out.below hb.out)
        replace HN := hid (HN.out.below hb.out)
        replace HO := hid (HO.out.below hb.out)
        replace HP := hid (HP.out.below hb.out)
        replace HTb := hid (HTb.out.below hb.out HTb.out.lt)
        replace PD := hid (PD.out.below hb.out PD.out.lt)
        replace PE := hid (PE.out.below hb.out PE.out.lt)
        replace P9 := hid (P9.out.below hb.out P9.out.lt)
        replace P10 := hid (P10.out.below hb.out P10.out.lt)
        replace HVp := hid (HVp.out.below hb.out)
        replace P11 := hid (P11.out.below hb.out P11.out.lt)
        replace HVq := hid (HVq.out.below hb.out)
        replace P13 := hid (P13.out.below hb.out P13.out.lt)
        replace HVd := hid (HVd.out.below hb.out)
        replace P15 := hid (P15.out.below hb.out P15.out.lt)
        replace Swp := hid (fun k hk => (Swp.out k hk).below hb.out)
        replace Swd := hid (fun k hk => (Swd.out k hk).below hb.out)
        have Hsy4 := hid (show wc.heap.size ≤ y4.heap.size from KB.out.size)
        clear hb
        obtain rfl : ec = ed := HEc.out.uniq HEd.out Iff.rfl (fun k _ => by show M k + -N k = M k - N k; omega)
        clear HEd HEc
        have F_P17 := hid (fresh_mass y4)
        go_upto_region 8 with (first
          | (with_reducible refine wp_mstore rfl (.tmp 17) (.tmp 64) rfl y4.heap.size D0 Dc rfl rfl F_P17.out ?_)
          | (with_reducible refine wp_mload rfl (.tmp 4) rfl w.heap.size D rfl PD.out ?_)
          | (with_reducible refine wp_mload rfl (.tmp 5) rfl (w.heap.size + 1) E rfl PE.out ?_)
          | (with_reducible refine wp_mload rfl (.tmp 9) rfl g9 R9 rfl P9.out ?_)
          | (with_reducible refine wp_mload rfl (.tmp 10) rfl g10 R10 rfl P10.out ?_)
          | (with_reducible refine wp_mload rfl (.tmp 11) rfl y1.heap.size Dp rfl P11.out ?_)
          | (with_reducible refine wp_mload rfl (.tmp 13) rfl y2.heap.size Dq rfl P13.out ?_)
          | (with_reducible refine wp_mload rfl (.tmp 15) rfl y3.heap.size Dd rfl P15.out ?_)
          | (with_reducible refine wp_mload_g (by kernel_rfl) (.tmp 4) rfl w.heap.size D rfl PD.out ?_)
          | (with_reducible refine wp_mload_g (by kernel_rfl) (.tmp 5) rfl (w.heap.size + 1) E rfl PE.out ?_)
          | (with_reducible refine wp_mload_g (by kernel_rfl) (.tmp 9) rfl g9 R9 rfl P9.out ?_)
          | (with_reducible refine wp_mload_g (by kernel_rfl) (.tmp 10) rfl g10 R10 rfl P10.out ?_)
          | (with_reducible refine wp_mload_g (by kernel_rfl) (.tmp 11) rfl y1.heap.size Dp rfl P11.out ?_)
          | (with_reducible refine wp_mload_g (by kernel_rfl) (.tmp 13) rfl y2.heap.size Dq rfl P13.out ?_)
          | (with_reducible refine wp_mload_g (by kernel_rfl) (.tmp 15) rfl y3.heap.size Dd rfl P15.out ?_)
          | fail)
        obtain ⟨Y4, hY4⟩ : ∃ W, W = mstore (y4.alloc (.cells #[.bool false, .slice none 0 0, .int .i64 0, .bool false, .slice none 0 0, .int .i64 0, .bool false, .slice none 0 0, .int .i64 0, .bool false, .slice none 0 0, .int .i64 0] 26)) y4.heap.size Dc := ⟨_, rfl⟩
        rw [← hY4]
        have P17 : Hid (Mbox Y4 y4.heap.size Dc) := hid (hY4 ▸ (new_mass y4 Dc).1)
        have hn : Hid (Below y4.heap.size y4 Y4) := hid (hY4 ▸ (new_mass y4 Dc).2)
        clear hY4 F_P17
        have Zc8 := hid hn.out.size
        replace KB := hid (KB.out.trans (hn.out.mono KB.out.size))
        replace K := hid (K.out.trans (hn.out.mono K.out.size))
        replace HM := hid (HM.out.below hn.out)
        replace HN := hid (HN.out.below hn.out)
        replace HO := hid (HO.out.below hn.out)
        replace HP := hid (HP.out.below hn.out)
        replace HTb := hid (HTb.out.below hn.out HTb.out.lt)
        replace PD := hid (PD.out.below hn.out PD.out.lt)
        replace PE := hid (PE.out.below hn.out PE.out.lt)
        replace P9 := hid (P9.out.below hn.out P9.out.lt)
        replace P10 := hid (P10.out.below hn.out P10.out.lt)
        replace HVp := hid (HVp.out.below hn.out)
        replace P11 := hid (P11.out.below hn.out P11.out.lt)
        replace HVq := hid (HVq.out.below hn.out)
        replace P13 := hid (P13.out.below hn.out P13.out.lt)
        replace HVd := hid (HVd.out.below hn.out)
        replace P15 := hid (P15.out.below hn.out P15.out.lt)
        replace HVc := hid (HVc.out.below hn.out)
        replace Swp := hid (fun k hk => (Swp.out k hk).below hn.out)
        replace Swd := hid (fun k hk => (Swd.out k hk).below hn.out)
        clear hn
        have Zs17 := hid P17.out.lt
        have HsY4 := hid (show wc.heap.size ≤ Y4.heap.size from KB.out.size)
        go_wp2_with (first
          | (with_reducible refine wp_mload rfl (.tmp 4) rfl w.heap.size D rfl PD.out ?_)
          | (with_reducible refine wp_mload rfl (.tmp 5) rfl (w.heap.size + 1) E rfl PE.out ?_)
          | (with_reducible refine wp_mload rfl (.tmp 9) rfl g9 R9 rfl P9.out ?_)
          | (with_reducible refine wp_mload rfl (.tmp 10) rfl g10 R10 rfl P10.out ?_)
          | (with_reducible refine wp_mload rfl (.tmp 11) rfl y1.heap.size Dp rfl P11.out ?_)
          | (with_reducible refine wp_mload rfl (.tmp 13) rfl y2.heap.size Dq rfl P13.out ?_)
          | (with_reducible refine wp_mload rfl (.tmp 15) rfl y3.heap.size Dd rfl P15.out ?_)
          | (with_reducible refine wp_mload rfl (.tmp 17) rfl y4.heap.size Dc rfl P17.out ?_)
          | (with_reducible refine wp_mload_g (by kernel_rfl) (.tmp 4) rfl w.heap.size D rfl PD.out ?_)
          | (with_reducible refine wp_mload_g (by kernel_rfl) (.tmp 5) rfl (w.heap.size + 1) E rfl PE.out ?_)
          | (with_reducible refine wp_mload_g (by kernel_rfl) (.tmp 9) rfl g9 R9 rfl P9.out ?_)
          | (with_reducible refine wp_mload_g (by kernel_rfl) (.tmp 10) rfl g10 R10 rfl P10.out ?_)
          | (with_reducible refine wp_mload_g (by kernel_rfl) (.tmp 11) rfl y1.heap.size Dp rfl P11.out ?_)
          | (with_reducible refine wp_mload_g (by kernel_rfl) (.tmp 13) rfl y2.heap.size Dq rfl P13.out ?_)
          | (with_reducible refine wp_mload_g (by kernel_rfl) (.tmp 15) rfl y3.heap.size Dd rfl P15.out ?_)
          | (with_reducible refine wp_mload_g (by kernel_rfl) (.tmp 17) rfl y4.heap.size Dc rfl P17.out ?_)
          | fail)
        refine (msplit_any HO.out HTb.out).mono ?_
        rintro e y5 ⟨H0, H1, HH, Dk, Ds, ei, rfl, HEi, HKS, hb⟩
        have Zc9 := hid hb.out.size
        replace KB := hid (KB.out.trans (hb.out.mono KB.out.size))
        replace K := hid (K.out.trans (hb.out.mono K.out.size))
        replace HM := hid (HM.out.below hb.out)
        replace HN := hid (HN.out.below hb.out)
        replace HO := hid (HO.out.below hb.out)
        replace HP := hid (HP.out.below hb.out)
        replace HTb := hid (HTb.out.below hb.out HTb.out.lt)
        replace PD := hid (PD.out.below hb.out PD.out.lt)
        replace PE := hid (PE.out.below hb.out PE.out.lt)
        replace P9 := hid (P9.out.below hb.out P9.out.lt)
        replace P10 := hid (P10.out.below hb.out P10.out.lt)
        replace HVp := hid (HVp.out.below hb.out)
        replace P11 := hid (P11.out.below hb.out P11.out.lt)
        replace HVq := hid (HVq.out.below hb.out)
        replace P13 := hid (P13.out.below hb.out P13.out.lt)
        replace HVd := hid (HVd.out.below hb.out)
        replace P15 := hid (P15.out.below hb.out P15.out.lt)
        replace HVc := hid (HVc.out.below hb.out)
        replace P17 := hid (P17.out.below hb.out P17.out.lt)
        replace Swp := hid (fun k hk => (Swp.out k hk).below hb.out)
        replace Swd := hid (fun k hk => (Swd.out k hk).below hb.out)
        obtain ⟨B0, HB0, HVk, HVs, HSB⟩ := HKS.out
        obtain ⟨B, hBB⟩ : ∃ B, B = min B0 y5.heap.size := ⟨_, rfl⟩
        have HB : Y4.heap.size ≤ B ∧ B ≤ y5.heap.size := ⟨by have := hb.out.size; omega, by omega⟩
        have HVs := hid HVs
        have Sws : Hid (∀ k, k < 4 → Sw Y4.heap.size B y5 (Ds k)) := hid (fun k hk => (HVs.out k hk).sw (fun h0 g o hA => by have := (HVs.out k hk).before (HSB k hk) h0 g o hA; have := (HVs.out k hk).ahead h0 g o hA; omega))
        have HVk := hid (HVk.mono (show B ≤ B0 by omega))
        have Hss : Hid (Y4.heap.size ≤ B ∧ B ≤ y5.heap.size ∨ True) := hid (.inr trivial)
        have Swk : Hid (∀ k, k < 4 → Sw B y5.heap.size y5 (Dk k)) := hid (fun k hk => (HVk.out k hk).sw (HVk.out k hk).ahead)
        have HLB := hid HB
        clear hBB HB0
        clear HB HSB HKS Hss hb
        have Hsy5 := hid (show wc.heap.size ≤ y5.heap.size from KB.out.size)
        have fr0 := hid (fresh_mass y5)
        have fr1 : Hid (Mbox ((y5.alloc (.cells #[.bool false, .slice none 0 0, .int .i64 0, .bool false, .slice none 0 0, .int .i64 0, .bool false, .slice none 0 0, .int .i64 0, .bool false, .slice none 0 0, .int .i64 0] 26)).alloc (.cells #[.bool false, .slice none 0 0, .int .i64 0, .bool false, .slice none 0 0, .int .i64 0, .bool false, .slice none 0 0, .int .i64 0, .bool false, .slice none 0 0, .int .i64 0] 26)) y5.heap.size D0) := hid (fr0.out.alloc _)
        have fr2 : Hid (Mbox (mstore ((y5.alloc (.cells #[.bool false, .slice none 0 0, .int .i64 0, .bool false, .slice none 0 0, .int .i64 0, .bool false, .slice none 0 0, .int .i64 0, .bool false, .slice none 0 0, .int .i64 0] 26)).alloc (.cells #[.bool false, .slice none 0 0, .int .i64 0, .bool false, .slice none 0 0, .int .i64 0, .bool false, .slice none 0 0, .int .i64 0, .bool false, .slice none 0 0, .int .i64 0] 26)) y5.heap.size Dk) (y5.heap.size + 1) D0) := hid (Mbox.grown (show Mbox ((y5.alloc _).alloc _) (y5.heap.size + 1) D0 from new_at (by simp)) (grown_mstore _ _ Dk) (by omega))
        go_upto_region 9 with (first
          | (with_reducible refine wp_mstore rfl (.tmp 19) (.tmp 69) rfl y5.heap.size D0 Dk rfl rfl fr1.out ?_)
          | (with_reducible refine wp_mstore rfl (.tmp 20) (.tmp 70) rfl (y5.heap.size + 1) D0 Ds rfl rfl fr2.out ?_)
          | (with_reducible refine wp_mload rfl (.tmp 4) rfl w.heap.size D rfl PD.out ?_)
          | (with_reducible refine wp_mload rfl (.tmp 5) rfl (w.heap.size + 1) E rfl PE.out ?_)
          | (with_reducible refine wp_mload rfl (.tmp 9) rfl g9 R9 rfl P9.out ?_)
          | (with_reducible refine wp_mload rfl (.tmp 10) rfl g10 R10 rfl P10.out ?_)
          | (with_reducible refine wp_mload rfl (.tmp 11) rfl y1.heap.size Dp rfl P11.out ?_)
          | (with_reducible refine wp_mload rfl (.tmp 13) rfl y2.heap.size Dq rfl P13.out ?_)
          | (with_reducible refine wp_mload rfl (.tmp 15) rfl y3.heap.size Dd rfl P15.out ?_)
          | (with_reducible refine wp_mload rfl (.tmp 17) rfl y4.heap.size Dc rfl P17.out ?_)
          | (with_reducible refine wp_mload_g (by kernel_rfl) (.tmp 4) rfl w.heap.size D rfl PD.out ?_)
          | (with_reducible refine wp_mload_g (by kernel_rfl) (.tmp 5) rfl (w.heap.size + 1) E rfl PE.out ?_)
          | (with_reducible refine wp_mload_g (by kernel_rfl) (.tmp 9) rfl g9 R9 rfl P9.out ?_)
          | (with_reducible refine wp_mload_g (by kernel_rfl) (.tmp 10) rfl g10 R10 rfl P10.out ?_)
          | (with_reducible refine wp_mload_g (by kernel_rfl) (.tmp 11) rfl y1.heap.size Dp rfl P11.out ?_)
          | (with_reducible refine wp_mload_g (by kernel_rfl) (.tmp 13) rfl y2.heap.size Dq rfl P13.out ?_)
          | (with_reducible refine wp_mload_g (by kernel_rfl) (.tmp 15) rfl y3.heap.size Dd rfl P15.out ?_)
          | (with_reducible refine wp_mload_g (by kernel_rfl) (.tmp 17) rfl y4.heap.size Dc rfl P17.out ?_)
          | fail)
        obtain ⟨Y5, hY5⟩ : ∃ W, W = mstore (mstore ((y5.alloc (.cells #[.bool false, .slice none 0 0, .int .i64 0, .bool false, .slice none 0 0, .int .i64 0, .bool false, .slice none 0 0, .int .i64 0, .bool false, .slice none 0 0, .int .i64 0] 26)).alloc (.cells #[.bool false, .slice none 0 0, .int .i64 0, .bool false, .slice none 0 0, .int .i64 0, .bool false, .slice none 0 0, .int .i64 0, .bool false, .slice none 0 0, .int .i64 0] 26)) y5.heap.size Dk) (y5.heap.size + 1) Ds := ⟨_, rfl⟩
        rw [← hY5]
        have P19 : Hid (Mbox Y5 y5.heap.size Dk) := hid (hY5 ▸ (fr1.out.store Dk).grown (grown_mstore _ _ Ds) (by omega))
        have P20 : Hid (Mbox Y5 (y5.heap.size + 1) Ds) := hid (hY5 ▸ fr2.out.store Ds)
        have hn : Hid (Below y5.heap.size y5 Y5) := hid (hY5 ▸ below_row (below_row (((Below.refl _ y5).alloc (Nat.le_refl _) _).alloc (by simp) _) (grown_mstore _ _ Dk) (by simp; omega) (Nat.le_refl _)) (grown_mstore _ _ Ds) (Nat.le_trans (show y5.heap.size ≤ ((y5.alloc _).alloc _).heap.size by simp; omega) (grown_mstore _ _ Dk).size) (by omega))
        clear hY5 fr0 fr1 fr2
        have Zc10 := hid hn.out.size
        replace KB := hid (KB.out.trans (hn.out.mono KB.out.size))
        replace K := hid (K.out.trans (hn.out.mono K.out.size))
        replace HM := hid (HM.out.below hn.out)
        replace HN := hid (HN.out.below hn.out)
        replace HO := hid (HO.out.below hn.out)
        replace HP := hid (HP.out.below hn.out)
        replace HTb := hid (HTb.out.below hn.out HTb.out.lt)
        replace PD := hid (PD.out.below hn.out PD.out.lt)
        replace PE := hid (PE.out.below hn.out PE.out.lt)
        replace P9 := hid (P9.out.below hn.out P9.out.lt)
        replace P10 := hid (P10.out.below hn.out P10.out.lt)
        replace HVp := hid (HVp.out.below hn.out)
        replace P11 := hid (P11.out.below hn.out P11.out.lt)
        replace HVq := hid (HVq.out.below hn.out)
        replace P13 := hid (P13.out.below hn.out P13.out.lt)
        replace HVd := hid (HVd.out.below hn.out)
        replace P15 := hid (P15.out.below hn.out P15.out.lt)
        replace HVc := hid (HVc.out.below hn.out)
        replace P17 := hid (P17.out.below hn.out P17.out.lt)
        replace HVk := hid (HVk.out.below hn.out)
        replace HVs := hid (HVs.out.below hn.out)
        replace Swp := hid (fun k hk => (Swp.out k hk).below hn.out)
        replace Swd := hid (fun k hk => (Swd.out k hk).below hn.out)
        replace Sws := hid (fun k hk => (Sws.out k hk).below hn.out)
        replace Swk := hid (fun k hk => (Swk.out k hk).below hn.out)
        clear hn
        have HsY5 := hid (show wc.heap.size ≤ Y5.heap.size from KB.out.size)
        have P20z := hid (show y5.heap.size + 1 < Y5.heap.size from P20.out.lt)
        go_wp2_with (first
          | (with_reducible refine wp_mload rfl (.tmp 4) rfl w.heap.size D rfl PD.out ?_)
          | (with_reducible refine wp_mload rfl (.tmp 5) rfl (w.heap.size + 1) E rfl PE.out ?_)
          | (with_reducible refine wp_mload rfl (.tmp 9) rfl g9 R9 rfl P9.out ?_)
          | (with_reducible refine wp_mload rfl (.tmp 10) rfl g10 R10 rfl P10.out ?_)
          | (with_reducible refine wp_mload rfl (.tmp 11) rfl y1.heap.size Dp rfl P11.out ?_)
          | (with_reducible refine wp_mload rfl (.tmp 13) rfl y2.heap.size Dq rfl P13.out ?_)
          | (with_reducible refine wp_mload rfl (.tmp 15) rfl y3.heap.size Dd rfl P15.out ?_)
          | (with_reducible refine wp_mload rfl (.tmp 17) rfl y4.heap.size Dc rfl P17.out ?_)
          | (with_reducible refine wp_mload rfl (.tmp 19) rfl y5.heap.size Dk rfl P19.out ?_)
          | (with_reducible refine wp_mload rfl (.tmp 20) rfl (y5.heap.size + 1) Ds rfl P20.out ?_)
          | (with_reducible refine wp_mload_g (by kernel_rfl) (.tmp 4) rfl w.heap.size D rfl PD.out ?_)
          | (with_reducible refine wp_mload_g (by kernel_rfl) (.tmp 5) rfl (w.heap.size + 1) E rfl PE.out ?_)
          | (with_reducible refine wp_mload_g (by kernel_rfl) (.tmp 9) rfl g9 R9 rfl P9.out ?_)
          | (with_reducible refine wp_mload_g (by kernel_rfl) (.tmp 10) rfl g10 R10 rfl P10.out ?_)
          | (with_reducible refine wp_mload_g (by kernel_rfl) (.tmp 11) rfl y1.heap.size Dp rfl P11.out ?_)
          | (with_reducible refine wp_mload_g (by kernel_rfl) (.tmp 13) rfl y2.heap.size Dq rfl P13.out ?_)
          | (with_reducible refine wp_mload_g (by kernel_rfl) (.tmp 15) rfl y3.heap.size Dd rfl P15.out ?_)
          | (with_reducible refine wp_mload_g (by kernel_rfl) (.tmp 17) rfl y4.heap.size Dc rfl P17.out ?_)
          | (with_reducible refine wp_mload_g (by kernel_rfl) (.tmp 19) rfl y5.heap.size Dk rfl P19.out ?_)
          | (with_reducible refine wp_mload_g (by kernel_rfl) (.tmp 20) rfl (y5.heap.size + 1) Ds rfl P20.out ?_)
          | fail)
        refine (emsplit_any HM.out.mrr).mono ?_
        rintro e y6 ⟨G0, G1, HG, Ek, Es, ej, rfl, HEj, HVe, HFe, hb⟩
        have Zc11 := hid hb.out.size
        replace KB := hid (KB.out.trans (hb.out.mono KB.out.size))
        replace K := hid (K.out.trans (hb.out.mono K.out.size))
        replace HM := hid (HM.out.below hb.out)
        replace HN := hid (HN.out.below hb.out)
        replace HO := hid (HO.out.below hb.out)
        replace HP := hid (HP.out.below hb.out)
        replace HTb := hid (HTb.out.below hb.out HTb.out.lt)
        replace PD := hid (PD.out.below hb.out PD.out.lt)
        replace PE := hid (PE.out.below hb.out PE.out.lt)
        replace P9 := hid (P9.out.below hb.out P9.out.lt)
        replace P10 := hid (P10.out.below hb.out P10.out.lt)
        replace HVp := hid (HVp.out.below hb.out)
        replace P11 := hid (P11.out.below hb.out P11.out.lt)
        replace HVq := hid (HVq.out.below hb.out)
        replace P13 := hid (P13.out.below hb.out P13.out.lt)
        replace HVd := hid (HVd.out.below hb.out)
        replace P15 := hid (P15.out.below hb.out P15.out.lt)
        replace HVc := hid (HVc.out.below hb.out)
        replace P17 := hid (P17.out.below hb.out P17.out.lt)
        replace HVk := hid (HVk.out.below hb.out)
        replace HVs := hid (HVs.out.below hb.out)
        replace P19 := hid (P19.out.below hb.out P19.out.lt)
        replace P20 := hid (P20.out.below hb.out P20.out.lt)
        replace Swp := hid (fun k hk => (Swp.out k hk).below hb.out)
        replace Swd := hid (fun k hk => (Swd.out k hk).below hb.out)
        replace Sws := hid (fun k hk => (Sws.out k hk).below hb.out)
        replace Swk := hid (fun k hk => (Swk.out k hk).below hb.out)
        have HVek := hid HVe.out.1
        have HVes := hid HVe.out.2
        have Hsy6 := hid (show wc.heap.size ≤ y6.heap.size from KB.out.size)
        clear HVe hb
        obtain ⟨rfl, hsp⟩ := split_same HEi.out HEj.out HH HG
        have Hsp := hid hsp
        clear hsp HEi HEj HH HG
        have fr0 := hid (fresh_mass y6)
        have fr1 : Hid (Mbox ((y6.alloc (.cells #[.bool false, .slice none 0 0, .int .i64 0, .bool false, .slice none 0 0, .int .i64 0, .bool false, .slice none 0 0, .int .i64 0, .bool false, .slice none 0 0, .int .i64 0] 26)).alloc (.cells #[.bool false, .slice none 0 0, .int .i64 0, .bool false, .slice none 0 0, .int .i64 0, .bool false, .slice none 0 0, .int .i64 0, .bool false, .slice none 0 0, .int .i64 0] 26)) y6.heap.size D0) := hid (fr0.out.alloc _)
        have fr2 : Hid (Mbox (mstore ((y6.alloc (.cells #[.bool false, .slice none 0 0, .int .i64 0, .bool false, .slice none 0 0, .int .i64 0, .bool false, .slice none 0 0, .int .i64 0, .bool false, .slice none 0 0, .int .i64 0] 26)).alloc (.cells #[.bool false, .slice none 0 0, .int .i64 0, .bool false, .slice none 0 0, .int .i64 0, .bool false, .slice none 0 0, .int .i64 0, .bool false, .slice none 0 0, .int .i64 0] 26)) y6.heap.size Ek) (y6.heap.size + 1) D0) := hid (Mbox.grown (show Mbox ((y6.alloc _).alloc _) (y6.heap.size + 1) D0 from new_at (by simp)) (grown_mstore _ _ Ek) (by omega))
        go_upto_region 10 with (first
          | (with_reducible refine wp_mstore rfl (.tmp 22) (.tmp 75) rfl y6.heap.size D0 Ek rfl rfl fr1.out ?_)
          | (with_reducible refine wp_mstore rfl (.tmp 23) (.tmp 76) rfl (y6.heap.size + 1) D0 Es rfl rfl fr2.out ?_)
          | (with_reducible refine wp_mload rfl (.tmp 4) rfl w.heap.size D rfl PD.out ?_)
          | (with_reducible refine wp_mload rfl (.tmp 5) rfl (w.heap.size + 1) E rfl PE.out ?_)
          | (with_reducible refine wp_mload rfl (.tmp 9) rfl g9 R9 rfl P9.out ?_)
          | (with_reducible refine wp_mload rfl (.tmp 10) rfl g10 R10 rfl P10.out ?_)
          | (with_reducible refine wp_mload rfl (.tmp 11) rfl y1.heap.size Dp rfl P11.out ?_)
          | (with_reducible refine wp_mload rfl (.tmp 13) rfl y2.heap.size Dq rfl P13.out ?_)
          | (with_reducible refine wp_mload rfl (.tmp 15) rfl y3.heap.size Dd rfl P15.out ?_)
          | (with_reducible refine wp_mload rfl (.tmp 17) rfl y4.heap.size Dc rfl P17.out ?_)
          | (with_reducible refine wp_mload rfl (.tmp 19) rfl y5.heap.size Dk rfl P19.out ?_)
          | (with_reducible refine wp_mload rfl (.tmp 20) rfl (y5.heap.size + 1) Ds rfl P20.out ?_)
          | (with_reducible refine wp_mload_g (by kernel_rfl) (.tmp 4) rfl w.heap.size D rfl PD.out ?_)
          | (with_reducible refine wp_mload_g (by kernel_rfl) (.tmp 5) rfl (w.heap.size + 1) E rfl PE.out ?_)
          | (with_reducible refine wp_mload_g (by kernel_rfl) (.tmp 9) rfl g9 R9 rfl P9.out ?_)
          | (with_reducible refine wp_mload_g (by kernel_rfl) (.tmp 10) rfl g10 R10 rfl P10.out ?_)
          | (with_reducible refine wp_mload_g (by kernel_rfl) (.tmp 11) rfl y1.heap.size Dp rfl P11.out ?_)
          | (with_reducible refine wp_mload_g (by kernel_rfl) (.tmp 13) rfl y2.heap.size Dq rfl P13.out ?_)
          | (with_reducible refine wp_mload_g (by kernel_rfl) (.tmp 15) rfl y3.heap.size Dd rfl P15.out ?_)
          | (with_reducible refine wp_mload_g (by kernel_rfl) (.tmp 17) rfl y4.heap.size Dc rfl P17.out ?_)
          | (with_reducible refine wp_mload_g (by kernel_rfl) (.tmp 19) rfl y5.heap.size Dk rfl P19.out ?_)
          | (with_reducible refine wp_mload_g (by kernel_rfl) (.tmp 20) rfl (y5.heap.size + 1) Ds rfl P20.out ?_)
          | fail)
        obtain ⟨Y6, hY6⟩ : ∃ W, W = mstore (mstore ((y6.alloc (.cells #[.bool false, .slice none 0 0, .int .i64 0, .bool false, .slice none 0 0, .int .i64 0, .bool false, .slice none 0 0, .int .i64 0, .bool false, .slice none 0 0, .int .i64 0] 26)).alloc (.cells #[.bool false, .slice none 0 0, .int .i64 0, .bool false, .slice none 0 0, .int .i64 0, .bool false, .slice none 0 0, .int .i64 0, .bool false, .slice none 0 0, .int .i64 0] 26)) y6.heap.size Ek) (y6.heap.size + 1) Es := ⟨_, rfl⟩
        rw [← hY6]
        have P22 : Hid (Mbox Y6 y6.heap.size Ek) := hid (hY6 ▸ (fr1.out.store Ek).grown (grown_mstore _ _ Es) (by omega))
        have P23 : Hid (Mbox Y6 (y6.heap.size + 1) Es) := hid (hY6 ▸ fr2.out.store Es)
        have hn : Hid (Below y6.heap.size y6 Y6) := hid (hY6 ▸ below_row (below_row (((Below.refl _ y6).alloc (Nat.le_refl _) _).alloc (by simp) _) (grown_mstore _ _ Ek) (by simp; omega) (Nat.le_refl _)) (grown_mstore _ _ Es) (Nat.le_trans (show y6.heap.size ≤ ((y6.alloc _).alloc _).heap.size by simp; omega) (grown_mstore _ _ Ek).size) (by omega))
        clear hY6 fr0 fr1 fr2
        have Zc12 := hid hn.out.size
        replace KB := hid (KB.out.trans (hn.out.mono KB.out.size))
        replace K := hid (K.out.trans (hn.out.mono K.out.size))
        replace HM := hid (HM.out.below hn.out)
        replace HN := hid (HN.out.below hn.out)
        replace HO := hid (HO.out.below hn.out)
        replace HP := hid (HP.out.below hn.out)
        replace HTb := hid (HTb.out.below hn.out HTb.out.lt)
        replace PD := hid (PD.out.below hn.out PD.out.lt)
        replace PE := hid (PE.out.below hn.out PE.out.lt)
        replace P9 := hid (P9.out.below hn.out P9.out.lt)
        replace P10 := hid (P10.out.below hn.out P10.out.lt)
        replace HVp := hid (HVp.out.below hn.out)
        replace P11 := hid (P11.out.below hn.out P11.out.lt)
        replace HVq := hid (HVq.out.below hn.out)
        replace P13 := hid (P13.out.below hn.out P13.out.lt)
        replace HVd := hid (HVd.out.below hn.out)
        replace P15 := hid (P15.out.below hn.out P15.out.lt)
        replace HVc := hid (HVc.out.below hn.out)
        replace P17 := hid (P17.out.below hn.out P17.out.lt)
        replace HVk := hid (HVk.out.below hn.out)
        replace HVs := hid (HVs.out.below hn.out)
        replace P19 := hid (P19.out.below hn.out P19.out.lt)
        replace P20 := hid (P20.out.below hn.out P20.out.lt)
        replace HVek := hid (HVek.out.below hn.out)
        replace HVes := hid (HVes.out.below hn.out)
        replace Swp := hid (fun k hk => (Swp.out k hk).below hn.out)
        replace Swd := hid (fun k hk => (Swd.out k hk).below hn.out)
        replace Sws := hid (fun k hk => (Sws.out k hk).below hn.out)
        replace Swk := hid (fun k hk => (Swk.out k hk).below hn.out)
        clear hn
        have HsY6 := hid (show wc.heap.size ≤ Y6.heap.size from KB.out.size)
        have Zs22 := hid (show y6.heap.size < Y6.heap.size from P22.out.lt)
        go_wp2_with (first
          | (with_reducible refine wp_mload rfl (.tmp 4) rfl w.heap.size D rfl PD.out ?_)
          | (with_reducible refine wp_mload rfl (.tmp 5) rfl (w.heap.size + 1) E rfl PE.out ?_)
          | (with_reducible refine wp_mload rfl (.tmp 9) rfl g9 R9 rfl P9.out ?_)
          | (with_reducible refine wp_mload rfl (.tmp 10) rfl g10 R10 rfl P10.out ?_)
          | (with_reducible refine wp_mload rfl (.tmp 11) rfl y1.heap.size Dp rfl P11.out ?_)
          | (with_reducible refine wp_mload rfl (.tmp 13) rfl y2.heap.size Dq rfl P13.out ?_)
          | (with_reducible refine wp_mload rfl (.tmp 15) rfl y3.heap.size Dd rfl P15.out ?_)
          | (with_reducible refine wp_mload rfl (.tmp 17) rfl y4.heap.size Dc rfl P17.out ?_)
          | (with_reducible refine wp_mload rfl (.tmp 19) rfl y5.heap.size Dk rfl P19.out ?_)
          | (with_reducible refine wp_mload rfl (.tmp 20) rfl (y5.heap.size + 1) Ds rfl P20.out ?_)
          | (with_reducible refine wp_mload rfl (.tmp 22) rfl y6.heap.size Ek rfl P22.out ?_)
          | (with_reducible refine wp_mload rfl (.tmp 23) rfl (y6.heap.size + 1) Es rfl P23.out ?_)
          | (with_reducible refine wp_mload_g (by kernel_rfl) (.tmp 4) rfl w.heap.size D rfl PD.out ?_)
          | (with_reducible refine wp_mload_g (by kernel_rfl) (.tmp 5) rfl (w.heap.size + 1) E rfl PE.out ?_)
          | (with_reducible refine wp_mload_g (by kernel_rfl) (.tmp 9) rfl g9 R9 rfl P9.out ?_)
          | (with_reducible refine wp_mload_g (by kernel_rfl) (.tmp 10) rfl g10 R10 rfl P10.out ?_)
          | (with_reducible refine wp_mload_g (by kernel_rfl) (.tmp 11) rfl y1.heap.size Dp rfl P11.out ?_)
          | (with_reducible refine wp_mload_g (by kernel_rfl) (.tmp 13) rfl y2.heap.size Dq rfl P13.out ?_)
          | (with_reducible refine wp_mload_g (by kernel_rfl) (.tmp 15) rfl y3.heap.size Dd rfl P15.out ?_)
          | (with_reducible refine wp_mload_g (by kernel_rfl) (.tmp 17) rfl y4.heap.size Dc rfl P17.out ?_)
          | (with_reducible refine wp_mload_g (by kernel_rfl) (.tmp 19) rfl y5.heap.size Dk rfl P19.out ?_)
          | (with_reducible refine wp_mload_g (by kernel_rfl) (.tmp 20) rfl (y5.heap.size + 1) Ds rfl P20.out ?_)
          | (with_reducible refine wp_mload_g (by kernel_rfl) (.tmp 22) rfl y6.heap.size Ek rfl P22.out ?_)
          | (with_reducible refine wp_mload_g (by kernel_rfl) (.tmp 23) rfl (y6.heap.size + 1) Es rfl P23.out ?_)
          | fail)
        refine (mseed_all HT.out first _).mono ?_
        rintro e y7 ⟨Dm, rfl, HVm, hb⟩
        have Zc13 := hid hb.out.size
        replace KB := hid (KB.out.trans (hb.out.mono KB.out.size))
        replace K := hid (K.out.trans (hb.out.mono K.out.size))
        replace HM := hid (HM.out.below hb.out)
        replace HN := hid (HN.out.below hb.out)
        replace HO := hid (HO.out.below hb.out)
        replace HP := hid (HP.out.below hb.out)
        replace HTb := hid (HTb.out.below hb.out HTb.out.lt)
        replace PD := hid (PD.out.below hb.out PD.out.lt)
        replace PE := hid (PE.out.below hb.out PE.out.lt)
        replace P9 := hid (P9.out.below hb.out P9.out.lt)
        replace P10 := hid (P10.out.below hb.out P10.out.lt)
        replace HVp := hid (HVp.out.below hb.out)
        replace P11 := hid (P11.out.below hb.out P11.out.lt)
        replace HVq := hid (HVq.out.below hb.out)
        replace P13 := hid (P13.out.below hb.out P13.out.lt)
        replace HVd := hid (HVd.out.below hb.out)
        replace P15 := hid (P15.out.below hb.out P15.out.lt)
        replace HVc := hid (HVc.out.below hb.out)
        replace P17 := hid (P17.out.below hb.out P17.out.lt)
        replace HVk := hid (HVk.out.below hb.out)
        replace HVs := hid (HVs.out.below hb.out)
        replace P19 := hid (P19.out.below hb.out P19.out.lt)
        replace P20 := hid (P20.out.below hb.out P20.out.lt)
        replace HVek := hid (HVek.out.below hb.out)
        replace HVes := hid (HVes.out.below hb.out)
        replace P22 := hid (P22.out.below hb.out P22.out.lt)
        replace P23 := hid (P23.out.below hb.out P23.out.lt)
        replace Swp := hid (fun k hk => (Swp.out k hk).below hb.out)
        replace Swd := hid (fun k hk => (Swd.out k hk).below hb.out)
        replace Sws := hid (fun k hk => (Sws.out k hk).below hb.out)
        replace Swk := hid (fun k hk => (Swk.out k hk).below hb.out)
        have Swm : Hid (∀ k, k < 4 → Sw Y6.heap.size y7.heap.size y7 (Dm k)) := hid (fun k hk => (HVm.out k hk).sw (HVm.out k hk).ahead)
        have Lom := hid (show wc.heap.size ≤ Y6.heap.size ∧ Y6.heap.size ≤ y7.heap.size from ⟨HsY6.out, hb.out.size⟩)
        have Hsy7 := hid (show wc.heap.size ≤ y7.heap.size from KB.out.size)
        clear hb
        have F_P25 := hid (fresh_mass y7)
        go_upto_region 11 with (first
          | (with_reducible refine wp_mstore rfl (.tmp 25) (.tmp 82) rfl y7.heap.size D0 Dm rfl rfl F_P25.out ?_)
          | (with_reducible refine wp_mload rfl (.tmp 4) rfl w.heap.size D rfl PD.out ?_)
          | (with_reducible refine wp_mload rfl (.tmp 5) rfl (w.heap.size + 1) E rfl PE.out ?_)
          | (with_reducible refine wp_mload rfl (.tmp 9) rfl g9 R9 rfl P9.out ?_)
          | (with_reducible refine wp_mload rfl (.tmp 10) rfl g10 R10 rfl P10.out ?_)
          | (with_reducible refine wp_mload rfl (.tmp 11) rfl y1.heap.size Dp rfl P11.out ?_)
          | (with_reducible refine wp_mload rfl (.tmp 13) rfl y2.heap.size Dq rfl P13.out ?_)
          | (with_reducible refine wp_mload rfl (.tmp 15) rfl y3.heap.size Dd rfl P15.out ?_)
          | (with_reducible refine wp_mload rfl (.tmp 17) rfl y4.heap.size Dc rfl P17.out ?_)
          | (with_reducible refine wp_mload rfl (.tmp 19) rfl y5.heap.size Dk rfl P19.out ?_)
          | (with_reducible refine wp_mload rfl (.tmp 20) rfl (y5.heap.size + 1) Ds rfl P20.out ?_)
          | (with_reducible refine wp_mload rfl (.tmp 22) rfl y6.heap.size Ek rfl P22.out ?_)
          | (with_reducible refine wp_mload rfl (.tmp 23) rfl (y6.heap.size + 1) Es rfl P23.out ?_)
          | (with_reducible refine wp_mload_g (by kernel_rfl) (.tmp 4) rfl w.heap.size D rfl PD.out ?_)
          | (with_reducible refine wp_mload_g (by kernel_rfl) (.tmp 5) rfl (w.heap.size + 1) E rfl PE.out ?_)
          | (with_reducible refine wp_mload_g (by kernel_rfl) (.tmp 9) rfl g9 R9 rfl P9.out ?_)
          | (with_reducible refine wp_mload_g (by kernel_rfl) (.tmp 10) rfl g10 R10 rfl P10.out ?_)
          | (with_reducible refine wp_mload_g (by kernel_rfl) (.tmp 11) rfl y1.heap.size Dp rfl P11.out ?_)
          | (with_reducible refine wp_mload_g (by kernel_rfl) (.tmp 13) rfl y2.heap.size Dq rfl P13.out ?_)
          | (with_reducible refine wp_mload_g (by kernel_rfl) (.tmp 15) rfl y3.heap.size Dd rfl P15.out ?_)
          | (with_reducible refine wp_mload_g (by kernel_rfl) (.tmp 17) rfl y4.heap.size Dc rfl P17.out ?_)
          | (with_reducible refine wp_mload_g (by kernel_rfl) (.tmp 19) rfl y5.heap.size Dk rfl P19.out ?_)
          | (with_reducible refine wp_mload_g (by kernel_rfl) (.tmp 20) rfl (y5.heap.size + 1) Ds rfl P20.out ?_)
          | (with_reducible refine wp_mload_g (by kernel_rfl) (.tmp 22) rfl y6.heap.size Ek rfl P22.out ?_)
          | (with_reducible refine wp_mload_g (by kernel_rfl) (.tmp 23) rfl (y6.heap.size + 1) Es rfl P23.out ?_)
          | fail)
        obtain ⟨Y7, hY7⟩ : ∃ W, W = mstore (y7.alloc (.cells #[.bool false, .slice none 0 0, .int .i64 0, .bool false, .slice none 0 0, .int .i64 0, .bool false, .slice none 0 0, .int .i64 0, .bool false, .slice none 0 0, .int .i64 0] 26)) y7.heap.size Dm := ⟨_, rfl⟩
        rw [← hY7]
        have P25 : Hid (Mbox Y7 y7.heap.size Dm) := hid (hY7 ▸ (new_mass y7 Dm).1)
        have hn : Hid (Below y7.heap.size y7 Y7) := hid (hY7 ▸ (new_mass y7 Dm).2)
        clear hY7 F_P25
        have Zc14 := hid hn.out.size
        replace KB := hid (KB.out.trans (hn.out.mono KB.out.size))
        replace K := hid (K.out.trans (hn.out.mono K.out.size))
        replace HM := hid (HM.out.below hn.out)
        replace HN := hid (HN.out.below hn.out)
        replace HO := hid (HO.out.below hn.out)
        replace HP := hid (HP.out.below hn.out)
        replace HTb := hid (HTb.out.below hn.out HTb.out.lt)
        replace PD := hid (PD.out.below hn.out PD.out.lt)
        replace PE := hid (PE.out.below hn.out PE.out.lt)
        replace P9 := hid (P9.out.below hn.out P9.out.lt)
        replace P10 := hid (P10.out.below hn.out P10.out.lt)
        replace HVp := hid (HVp.out.below hn.out)
        replace P11 := hid (P11.out.below hn.out P11.out.lt)
        replace HVq := hid (HVq.out.below hn.out)
        replace P13 := hid (P13.out.below hn.out P13.out.lt)
        replace HVd := hid (HVd.out.below hn.out)
        replace P15 := hid (P15.out.below hn.out P15.out.lt)
        replace HVc := hid (HVc.out.below hn.out)
        replace P17 := hid (P17.out.below hn.out P17.out.lt)
        replace HVk := hid (HVk.out.below hn.out)
        replace HVs := hid (HVs.out.below hn.out)
        replace P19 := hid (P19.out.below hn.out P19.out.lt)
        replace P20 := hid (P20.out.below hn.out P20.out.lt)
        replace HVek := hid (HVek.out.below hn.out)
        replace HVes := hid (HVes.out.below hn.out)
        replace P22 := hid (P22.out.below hn.out P22.out.lt)
        replace P23 := hid (P23.out.below hn.out P23.out.lt)
        replace HVm := hid (HVm.out.below hn.out)
        replace Swp := hid (fun k hk => (Swp.out k hk).below hn.out)
        replace Swd := hid (fun k hk => (Swd.out k hk).below hn.out)
        replace Sws := hid (fun k hk => (Sws.out k hk).below hn.out)
        replace Swk := hid (fun k hk => (Swk.out k hk).below hn.out)
        replace Swm := hid (fun k hk => (Swm.out k hk).below hn.out)
        clear hn
        have Zs25 := hid P25.out.lt
        have HsY7 := hid (show wc.heap.size ≤ Y7.heap.size from KB.out.size)
        go_wp2_with (first
          | (with_reducible refine wp_mload rfl (.tmp 4) rfl w.heap.size D rfl PD.out ?_)
          | (with_reducible refine wp_mload rfl (.tmp 5) rfl (w.heap.size + 1) E rfl PE.out ?_)
          | (with_reducible refine wp_mload rfl (.tmp 9) rfl g9 R9 rfl P9.out ?_)
          | (with_reducible refine wp_mload rfl (.tmp 10) rfl g10 R10 rfl P10.out ?_)
          | (with_reducible refine wp_mload rfl (.tmp 11) rfl y1.heap.size Dp rfl P11.out ?_)
          | (with_reducible refine wp_mload rfl (.tmp 13) rfl y2.heap.size Dq rfl P13.out ?_)
          | (with_reducible refine wp_mload rfl (.tmp 15) rfl y3.heap.size Dd rfl P15.out ?_)
          | (with_reducible refine wp_mload rfl (.tmp 17) rfl y4.heap.size Dc rfl P17.out ?_)
          | (with_reducible refine wp_mload rfl (.tmp 19) rfl y5.heap.size Dk rfl P19.out ?_)
          | (with_reducible refine wp_mload rfl (.tmp 20) rfl (y5.heap.size + 1) Ds rfl P20.out ?_)
          | (with_reducible refine wp_mload rfl (.tmp 22) rfl y6.heap.size Ek rfl P22.out ?_)
          | (with_reducible refine wp_mload rfl (.tmp 23) rfl (y6.heap.size + 1) Es rfl P23.out ?_)
          | (with_reducible refine wp_mload rfl (.tmp 25) rfl y7.heap.size Dm rfl P25.out ?_)
          | (with_reducible refine wp_mload_g (by kernel_rfl) (.tmp 4) rfl w.heap.size D rfl PD.out ?_)
          | (with_reducible refine wp_mload_g (by kernel_rfl) (.tmp 5) rfl (w.heap.size + 1) E rfl PE.out ?_)
          | (with_reducible refine wp_mload_g (by kernel_rfl) (.tmp 9) rfl g9 R9 rfl P9.out ?_)
          | (with_reducible refine wp_mload_g (by kernel_rfl) (.tmp 10) rfl g10 R10 rfl P10.out ?_)
          | (with_reducible refine wp_mload_g (by kernel_rfl) (.tmp 11) rfl y1.heap.size Dp rfl P11.out ?_)
          | (with_reducible refine wp_mload_g (by kernel_rfl) (.tmp 13) rfl y2.heap.size Dq rfl P13.out ?_)
          | (with_reducible refine wp_mload_g (by kernel_rfl) (.tmp 15) rfl y3.heap.size Dd rfl P15.out ?_)
          | (with_reducible refine wp_mload_g (by kernel_rfl) (.tmp 17) rfl y4.heap.size Dc rfl P17.out ?_)
          | (with_reducible refine wp_mload_g (by kernel_rfl) (.tmp 19) rfl y5.heap.size Dk rfl P19.out ?_)
          | (with_reducible refine wp_mload_g (by kernel_rfl) (.tmp 20) rfl (y5.heap.size + 1) Ds rfl P20.out ?_)
          | (with_reducible refine wp_mload_g (by kernel_rfl) (.tmp 22) rfl y6.heap.size Ek rfl P22.out ?_)
          | (with_reducible refine wp_mload_g (by kernel_rfl) (.tmp 23) rfl (y6.heap.size + 1) Es rfl P23.out ?_)
          | (with_reducible refine wp_mload_g (by kernel_rfl) (.tmp 25) rfl y7.heap.size Dm rfl P25.out ?_)
          | fail)
        refine (emseed_all HT.out first _).mono ?_
        rintro e y8 ⟨Dn, rfl, HVn, hb⟩
        have Zc15 := hid hb.out.size
        replace KB := hid (KB.out.trans (hb.out.mono KB.out.size))
        replace K := hid (K.out.trans (hb.out.mono K.out.size))
        replace HM := hid (HM.out.below hb.out)
        replace HN := hid (HN.out.below hb.out)
        replace HO := hid (HO.out.below hb.out)
        replace HP := hid (HP.out.below hb.out)
        replace HTb := hid (HTb.out.below hb.out HTb.out.lt)
        replace PD := hid (PD.out.below hb.out PD.out.lt)
        replace PE := hid (PE.out.below hb.out PE.out.lt)
        replace P9 := hid (P9.out.below hb.out P9.out.lt)
        replace P10 := hid (P10.out.below hb.out P10.out.lt)
        replace HVp := hid (HVp.out.below hb.out)
        replace P11 := hid (P11.out.below hb.out P11.out.lt)
        replace HVq := hid (HVq.out.below hb.out)
        replace P13 := hid (P13.out.below hb.out P13.out.lt)
        replace HVd := hid (HVd.out.below hb.out)
        replace P15 := hid (P15.out.below hb.out P15.out.lt)
        replace HVc := hid (HVc.out.below hb.out)
        replace P17 := hid (P17.out.below hb.out P17.out.lt)
        replace HVk := hid (HVk.out.below hb.out)
        replace HVs := hid (HVs.out.below hb.out)
        replace P19 := hid (P19.out.below hb.out P19.out.lt)
        replace P20 := hid (P20.out.below hb.out P20.out.lt)
        replace HVek := hid (HVek.out.below hb.out)
        replace HVes := hid (HVes.out.below hb.out)
        replace P22 := hid (P22.out.below hb.out P22.out.lt)
        replace P23 := hid (P23.out.below hb.out P23.out.lt)
        replace HVm := hid (HVm.out.below hb.out)
        replace P25 := hid (P25.out.below hb.out P25.out.lt)
        replace Swp := hid (fun k hk => (Swp.out k hk).below hb.out)
        replace Swd := hid (fun k hk => (Swd.out k hk).below hb.out)
        replace Sws := hid (fun k hk => (Sws.out k hk).below hb.out)
        replace Swk := hid (fun k hk => (Swk.out k hk).below hb.out)
        replace Swm := hid (fun k hk => (Swm.out k hk).below hb.out)
        have Hsy8 := hid (show wc.heap.size ≤ y8.heap.size from KB.out.size)
        clear hb
        have F_P27 := hid (fresh_mass y8)
        go_upto_region 12 with (first
          | (with_reducible refine wp_mstore rfl (.tmp 27) (.tmp 88) rfl y8.heap.size D0 Dn rfl rfl F_P27.out ?_)
          | (with_reducible refine wp_mload rfl (.tmp 4) rfl w.heap.size D rfl PD.out ?_)
          | (with_reducible refine wp_mload rfl (.tmp 5) rfl (w.heap.size + 1) E rfl PE.out ?_)
          | (with_reducible refine wp_mload rfl (.tmp 9) rfl g9 R9 rfl P9.out ?_)
          | (with_reducible refine wp_mload rfl (.tmp 10) rfl g10 R10 rfl P10.out ?_)
          | (with_reducible refine wp_mload rfl (.tmp 11) rfl y1.heap.size Dp rfl P11.out ?_)
          | (with_reducible refine wp_mload rfl (.tmp 13) rfl y2.heap.size Dq rfl P13.out ?_)
          | (with_reducible refine wp_mload rfl (.tmp 15) rfl y3.heap.size Dd rfl P15.out ?_)
          | (with_reducible refine wp_mload rfl (.tmp 17) rfl y4.heap.size Dc rfl P17.out ?_)
          | (with_reducible refine wp_mload rfl (.tmp 19) rfl y5.heap.size Dk rfl P19.out ?_)
          | (with_reducible refine wp_mload rfl (.tmp 20) rfl (y5.heap.size + 1) Ds rfl P20.out ?_)
          | (with_reducible refine wp_mload rfl (.tmp 22) rfl y6.heap.size Ek rfl P22.out ?_)
          | (with_reducible refine wp_mload rfl (.tmp 23) rfl (y6.heap.size + 1) Es rfl P23.out ?_)
          | (with_reducible refine wp_mload rfl (.tmp 25) rfl y7.heap.size Dm rfl P25.out ?_)
          | (with_reducible refine wp_mload_g (by kernel_rfl) (.tmp 4) rfl w.heap.size D rfl PD.out ?_)
          | (with_reducible refine wp_mload_g (by kernel_rfl) (.tmp 5) rfl (w.heap.size + 1) E rfl PE.out ?_)
          | (with_reducible refine wp_mload_g (by kernel_rfl) (.tmp 9) rfl g9 R9 rfl P9.out ?_)
          | (with_reducible refine wp_mload_g (by kernel_rfl) (.tmp 10) rfl g10 R10 rfl P10.out ?_)
          | (with_reducible refine wp_mload_g (by kernel_rfl) (.tmp 11) rfl y1.heap.size Dp rfl P11.out ?_)
          | (with_reducible refine wp_mload_g (by kernel_rfl) (.tmp 13) rfl y2.heap.size Dq rfl P13.out ?_)
          | (with_reducible refine wp_mload_g (by kernel_rfl) (.tmp 15) rfl y3.heap.size Dd rfl P15.out ?_)
          | (with_reducible refine wp_mload_g (by kernel_rfl) (.tmp 17) rfl y4.heap.size Dc rfl P17.out ?_)
          | (with_reducible refine wp_mload_g (by kernel_rfl) (.tmp 19) rfl y5.heap.size Dk rfl P19.out ?_)
          | (with_reducible refine wp_mload_g (by kernel_rfl) (.tmp 20) rfl (y5.heap.size + 1) Ds rfl P20.out ?_)
          | (with_reducible refine wp_mload_g (by kernel_rfl) (.tmp 22) rfl y6.heap.size Ek rfl P22.out ?_)
          | (with_reducible refine wp_mload_g (by kernel_rfl) (.tmp 23) rfl (y6.heap.size + 1) Es rfl P23.out ?_)
          | (with_reducible refine wp_mload_g (by kernel_rfl) (.tmp 25) rfl y7.heap.size Dm rfl P25.out ?_)
          | fail)
        obtain ⟨Y8, hY8⟩ : ∃ W, W = mstore (y8.alloc (.cells #[.bool false, .slice none 0 0, .int .i64 0, .bool false, .slice none 0 0, .int .i64 0, .bool false, .slice none 0 0, .int .i64 0, .bool false, .slice none 0 0, .int .i64 0] 26)) y8.heap.size Dn := ⟨_, rfl⟩
        rw [← hY8]
        have P27 : Hid (Mbox Y8 y8.heap.size Dn) := hid (hY8 ▸ (new_mass y8 Dn).1)
        have hn : Hid (Below y8.heap.size y8 Y8) := hid (hY8 ▸ (new_mass y8 Dn).2)
        clear hY8 F_P27
        have Zc16 := hid hn.out.size
        replace KB := hid (KB.out.trans (hn.out.mono KB.out.size))
        replace K := hid (K.out.trans (hn.out.mono K.out.size))
        replace HM := hid (HM.out.below hn.out)
        replace HN := hid (HN.out.below hn.out)
        replace HO := hid (HO.out.below hn.out)
        replace HP := hid (HP.out.below hn.out)
        replace HTb := hid (HTb.out.below hn.out HTb.out.lt)
        replace PD := hid (PD.out.below hn.out PD.out.lt)
        replace PE := hid (PE.out.below hn.out PE.out.lt)
        replace P9 := hid (P9.out.below hn.out P9.out.lt)
        replace P10 := hid (P10.out.below hn.out P10.out.lt)
        replace HVp := hid (HVp.out.below hn.out)
        replace P11 := hid (P11.out.below hn.out P11.out.lt)
        replace HVq := hid (HVq.out.below hn.out)
        replace P13 := hid (P13.out.below hn.out P13.out.lt)
        replace HVd := hid (HVd.out.below hn.out)
        replace P15 := hid (P15.out.below hn.out P15.out.lt)
        replace HVc := hid (HVc.out.below hn.out)
        replace P17 := hid (P17.out.below hn.out P17.out.lt)
        replace HVk := hid (HVk.out.below hn.out)
        replace HVs := hid (HVs.out.below hn.out)
        replace P19 := hid (P19.out.below hn.out P19.out.lt)
        replace P20 := hid (P20.out.below hn.out P20.out.lt)
        replace HVek := hid (HVek.out.below hn.out)
        replace HVes := hid (HVes.out.below hn.out)
        replace P22 := hid (P22.out.below hn.out P22.out.lt)
        replace P23 := hid (P23.out.below hn.out P23.out.lt)
        replace HVm := hid (HVm.out.below hn.out)
        replace P25 := hid (P25.out.below hn.out P25.out.lt)
        replace HVn := hid (HVn.out.below hn.out)
        replace Swp := hid (fun k hk => (Swp.out k hk).below hn.out)
        replace Swd := hid (fun k hk => (Swd.out k hk).below hn.out)
        replace Sws := hid (fun k hk => (Sws.out k hk).below hn.out)
        replace Swk := hid (fun k hk => (Swk.out k hk).below hn.out)
        replace Swm := hid (fun k hk => (Swm.out k hk).below hn.out)
        clear hn
        have Zs27 := hid P27.out.lt
        have HsY8 := hid (show wc.heap.size ≤ Y8.heap.size from KB.out.size)
        go_wp2_with (first
          | (with_reducible refine wp_mload rfl (.tmp 4) rfl w.heap.size D rfl PD.out ?_)
          | (with_reducible refine wp_mload rfl (.tmp 5) rfl (w.heap.size + 1) E rfl PE.out ?_)
          | (with_reducible refine wp_mload rfl (.tmp 9) rfl g9 R9 rfl P9.out ?_)
          | (with_reducible refine wp_mload rfl (.tmp 10) rfl g10 R10 rfl P10.out ?_)
          | (with_reducible refine wp_mload rfl (.tmp 11) rfl y1.heap.size Dp rfl P11.out ?_)
          | (with_reducible refine wp_mload rfl (.tmp 13) rfl y2.heap.size Dq rfl P13.out ?_)
          | (with_reducible refine wp_mload rfl (.tmp 15) rfl y3.heap.size Dd rfl P15.out ?_)
          | (with_reducible refine wp_mload rfl (.tmp 17) rfl y4.heap.size Dc rfl P17.out ?_)
          | (with_reducible refine wp_mload rfl (.tmp 19) rfl y5.heap.size Dk rfl P19.out ?_)
          | (with_reducible refine wp_mload rfl (.tmp 20) rfl (y5.heap.size + 1) Ds rfl P20.out ?_)
          | (with_reducible refine wp_mload rfl (.tmp 22) rfl y6.heap.size Ek rfl P22.out ?_)
          | (with_reducible refine wp_mload rfl (.tmp 23) rfl (y6.heap.size + 1) Es rfl P23.out ?_)
          | (with_reducible refine wp_mload rfl (.tmp 25) rfl y7.heap.size Dm rfl P25.out ?_)
          | (with_reducible refine wp_mload rfl (.tmp 27) rfl y8.heap.size Dn rfl P27.out ?_)
          | (with_reducible refine wp_mload_g (by kernel_rfl) (.tmp 4) rfl w.heap.size D rfl PD.out ?_)
          | (with_reducible refine wp_mload_g (by kernel_rfl) (.tmp 5) rfl (w.heap.size + 1) E rfl PE.out ?_)
          | (with_reducible refine wp_mload_g (by kernel_rfl) (.tmp 9) rfl g9 R9 rfl P9.out ?_)
          | (with_reducible refine wp_mload_g (by kernel_rfl) (.tmp 10) rfl g10 R10 rfl P10.out ?_)
          | (with_reducible refine wp_mload_g (by kernel_rfl) (.tmp 11) rfl y1.heap.size Dp rfl P11.out ?_)
          | (with_reducible refine wp_mload_g (by kernel_rfl) (.tmp 13) rfl y2.heap.size Dq rfl P13.out ?_)
          | (with_reducible refine wp_mload_g (by kernel_rfl) (.tmp 15) rfl y3.heap.size Dd rfl P15.out ?_)
          | (with_reducible refine wp_mload_g (by kernel_rfl) (.tmp 17) rfl y4.heap.size Dc rfl P17.out ?_)
          | (with_reducible refine wp_mload_g (by kernel_rfl) (.tmp 19) rfl y5.heap.size Dk rfl P19.out ?_)
          | (with_reducible refine wp_mload_g (by kernel_rfl) (.tmp 20) rfl (y5.heap.size + 1) Ds rfl P20.out ?_)
          | (with_reducible refine wp_mload_g (by kernel_rfl) (.tmp 22) rfl y6.heap.size Ek rfl P22.out ?_)
          | (with_reducible refine wp_mload_g (by kernel_rfl) (.tmp 23) rfl (y6.heap.size + 1) Es rfl P23.out ?_)
          | (with_reducible refine wp_mload_g (by kernel_rfl) (.tmp 25) rfl y7.heap.size Dm rfl P25.out ?_)
          | (with_reducible refine wp_mload_g (by kernel_rfl) (.tmp 27) rfl y8.heap.size Dn rfl P27.out ?_)
          | fail)
        refine (mtwin_any HO.out.mrd (fun k hk => (HO.out k hk).nil) (fun k hk => by rw [(T9.out k hk).n]; exact Hna.out k hk)).mono ?_
        rintro e y9 ⟨Dt, rfl, T29, hb⟩
        have Zc17 := hid hb.out.size
        replace KB := hid (KB.out.trans (hb.out.mono KB.out.size))
        replace K := hid (K.out.trans (hb.out.mono K.out.size))
        replace HM := hid (HM.out.below hb.out)
        replace HN := hid (HN.out.below hb.out)
        replace HO := hid (HO.out.below hb.out)
        replace HP := hid (HP.out.below hb.out)
        replace HTb := hid (HTb.out.below hb.out HTb.out.lt)
        replace PD := hid (PD.out.below hb.out PD.out.lt)
        replace PE := hid (PE.out.below hb.out PE.out.lt)
        replace P9 := hid (P9.out.below hb.out P9.out.lt)
        replace P10 := hid (P10.out.below hb.out P10.out.lt)
        replace HVp := hid (HVp.out.below hb.out)
        replace P11 := hid (P11.out.below hb.out P11.out.lt)
        replace HVq := hid (HVq.out.below hb.out)
        replace P13 := hid (P13.out.below hb.out P13.out.lt)
        replace HVd := hid (HVd.out.below hb.out)
        replace P15 := hid (P15.out.below hb.out P15.out.lt)
        replace HVc := hid (HVc.out.below hb.out)
        replace P17 := hid (P17.out.below hb.out P17.out.lt)
        replace HVk := hid (HVk.out.below hb.out)
        replace HVs := hid (HVs.out.below hb.out)
        replace P19 := hid (P19.out.below hb.out P19.out.lt)
        replace P20 := hid (P20.out.below hb.out P20.out.lt)
        replace HVek := hid (HVek.out.below hb.out)
        replace HVes := hid (HVes.out.below hb.out)
        replace P22 := hid (P22.out.below hb.out P22.out.lt)
        replace P23 := hid (P23.out.below hb.out P23.out.lt)
        replace HVm := hid (HVm.out.below hb.out)
        replace P25 := hid (P25.out.below hb.out P25.out.lt)
        replace HVn := hid (HVn.out.below hb.out)
        replace P27 := hid (P27.out.below hb.out P27.out.lt)
        replace Swp := hid (fun k hk => (Swp.out k hk).below hb.out)
        replace Swd := hid (fun k hk => (Swd.out k hk).below hb.out)
        replace Sws := hid (fun k hk => (Sws.out k hk).below hb.out)
        replace Swk := hid (fun k hk => (Swk.out k hk).below hb.out)
        replace Swm := hid (fun k hk => (Swm.out k hk).below hb.out)
        have Swt : Hid (∀ k, k < 4 → Sw Y8.heap.size y9.heap.size y9 (Dt k)) := hid (fun k hk => (T29.out k hk).sw)
        have HVt : Hid (Mar y9 q M Dt) := hid (fun k hk => (T29.out k hk).read (HO.out k hk))
        have Hsy9 := hid (show wc.heap.size ≤ y9.heap.size from KB.out.size)
        clear hb
        have F_P29 := hid (fresh_mass y9)
        go_upto_region 13 with (first
          | (with_reducible refine wp_mstore rfl (.tmp 29) (.tmp 91) rfl y9.heap.size D0 Dt rfl rfl F_P29.out ?_)
          | (with_reducible refine wp_mload rfl (.tmp 4) rfl w.heap.size D rfl PD.out ?_)
          | (with_reducible refine wp_mload rfl (.tmp 5) rfl (w.heap.size + 1) E rfl PE.out ?_)
          | (with_reducible refine wp_mload rfl (.tmp 9) rfl g9 R9 rfl P9.out ?_)
          | (with_reducible refine wp_mload rfl (.tmp 10) rfl g10 R10 rfl P10.out ?_)
          | (with_reducible refine wp_mload rfl (.tmp 11) rfl y1.heap.size Dp rfl P11.out ?_)
          | (with_reducible refine wp_mload rfl (.tmp 13) rfl y2.heap.size Dq rfl P13.out ?_)
          | (with_reducible refine wp_mload rfl (.tmp 15) rfl y3.heap.size Dd rfl P15.out ?_)
          | (with_reducible refine wp_mload rfl (.tmp 17) rfl y4.heap.size Dc rfl P17.out ?_)
          | (with_reducible refine wp_mload rfl (.tmp 19) rfl y5.heap.size Dk rfl P19.out ?_)
          | (with_reducible refine wp_mload rfl (.tmp 20) rfl (y5.heap.size + 1) Ds rfl P20.out ?_)
          | (with_reducible refine wp_mload rfl (.tmp 22) rfl y6.heap.size Ek rfl P22.out ?_)
          | (with_reducible refine wp_mload rfl (.tmp 23) rfl (y6.heap.size + 1) Es rfl P23.out ?_)
          | (with_reducible refine wp_mload rfl (.tmp 25) rfl y7.heap.size Dm rfl P25.out ?_)
          | (with_reducible refine wp_mload rfl (.tmp 27) rfl y8.heap.size Dn rfl P27.out ?_)
          | (with_reducible refine wp_mload_g (by kernel_rfl) (.tmp 4) rfl w.heap.size D rfl PD.out ?_)
          | (with_reducible refine wp_mload_g (by kernel_rfl) (.tmp 5) rfl (w.heap.size + 1) E rfl PE.out ?_)
          | (with_reducible refine wp_mload_g (by kernel_rfl) (.tmp 9) rfl g9 R9 rfl P9.out ?_)
          | (with_reducible refine wp_mload_g (by kernel_rfl) (.tmp 10) rfl g10 R10 rfl P10.out ?_)
          | (with_reducible refine wp_mload_g (by kernel_rfl) (.tmp 11) rfl y1.heap.size Dp rfl P11.out ?_)
          | (with_reducible refine wp_mload_g (by kernel_rfl) (.tmp 13) rfl y2.heap.size Dq rfl P13.out ?_)
          | (with_reducible refine wp_mload_g (by kernel_rfl) (.tmp 15) rfl y3.heap.size Dd rfl P15.out ?_)
          | (with_reducible refine wp_mload_g (by kernel_rfl) (.tmp 17) rfl y4.heap.size Dc rfl P17.out ?_)
          | (with_reducible refine wp_mload_g (by kernel_rfl) (.tmp 19) rfl y5.heap.size Dk rfl P19.out ?_)
          | (with_reducible refine wp_mload_g (by kernel_rfl) (.tmp 20) rfl (y5.heap.size + 1) Ds rfl P20.out ?_)
          | (with_reducible refine wp_mload_g (by kernel_rfl) (.tmp 22) rfl y6.heap.size Ek rfl P22.out ?_)
          | (with_reducible refine wp_mload_g (by kernel_rfl) (.tmp 23) rfl (y6.heap.size + 1) Es rfl P23.out ?_)
          | (with_reducible refine wp_mload_g (by kernel_rfl) (.tmp 25) rfl y7.heap.size Dm rfl P25.out ?_)
          | (with_reducible refine wp_mload_g (by kernel_rfl) (.tmp 27) rfl y8.heap.size Dn rfl P27.out ?_)
          | fail)
        obtain ⟨Y9, hY9⟩ : ∃ W, W = mstore (y9.alloc (.cells #[.bool false, .slice none 0 0, .int .i64 0, .bool false, .slice none 0 0, .int .i64 0, .bool false, .slice none 0 0, .int .i64 0, .bool false, .slice none 0 0, .int .i64 0] 26)) y9.heap.size Dt := ⟨_, rfl⟩
        rw [← hY9]
        have P29 : Hid (Mbox Y9 y9.heap.size Dt) := hid (hY9 ▸ (new_mass y9 Dt).1)
        have hn : Hid (Below y9.heap.size y9 Y9) := hid (hY9 ▸ (new_mass y9 Dt).2)
        clear hY9 F_P29
        have Zc18 := hid hn.out.size
        replace KB := hid (KB.out.trans (hn.out.mono KB.out.size))
        replace K := hid (K.out.trans (hn.out.mono K.out.size))
        replace HM := hid (HM.out.below hn.out)
        replace HN := hid (HN.out.below hn.out)
        replace HO := hid (HO.out.below hn.out)
        replace HP := hid (HP.out.below hn.out)
        replace HTb := hid (HTb.out.below hn.out HTb.out.lt)
        replace PD := hid (PD.out.below hn.out PD.out.lt)
        replace PE := hid (PE.out.below hn.out PE.out.lt)
        replace P9 := hid (P9.out.below hn.out P9.out.lt)
        replace P10 := hid (P10.out.below hn.out P10.out.lt)
        replace HVp := hid (HVp.out.below hn.out)
        replace P11 := hid (P11.out.below hn.out P11.out.lt)
        replace HVq := hid (HVq.out.below hn.out)
        replace P13 := hid (P13.out.below hn.out P13.out.lt)
        replace HVd := hid (HVd.out.below hn.out)
        replace P15 := hid (P15.out.below hn.out P15.out.lt)
        replace HVc := hid (HVc.out.below hn.out)
        replace P17 := hid (P17.out.below hn.out P17.out.lt)
        replace HVk := hid (HVk.out.below hn.out)
        replace HVs := hid (HVs.out.below hn.out)
        replace P19 := hid (P19.out.below hn.out P19.out.lt)
        replace P20 := hid (P20.out.below hn.out P20.out.lt)
        replace HVek := hid (HVek.out.below hn.out)
        replace HVes := hid (HVes.out.below hn.out)
        replace P22 := hid (P22.out.below hn.out P22.out.lt)
        replace P23 := hid (P23.out.below hn.out P23.out.lt)
        replace HVm := hid (HVm.out.below hn.out)
        replace P25 := hid (P25.out.below hn.out P25.out.lt)
        replace HVn := hid (HVn.out.below hn.out)
        replace P27 := hid (P27.out.below hn.out P27.out.lt)
        replace HVt := hid (HVt.out.below hn.out)
        replace Swp := hid (fun k hk => (Swp.out k hk).below hn.out)
        replace Swd := hid (fun k hk => (Swd.out k hk).below hn.out)
        replace Sws := hid (fun k hk => (Sws.out k hk).below hn.out)
        replace Swk := hid (fun k hk => (Swk.out k hk).below hn.out)
        replace Swm := hid (fun k hk => (Swm.out k hk).below hn.out)
        replace Swt := hid (fun k hk => (Swt.out k hk).below hn.out)
        clear hn
        have Zs29 := hid P29.out.lt
        have HsY9 := hid (show wc.heap.size ≤ Y9.heap.size from KB.out.size)
        go_wp2_with (first
          | (with_reducible refine wp_mload rfl (.tmp 4) rfl w.heap.size D rfl PD.out ?_)
          | (with_reducible refine wp_mload rfl (.tmp 5) rfl (w.heap.size + 1) E rfl PE.out ?_)
          | (with_reducible refine wp_mload rfl (.tmp 9) rfl g9 R9 rfl P9.out ?_)
          | (with_reducible refine wp_mload rfl (.tmp 10) rfl g10 R10 rfl P10.out ?_)
          | (with_reducible refine wp_mload rfl (.tmp 11) rfl y1.heap.size Dp rfl P11.out ?_)
          | (with_reducible refine wp_mload rfl (.tmp 13) rfl y2.heap.size Dq rfl P13.out ?_)
          | (with_reducible refine wp_mload rfl (.tmp 15) rfl y3.heap.size Dd rfl P15.out ?_)
          | (with_reducible refine wp_mload rfl (.tmp 17) rfl y4.heap.size Dc rfl P17.out ?_)
          | (with_reducible refine wp_mload rfl (.tmp 19) rfl y5.heap.size Dk rfl P19.out ?_)
          | (with_reducible refine wp_mload rfl (.tmp 20) rfl (y5.heap.size + 1) Ds rfl P20.out ?_)
          | (with_reducible refine wp_mload rfl (.tmp 22) rfl y6.heap.size Ek rfl P22.out ?_)
          | (with_reducible refine wp_mload rfl (.tmp 23) rfl (y6.heap.size + 1) Es rfl P23.out ?_)
          | (with_reducible refine wp_mload rfl (.tmp 25) rfl y7.heap.size Dm rfl P25.out ?_)
          | (with_reducible refine wp_mload rfl (.tmp 27) rfl y8.heap.size Dn rfl P27.out ?_)
          | (with_reducible refine wp_mload rfl (.tmp 29) rfl y9.heap.size Dt rfl P29.out ?_)
          | (with_reducible refine wp_mload_g (by kernel_rfl) (.tmp 4) rfl w.heap.size D rfl PD.out ?_)
          | (with_reducible refine wp_mload_g (by kernel_rfl) (.tmp 5) rfl (w.heap.size + 1) E rfl PE.out ?_)
          | (with_reducible refine wp_mload_g (by kernel_rfl) (.tmp 9) rfl g9 R9 rfl P9.out ?_)
          | (with_reducible refine wp_mload_g (by kernel_rfl) (.tmp 10) rfl g10 R10 rfl P10.out ?_)
          | (with_reducible refine wp_mload_g (by kernel_rfl) (.tmp 11) rfl y1.heap.size Dp rfl P11.out ?_)
          | (with_reducible refine wp_mload_g (by kernel_rfl) (.tmp 13) rfl y2.heap.size Dq rfl P13.out ?_)
          | (with_reducible refine wp_mload_g (by kernel_rfl) (.tmp 15) rfl y3.heap.size Dd rfl P15.out ?_)
          | (with_reducible refine wp_mload_g (by kernel_rfl) (.tmp 17) rfl y4.heap.size Dc rfl P17.out ?_)
          | (with_reducible refine wp_mload_g (by kernel_rfl) (.tmp 19) rfl y5.heap.size Dk rfl P19.out ?_)
          | (with_reducible refine wp_mload_g (by kernel_rfl) (.tmp 20) rfl (y5.heap.size + 1) Ds rfl P20.out ?_)
          | (with_reducible refine wp_mload_g (by kernel_rfl) (.tmp 22) rfl y6.heap.size Ek rfl P22.out ?_)
          | (with_reducible refine wp_mload_g (by kernel_rfl) (.tmp 23) rfl (y6.heap.size + 1) Es rfl P23.out ?_)
          | (with_reducible refine wp_mload_g (by kernel_rfl) (.tmp 25) rfl y7.heap.size Dm rfl P25.out ?_)
          | (with_reducible refine wp_mload_g (by kernel_rfl) (.tmp 27) rfl y8.heap.size Dn rfl P27.out ?_)
          | (with_reducible refine wp_mload_g (by kernel_rfl) (.tmp 29) rfl y9.heap.size Dt rfl P29.out ?_)
          | fail)
        refine (emsame_true HVp.out.mar.mrr HVq.out (fun _ _ => trivial) (fun _ _ => trivial) (fun _ _ => rfl)).mono ?_
        rintro e z0 ⟨rfl, hb⟩
        have Zc19 := hid hb.out.size
        replace KB := hid (KB.out.trans (hb.out.mono KB.out.size))
        replace K := hid (K.out.trans (hb.out.mono K.out.size))
        replace HM := hid (HM.out.below hb.out)
        replace HN := hid (HN.out.below hb.out)
        replace HO := hid (HO.out.below hb.out)
        replace HP := hid (HP.out.below hb.out)
        replace HTb := hid (HTb.out.below hb.out HTb.out.lt)
        replace PD := hid (PD.out.below hb.out PD.out.lt)
        replace PE := hid (PE.out.below hb.out PE.out.lt)
        replace P9 := hid (P9.out.below hb.out P9.out.lt)
        replace P10 := hid (P10.out.below hb.out P10.out.lt)
        replace HVp := hid (HVp.out.below hb.out)
        replace P11 := hid (P11.out.below hb.out P11.out.lt)
        replace HVq := hid (HVq.out.below hb.out)
        replace P13 := hid (P13.out.below hb.out P13.out.lt)
        replace HVd := hid (HVd.out.below hb.out)
        replace P15 := hid (P15.out.below hb.out P15.out.lt)
        replace HVc := hid (HVc.out.below hb.out)
        replace P17 := hid (P17.out.below hb.out P17.out.lt)
        replace HVk := hid (HVk.out.below hb.out)
        replace HVs := hid (HVs.out.below hb.out)
        replace P19 := hid (P19.out.below hb.out P19.out.lt)
        replace P20 := hid (P20.out.below hb.out P20.out.lt)
        replace HVek := hid (HVek.out.below hb.out)
        replace HVes := hid (HVes.out.below hb.out)
        replace P22 := hid (P22.out.below hb.out P22.out.lt)
        replace P23 := hid (P23.out.below hb.out P23.out.lt)
        replace HVm := hid (HVm.out.below hb.out)
        replace P25 := hid (P25.out.below hb.out P25.out.lt)
        replace HVn := hid (HVn.out.below hb.out)
        replace P27 := hid (P27.out.below hb.out P27.out.lt)
        replace HVt := hid (HVt.out.below hb.out)
        replace P29 := hid (P29.out.below hb.out P29.out.lt)
        replace Swp := hid (fun k hk => (Swp.out k hk).below hb.out)
        replace Swd := hid (fun k hk => (Swd.out k hk).below hb.out)
        replace Sws := hid (fun k hk => (Sws.out k hk).below hb.out)
        replace Swk := hid (fun k hk => (Swk.out k hk).below hb.out)
        replace Swm := hid (fun k hk => (Swm.out k hk).below hb.out)
        replace Swt := hid (fun k hk => (Swt.out k hk).below hb.out)
        clear hb
        clear HVq P13
        go_wp2_with (first
          | (with_reducible refine wp_mload rfl (.tmp 4) rfl w.heap.size D rfl PD.out ?_)
          | (with_reducible refine wp_mload rfl (.tmp 5) rfl (w.heap.size + 1) E rfl PE.out ?_)
          | (with_reducible refine wp_mload rfl (.tmp 9) rfl g9 R9 rfl P9.out ?_)
          | (with_reducible refine wp_mload rfl (.tmp 10) rfl g10 R10 rfl P10.out ?_)
          | (with_reducible refine wp_mload rfl (.tmp 11) rfl y1.heap.size Dp rfl P11.out ?_)
          | (with_reducible refine wp_mload rfl (.tmp 15) rfl y3.heap.size Dd rfl P15.out ?_)
          | (with_reducible refine wp_mload rfl (.tmp 17) rfl y4.heap.size Dc rfl P17.out ?_)
          | (with_reducible refine wp_mload rfl (.tmp 19) rfl y5.heap.size Dk rfl P19.out ?_)
          | (with_reducible refine wp_mload rfl (.tmp 20) rfl (y5.heap.size + 1) Ds rfl P20.out ?_)
          | (with_reducible refine wp_mload rfl (.tmp 22) rfl y6.heap.size Ek rfl P22.out ?_)
          | (with_reducible refine wp_mload rfl (.tmp 23) rfl (y6.heap.size + 1) Es rfl P23.out ?_)
          | (with_reducible refine wp_mload rfl (.tmp 25) rfl y7.heap.size Dm rfl P25.out ?_)
          | (with_reducible refine wp_mload rfl (.tmp 27) rfl y8.heap.size Dn rfl P27.out ?_)
          | (with_reducible refine wp_mload rfl (.tmp 29) rfl y9.heap.size Dt rfl P29.out ?_)
          | (with_reducible refine wp_mload_g (by kernel_rfl) (.tmp 4) rfl w.heap.size D rfl PD.out ?_)
          | (with_reducible refine wp_mload_g (by kernel_rfl) (.tmp 5) rfl (w.heap.size + 1) E rfl PE.out ?_)
          | (with_reducible refine wp_mload_g (by kernel_rfl) (.tmp 9) rfl g9 R9 rfl P9.out ?_)
          | (with_reducible refine wp_mload_g (by kernel_rfl) (.tmp 10) rfl g10 R10 rfl P10.out ?_)
          | (with_reducible refine wp_mload_g (by kernel_rfl) (.tmp 11) rfl y1.heap.size Dp rfl P11.out ?_)
          | (with_reducible refine wp_mload_g (by kernel_rfl) (.tmp 15) rfl y3.heap.size Dd rfl P15.out ?_)
          | (with_reducible refine wp_mload_g (by kernel_rfl) (.tmp 17) rfl y4.heap.size Dc rfl P17.out ?_)
          | (with_reducible refine wp_mload_g (by kernel_rfl) (.tmp 19) rfl y5.heap.size Dk rfl P19.out ?_)
          | (with_reducible refine wp_mload_g (by kernel_rfl) (.tmp 20) rfl (y5.heap.size + 1) Ds rfl P20.out ?_)
          | (with_reducible refine wp_mload_g (by kernel_rfl) (.tmp 22) rfl y6.heap.size Ek rfl P22.out ?_)
          | (with_reducible refine wp_mload_g (by kernel_rfl) (.tmp 23) rfl (y6.heap.size + 1) Es rfl P23.out ?_)
          | (with_reducible refine wp_mload_g (by kernel_rfl) (.tmp 25) rfl y7.heap.size Dm rfl P25.out ?_)
          | (with_reducible refine wp_mload_g (by kernel_rfl) (.tmp 27) rfl y8.heap.size Dn rfl P27.out ?_)
          | (with_reducible refine wp_mload_g (by kernel_rfl) (.tmp 29) rfl y9.heap.size Dt rfl P29.out ?_)
          | fail)
        refine (emsame_true HVd.out.mar.mrr HVc.out (fun _ _ => trivial) (fun _ _ => trivial) (resM_congr (fun k _ => by show M k - N k = M k + -N k; omega))).mono ?_
        rintro e z1 ⟨rfl, hb⟩
        have Zc20 := hid hb.out.size
        replace KB := hid (KB.out.trans (hb.out.mono KB.out.size))
        replace K := hid (K.out.trans (hb.out.mono K.out.size))
        replace HM := hid (HM.out.below hb.out)
        replace HN := hid (HN.out.below hb.out)
        replace HO := hid (HO.out.below hb.out)
        replace HP := hid (HP.out.below hb.out)
        replace HTb := hid (HTb.out.below hb.out HTb.out.lt)
        replace PD := hid (PD.out.below hb.out PD.out.lt)
        replace PE := hid (PE.out.below hb.out PE.out.lt)
        replace P9 := hid (P9.out.below hb.out P9.out.lt)
        replace P10 := hid (P10.out.below hb.out P10.out.lt)
        replace HVp := hid (HVp.out.below hb.out)
        replace P11 := hid (P11.out.below hb.out P11.out.lt)
        replace HVd := hid (HVd.out.below hb.out)
        replace P15 := hid (P15.out.below hb.out P15.out.lt)
        replace HVc := hid (HVc.out.below hb.out)
        replace P17 := hid (P17.out.below hb.out P17.out.lt)
        replace HVk := hid (HVk.out.below hb.out)
        replace HVs := hid (HVs.out.below hb.out)
        replace P19 := hid (P19.out.below hb.out P19.out.lt)
        replace P20 := hid (P20.out.below hb.out P20.out.lt)
        replace HVek := hid (HVek.out.below hb.out)
        replace HVes := hid (HVes.out.below hb.out)
        replace P22 := hid (P22.out.below hb.out P22.out.lt)
        replace P23 := hid (P23.out.below hb.out P23.out.lt)
        replace HVm := hid (HVm.out.below hb.out)
        replace P25 := hid (P25.out.below hb.out P25.out.lt)
        replace HVn := hid (HVn.out.below hb.out)
        replace P27 := hid (P27.out.below hb.out P27.out.lt)
        replace HVt := hid (HVt.out.below hb.out)
        replace P29 := hid (P29.out.below hb.out P29.out.lt)
        replace Swp := hid (fun k hk => (Swp.out k hk).below hb.out)
        replace Swd := hid (fun k hk => (Swd.out k hk).below hb.out)
        replace Sws := hid (fun k hk => (Sws.out k hk).below hb.out)
        replace Swk := hid (fun k hk => (Swk.out k hk).below hb.out)
        replace Swm := hid (fun k hk => (Swm.out k hk).below hb.out)
        replace Swt := hid (fun k hk => (Swt.out k hk).below hb.out)
        clear hb
        clear HVc P17
        go_wp2_with (first
          | (with_reducible refine wp_mload rfl (.tmp 4) rfl w.heap.size D rfl PD.out ?_)
          | (with_reducible refine wp_mload rfl (.tmp 5) rfl (w.heap.size + 1) E rfl PE.out ?_)
          | (with_reducible refine wp_mload rfl (.tmp 9) rfl g9 R9 rfl P9.out ?_)
          | (with_reducible refine wp_mload rfl (.tmp 10) rfl g10 R10 rfl P10.out ?_)
          | (with_reducible refine wp_mload rfl (.tmp 11) rfl y1.heap.size Dp rfl P11.out ?_)
          | (with_reducible refine wp_mload rfl (.tmp 15) rfl y3.heap.size Dd rfl P15.out ?_)
          | (with_reducible refine wp_mload rfl (.tmp 19) rfl y5.heap.size Dk rfl P19.out ?_)
          | (with_reducible refine wp_mload rfl (.tmp 20) rfl (y5.heap.size + 1) Ds rfl P20.out ?_)
          | (with_reducible refine wp_mload rfl (.tmp 22) rfl y6.heap.size Ek rfl P22.out ?_)
          | (with_reducible refine wp_mload rfl (.tmp 23) rfl (y6.heap.size + 1) Es rfl P23.out ?_)
          | (with_reducible refine wp_mload rfl (.tmp 25) rfl y7.heap.size Dm rfl P25.out ?_)
          | (with_reducible refine wp_mload rfl (.tmp 27) rfl y8.heap.size Dn rfl P27.out ?_)
          | (with_reducible refine wp_mload rfl (.tmp 29) rfl y9.heap.size Dt rfl P29.out ?_)
          | (with_reducible refine wp_mload_g (by kernel_rfl) (.tmp 4) rfl w.heap.size D rfl PD.out ?_)
          | (with_reducible refine wp_mload_g (by kernel_rfl) (.tmp 5) rfl (w.heap.size + 1) E rfl PE.out ?_)
          | (with_reducible refine wp_mload_g (by kernel_rfl) (.tmp 9) rfl g9 R9 rfl P9.out ?_)
          | (with_reducible refine wp_mload_g (by kernel_rfl) (.tmp 10) rfl g10 R10 rfl P10.out ?_)
          | (with_reducible refine wp_mload_g (by kernel_rfl) (.tmp 11) rfl y1.heap.size Dp rfl P11.out ?_)
          | (with_reducible refine wp_mload_g (by kernel_rfl) (.tmp 15) rfl y3.heap.size Dd rfl P15.out ?_)
          | (with_reducible refine wp_mload_g (by kernel_rfl) (.tmp 19) rfl y5.heap.size Dk rfl P19.out ?_)
          | (with_reducible refine wp_mload_g (by kernel_rfl) (.tmp 20) rfl (y5.heap.size + 1) Ds rfl P20.out ?_)
          | (with_reducible refine wp_mload_g (by kernel_rfl) (.tmp 22) rfl y6.heap.size Ek rfl P22.out ?_)
          | (with_reducible refine wp_mload_g (by kernel_rfl) (.tmp 23) rfl (y6.heap.size + 1) Es rfl P23.out ?_)
          | (with_reducible refine wp_mload_g (by kernel_rfl) (.tmp 25) rfl y7.heap.size Dm rfl P25.out ?_)
          | (with_reducible refine wp_mload_g (by kernel_rfl) (.tmp 27) rfl y8.heap.size Dn rfl P27.out ?_)
          | (with_reducible refine wp_mload_g (by kernel_rfl) (.tmp 29) rfl y9.heap.size Dt rfl P29.out ?_)
          | fail)
        refine (emsame_true HVk.out.mar.mrr HVek.out (fun _ _ => trivial) (fun _ _ => trivial) (resM_eq (fun h0 => all_of4 (P := fun k => of4 H0 H1 (M 2) (M 3) k = of4 G0 G1 (M 2) (M 3) k) (Hsp.out h0).1 (Hsp.out h0).2 rfl rfl))).mono ?_
        rintro e z2 ⟨rfl, hb⟩
        have Zc21 := hid hb.out.size
        replace KB := hid (KB.out.trans (hb.out.mono KB.out.size))
        replace K := hid (K.out.trans (hb.out.mono K.out.size))
        replace HM := hid (HM.out.below hb.out)
        replace HN := hid (HN.out.below hb.out)
        replace HO := hid (HO.out.below hb.out)
        replace HP := hid (HP.out.below hb.out)
        replace HTb := hid (HTb.out.below hb.out HTb.out.lt)
        replace PD := hid (PD.out.below hb.out PD.out.lt)
        replace PE := hid (PE.out.below hb.out PE.out.lt)
        replace P9 := hid (P9.out.below hb.out P9.out.lt)
        replace P10 := hid (P10.out.below hb.out P10.out.lt)
        replace HVp := hid (HVp.out.below hb.out)
        replace P11 := hid (P11.out.below hb.out P11.out.lt)
        replace HVd := hid (HVd.out.below hb.out)
        replace P15 := hid (P15.out.below hb.out P15.out.lt)
        replace HVk := hid (HVk.out.below hb.out)
        replace HVs := hid (HVs.out.below hb.out)
        replace P19 := hid (P19.out.below hb.out P19.out.lt)
        replace P20 := hid (P20.out.below hb.out P20.out.lt)
        replace HVek := hid (HVek.out.below hb.out)
        replace HVes := hid (HVes.out.below hb.out)
        replace P22 := hid (P22.out.below hb.out P22.out.lt)
        replace P23 := hid (P23.out.below hb.out P23.out.lt)
        replace HVm := hid (HVm.out.below hb.out)
        replace P25 := hid (P25.out.below hb.out P25.out.lt)
        replace HVn := hid (HVn.out.below hb.out)
        replace P27 := hid (P27.out.below hb.out P27.out.lt)
        replace HVt := hid (HVt.out.below hb.out)
        replace P29 := hid (P29.out.below hb.out P29.out.lt)
        replace Swp := hid (fun k hk => (Swp.out k hk).below hb.out)
        replace Swd := hid (fun k hk => (Swd.out k hk).below hb.out)
        replace Sws := hid (fun k hk => (Sws.out k hk).below hb.out)
        replace Swk := hid (fun k hk => (Swk.out k hk).below hb.out)
        replace Swm := hid (fun k hk => (Swm.out k hk).below hb.out)
        replace Swt := hid (fun k hk => (Swt.out k hk).below hb.out)
        clear hb
        go_wp2_with (first
          | (with_reducible refine wp_mload rfl (.tmp 4) rfl w.heap.size D rfl PD.out ?_)
          | (with_reducible refine wp_mload rfl (.tmp 5) rfl (w.heap.size + 1) E rfl PE.out ?_)
          | (with_reducible refine wp_mload rfl (.tmp 9) rfl g9 R9 rfl P9.out ?_)
          | (with_reducible refine wp_mload rfl (.tmp 10) rfl g10 R10 rfl P10.out ?_)
          | (with_reducible refine wp_mload rfl (.tmp 11) rfl y1.heap.size Dp rfl P11.out ?_)
          | (with_reducible refine wp_mload rfl (.tmp 15) rfl y3.heap.size Dd rfl P15.out ?_)
          | (with_reducible refine wp_mload rfl (.tmp 19) rfl y5.heap.size Dk rfl P19.out ?_)
          | (with_reducible refine wp_mload rfl (.tmp 20) rfl (y5.heap.size + 1) Ds rfl P20.out ?_)
          | (with_reducible refine wp_mload rfl (.tmp 22) rfl y6.heap.size Ek rfl P22.out ?_)
          | (with_reducible refine wp_mload rfl (.tmp 23) rfl (y6.heap.size + 1) Es rfl P23.out ?_)
          | (with_reducible refine wp_mload rfl (.tmp 25) rfl y7.heap.size Dm rfl P25.out ?_)
          | (with_reducible refine wp_mload rfl (.tmp 27) rfl y8.heap.size Dn rfl P27.out ?_)
          | (with_reducible refine wp_mload rfl (.tmp 29) rfl y9.heap.size Dt rfl P29.out ?_)
          | (with_reducible refine wp_mload_g (by kernel_rfl) (.tmp 4) rfl w.heap.size D rfl PD.out ?_)
          | (with_reducible refine wp_mload_g (by kernel_rfl) (.tmp 5) rfl (w.heap.size + 1) E rfl PE.out ?_)
          | (with_reducible refine wp_mload_g (by kernel_rfl) (.tmp 9) rfl g9 R9 rfl P9.out ?_)
          | (with_reducible refine wp_mload_g (by kernel_rfl) (.tmp 10) rfl g10 R10 rfl P10.out ?_)
          | (with_reducible refine wp_mload_g (by kernel_rfl) (.tmp 11) rfl y1.heap.size Dp rfl P11.out ?_)
          | (with_reducible refine wp_mload_g (by kernel_rfl) (.tmp 15) rfl y3.heap.size Dd rfl P15.out ?_)
          | (with_reducible refine wp_mload_g (by kernel_rfl) (.tmp 19) rfl y5.heap.size Dk rfl P19.out ?_)
          | (with_reducible refine wp_mload_g (by kernel_rfl) (.tmp 20) rfl (y5.heap.size + 1) Ds rfl P20.out ?_)
          | (with_reducible refine wp_mload_g (by kernel_rfl) (.tmp 22) rfl y6.heap.size Ek rfl P22.out ?_)
          | (with_reducible refine wp_mload_g (by kernel_rfl) (.tmp 23) rfl (y6.heap.size + 1) Es rfl P23.out ?_)
          | (with_reducible refine wp_mload_g (by kernel_rfl) (.tmp 25) rfl y7.heap.size Dm rfl P25.out ?_)
          | (with_reducible refine wp_mload_g (by kernel_rfl) (.tmp 27) rfl y8.heap.size Dn rfl P27.out ?_)
          | (with_reducible refine wp_mload_g (by kernel_rfl) (.tmp 29) rfl y9.heap.size Dt rfl P29.out ?_)
          | fail)
        refine (emsame_true HVs.out.mar.mrr HVes.out (fun _ _ => trivial) (fun _ _ => trivial) (resM_eq (fun h0 => all_of4 (P := fun k => of4 H0 H1 0 0 k = of4 G0 G1 0 0 k) (Hsp.out h0).1 (Hsp.out h0).2 rfl rfl))).mono ?_
        rintro e z3 ⟨rfl, hb⟩
        have Zc22 := hid hb.out.size
        replace KB := hid (KB.out.trans (hb.out.mono KB.out.size))
        replace K := hid (K.out.trans (hb.out.mono K.out.size))
        replace HM := hid (HM.out.below hb.out)
        replace HN := hid (HN.out.below hb.out)
        replace HO := hid (HO.out.below hb.out)
        replace HP := hid (HP.out.below hb.out)
        replace HTb := hid (HTb.out.below hb.out HTb.out.lt)
        replace PD := hid (PD.out.below hb.out PD.out.lt)
        replace PE := hid (PE.out.below hb.out PE.out.lt)
        replace P9 := hid (P9.out.below hb.out P9.out.lt)
        replace P10 := hid (P10.out.below hb.out P10.out.lt)
        replace HVp := hid (HVp.out.below hb.out)
        replace P11 := hid (P11.out.below hb.out P11.out.lt)
        replace HVd := hid (HVd.out.below hb.out)
        replace P15 := hid (P15.out.below hb.out P15.out.lt)
        replace HVk := hid (HVk.out.below hb.out)
        replace HVs := hid (HVs.out.below hb.out)
        replace P19 := hid (P19.out.below hb.out P19.out.lt)
        replace P20 := hid (P20.out.below hb.out P20.out.lt)
        replace HVek := hid (HVek.out.below hb.out)
        replace HVes := hid (HVes.out.below hb.out)
        replace P22 := hid (P22.out.below hb.out P22.out.lt)
        replace P23 := hid (P23.out.below hb.out P23.out.lt)
        replace HVm := hid (HVm.out.below hb.out)
        replace P25 := hid (P25.out.below hb.out P25.out.lt)
        replace HVn := hid (HVn.out.below hb.out)
        replace P27 := hid (P27.out.below hb.out P27.out.lt)
        replace HVt := hid (HVt.out.below hb.out)
        replace P29 := hid (P29.out.below hb.out P29.out.lt)
        replace Swp := hid (fun k hk => (Swp.out k hk).below hb.out)
        replace Swd := hid (fun k hk => (Swd.out k hk).below hb.out)
        replace Sws := hid (fun k hk => (Sws.out k hk).below hb.out)
        replace Swk := hid (fun k hk => (Swk.out k hk).below hb.out)
        replace Swm := hid (fun k hk => (Swm.out k hk).below hb.out)
        replace Swt := hid (fun k hk => (Swt.out k hk).below hb.out)
        clear hb
        clear HVes P23
        go_wp2_with (first
          | (with_reducible refine wp_mload rfl (.tmp 4) rfl w.heap.size D rfl PD.out ?_)
          | (with_reducible refine wp_mload rfl (.tmp 5) rfl (w.heap.size + 1) E rfl PE.out ?_)
          | (with_reducible refine wp_mload rfl (.tmp 9) rfl g9 R9 rfl P9.out ?_)
          | (with_reducible refine wp_mload rfl (.tmp 10) rfl g10 R10 rfl P10.out ?_)
          | (with_reducible refine wp_mload rfl (.tmp 11) rfl y1.heap.size Dp rfl P11.out ?_)
          | (with_reducible refine wp_mload rfl (.tmp 15) rfl y3.heap.size Dd rfl P15.out ?_)
          | (with_reducible refine wp_mload rfl (.tmp 19) rfl y5.heap.size Dk rfl P19.out ?_)
          | (with_reducible refine wp_mload rfl (.tmp 20) rfl (y5.heap.size + 1) Ds rfl P20.out ?_)
          | (with_reducible refine wp_mload rfl (.tmp 22) rfl y6.heap.size Ek rfl P22.out ?_)
          | (with_reducible refine wp_mload rfl (.tmp 25) rfl y7.heap.size Dm rfl P25.out ?_)
          | (with_reducible refine wp_mload rfl (.tmp 27) rfl y8.heap.size Dn rfl P27.out ?_)
          | (with_reducible refine wp_mload rfl (.tmp 29) rfl y9.heap.size Dt rfl P29.out ?_)
          | (with_reducible refine wp_mload_g (by kernel_rfl) (.tmp 4) rfl w.heap.size D rfl PD.out ?_)
          | (with_reducible refine wp_mload_g (by kernel_rfl) (.tmp 5) rfl (w.heap.size + 1) E rfl PE.out ?_)
          | (with_reducible refine wp_mload_g (by kernel_rfl) (.tmp 9) rfl g9 R9 rfl P9.out ?_)
          | (with_reducible refine wp_mload_g (by kernel_rfl) (.tmp 10) rfl g10 R10 rfl P10.out ?_)
          | (with_reducible refine wp_mload_g (by kernel_rfl) (.tmp 11) rfl y1.heap.size Dp rfl P11.out ?_)
          | (with_reducible refine wp_mload_g (by kernel_rfl) (.tmp 15) rfl y3.heap.size Dd rfl P15.out ?_)
          | (with_reducible refine wp_mload_g (by kernel_rfl) (.tmp 19) rfl y5.heap.size Dk rfl P19.out ?_)
          | (with_reducible refine wp_mload_g (by kernel_rfl) (.tmp 20) rfl (y5.heap.size + 1) Ds rfl P20.out ?_)
          | (with_reducible refine wp_mload_g (by kernel_rfl) (.tmp 22) rfl y6.heap.size Ek rfl P22.out ?_)
          | (with_reducible refine wp_mload_g (by kernel_rfl) (.tmp 25) rfl y7.heap.size Dm rfl P25.out ?_)
          | (with_reducible refine wp_mload_g (by kernel_rfl) (.tmp 27) rfl y8.heap.size Dn rfl P27.out ?_)
          | (with_reducible refine wp_mload_g (by kernel_rfl) (.tmp 29) rfl y9.heap.size Dt rfl P29.out ?_)
          | fail)
        refine (emsame_true HVm.out.mar.mrr HVn.out (fun _ _ => trivial) (fun _ _ => trivial) (fun _ _ => rfl)).mono ?_
        rintro e z4 ⟨rfl, hb⟩
        have Zc23 := hid hb.out.size
        replace KB := hid (KB.out.trans (hb.out.mono KB.out.size))
        replace K := hid (K.out.trans (hb.out.mono K.out.size))
        replace HM := hid (HM.out.below hb.out)
        replace HN := hid (HN.out.below hb.out)
        replace HO := hid (HO.out.below hb.out)
        replace HP := hid (HP.out.below hb.out)
        replace HTb := hid (HTb.out.below hb.out HTb.out.lt)
        replace PD := hid (PD.out.below hb.out PD.out.lt)
        replace PE := hid (PE.out.below hb.out PE.out.lt)
        replace P9 := hid (P9.out.below hb.out P9.out.lt)
        replace P10 := hid (P10.out.below hb.out P10.out.lt)
        replace HVp := hid (HVp.out.below hb.out)
        replace P11 := hid (P11.out.below hb.out P11.out.lt)
        replace HVd := hid (HVd.out.below hb.out)
        replace P15 := hid (P15.out.below hb.out P15.out.lt)
        replace HVk := hid (HVk.out.below hb.out)
        replace HVs := hid (HVs.out.below hb.out)
        replace P19 := hid (P19.out.below hb.out P19.out.lt)
        replace P20 := hid (P20.out.below hb.out P20.out.lt)
        replace HVek := hid (HVek.out.below hb.out)
        replace P22 := hid (P22.out.below hb.out P22.out.lt)
        replace HVm := hid (HVm.out.below hb.out)
        replace P25 := hid (P25.out.below hb.out P25.out.lt)
        replace HVn := hid (HVn.out.below hb.out)
        replace P27 := hid (P27.out.below hb.out P27.out.lt)
        replace HVt := hid (HVt.out.below hb.out)
        replace P29 := hid (P29.out.below hb.out P29.out.lt)
        replace Swp := hid (fun k hk => (Swp.out k hk).below hb.out)
        replace Swd := hid (fun k hk => (Swd.out k hk).below hb.out)
        replace Sws := hid (fun k hk => (Sws.out k hk).below hb.out)
        replace Swk := hid (fun k hk => (Swk.out k hk).below hb.out)
        replace Swm := hid (fun k hk => (Swm.out k hk).below hb.out)
        replace Swt := hid (fun k hk => (Swt.out k hk).below hb.out)
        clear hb
        clear HVn P27
        go_upto_region 14 with (first
          | (with_reducible refine wp_mload rfl (.tmp 4) rfl w.heap.size D rfl PD.out ?_)
          | (with_reducible refine wp_mload rfl (.tmp 5) rfl (w.heap.size + 1) E rfl PE.out ?_)
          | (with_reducible refine wp_mload rfl (.tmp 9) rfl g9 R9 rfl P9.out ?_)
          | (with_reducible refine wp_mload rfl (.tmp 10) rfl g10 R10 rfl P10.out ?_)
          | (with_reducible refine wp_mload rfl (.tmp 11) rfl y1.heap.size Dp rfl P11.out ?_)
          | (with_reducible refine wp_mload rfl (.tmp 15) rfl y3.heap.size Dd rfl P15.out ?_)
          | (with_reducible refine wp_mload rfl (.tmp 19) rfl y5.heap.size Dk rfl P19.out ?_)
          | (with_reducible refine wp_mload rfl (.tmp 20) rfl (y5.heap.size + 1) Ds rfl P20.out ?_)
          | (with_reducible refine wp_mload rfl (.tmp 22) rfl y6.heap.size Ek rfl P22.out ?_)
          | (with_reducible refine wp_mload rfl (.tmp 25) rfl y7.heap.size Dm rfl P25.out ?_)
          | (with_reducible refine wp_mload rfl (.tmp 29) rfl y9.heap.size Dt rfl P29.out ?_)
          | (with_reducible refine wp_mload_g (by kernel_rfl) (.tmp 4) rfl w.heap.size D rfl PD.out ?_)
          | (with_reducible refine wp_mload_g (by kernel_rfl) (.tmp 5) rfl (w.heap.size + 1) E rfl PE.out ?_)
          | (with_reducible refine wp_mload_g (by kernel_rfl) (.tmp 9) rfl g9 R9 rfl P9.out ?_)
          | (with_reducible refine wp_mload_g (by kernel_rfl) (.tmp 10) rfl g10 R10 rfl P10.out ?_)
          | (with_reducible refine wp_mload_g (by kernel_rfl) (.tmp 11) rfl y1.heap.size Dp rfl P11.out ?_)
          | (with_reducible refine wp_mload_g (by kernel_rfl) (.tmp 15) rfl y3.heap.size Dd rfl P15.out ?_)
          | (with_reducible refine wp_mload_g (by kernel_rfl) (.tmp 19) rfl y5.heap.size Dk rfl P19.out ?_)
          | (with_reducible refine wp_mload_g (by kernel_rfl) (.tmp 20) rfl (y5.heap.size + 1) Ds rfl P20.out ?_)
          | (with_reducible refine wp_mload_g (by kernel_rfl) (.tmp 22) rfl y6.heap.size Ek rfl P22.out ?_)
          | (with_reducible refine wp_mload_g (by kernel_rfl) (.tmp 25) rfl y7.heap.size Dm rfl P25.out ?_)
          | (with_reducible refine wp_mload_g (by kernel_rfl) (.tmp 29) rfl y9.heap.size Dt rfl P29.out ?_)
          | fail)
        have CF : Hid (∀ X, Below z4.heap.size z4 X → (Mbox X w.heap.size D ∧ Mbox X (w.heap.size + 1) E ∧ Mbox X g9 R9 ∧ Mbox X g10 R10 ∧ Mbox X y9.heap.size Dt)) := hid fun X hb => ⟨PD.out.below hb PD.out.lt, PE.out.below hb PE.out.lt, P9.out.below hb P9.out.lt, P10.out.below hb P10.out.lt, P29.out.below hb P29.out.lt⟩
        have BX : Hid (Below z4.heap.size z4 z4.drew) := hid (Below.refl z4.heap.size z4).drew
        have Zc24 := hid BX.out.size
        replace KB := hid (KB.out.trans (BX.out.mono KB.out.size))
        replace K := hid (K.out.trans (BX.out.mono K.out.size))
        replace HM := hid (HM.out.below BX.out)
        replace HN := hid (HN.out.below BX.out)
        replace HO := hid (HO.out.below BX.out)
        replace HP := hid (HP.out.below BX.out)
        replace HTb := hid (HTb.out.below BX.out HTb.out.lt)
        replace PD := hid (PD.out.below BX.out PD.out.lt)
        replace PE := hid (PE.out.below BX.out PE.out.lt)
        replace P9 := hid (P9.out.below BX.out P9.out.lt)
        replace P10 := hid (P10.out.below BX.out P10.out.lt)
        replace HVp := hid (HVp.out.below BX.out)
        replace P11 := hid (P11.out.below BX.out P11.out.lt)
        replace HVd := hid (HVd.out.below BX.out)
        replace P15 := hid (P15.out.below BX.out P15.out.lt)
        replace HVk := hid (HVk.out.below BX.out)
        replace HVs := hid (HVs.out.below BX.out)
        replace P19 := hid (P19.out.below BX.out P19.out.lt)
        replace P20 := hid (P20.out.below BX.out P20.out.lt)
        replace HVek := hid (HVek.out.below BX.out)
        replace P22 := hid (P22.out.below BX.out P22.out.lt)
        replace HVm := hid (HVm.out.below BX.out)
        replace P25 := hid (P25.out.below BX.out P25.out.lt)
        replace HVt := hid (HVt.out.below BX.out)
        replace P29 := hid (P29.out.below BX.out P29.out.lt)
        replace Swp := hid (fun k hk => (Swp.out k hk).below BX.out)
        replace Swd := hid (fun k hk => (Swd.out k hk).below BX.out)
        replace Sws := hid (fun k hk => (Sws.out k hk).below BX.out)
        replace Swk := hid (fun k hk => (Swk.out k hk).below BX.out)
        replace Swm := hid (fun k hk => (Swm.out k hk).below BX.out)
        replace Swt := hid (fun k hk => (Swt.out k hk).below BX.out)
        refine wp_region_held_drew (S := fun X => Mbox X w.heap.size D ∧ Mbox X (w.heap.size + 1) E ∧ Mbox X g9 R9 ∧ Mbox X g10 R10 ∧ Mbox X y9.heap.size Dt) (by kernel_rfl) (CF.out _ BX.out) (fun hHeld => ?_)
        refine wpAnyH_take (i := 0) rfl (by kernel_rfl) (by kernel_rfl) (by kernel_rfl) (fun _ _ _ h => h) (yields_mload (by rfl) (.tmp 9) rfl g9 R9 rfl (fun X hX => hX.2.2.1)) hHeld ?_
        (try simp only [Act.put, List.setIfInBounds_toArray, List.set_cons_zero, List.set_cons_succ, List.getElem_toArray, List.getElem_cons_zero])
        refine wpAnyH_take (i := 2) rfl (by kernel_rfl) (by kernel_rfl) (by kernel_rfl) (fun _ _ _ h => h) (yields_mload (by rfl) (.tmp 4) rfl w.heap.size D rfl (fun X hX => hX.1)) hHeld ?_
        (try simp only [Act.put, List.setIfInBounds_toArray, List.set_cons_zero, List.set_cons_succ, List.getElem_toArray, List.getElem_cons_succ, List.getElem_cons_zero])
        refine wpAnyH_ready (rs := [1]) (by kernel_rfl) (by simp) ?_
        refine AllReadyH.cons rfl (fun K' hK => ?_) AllReadyH.nil
        (try simp only [Act.put, List.setIfInBounds_toArray, List.set_cons_zero, List.set_cons_succ, List.getElem_toArray, List.getElem_cons_succ, List.getElem_cons_zero])
        go_simp
        refine (HO.out.check).mono ?_
        rintro e v1 ⟨er, rfl, Her, hb⟩
        have Zc25 := hid hb.out.size
        replace KB := hid (KB.out.trans (hb.out.mono KB.out.size))
        replace K := hid (K.out.trans (hb.out.mono K.out.size))
        replace HM := hid (HM.out.below hb.out)
        replace HN := hid (HN.out.below hb.out)
        replace HO := hid (HO.out.below hb.out)
        replace HP := hid (HP.out.below hb.out)
        replace HTb := hid (HTb.out.below hb.out HTb.out.lt)
        replace PD := hid (PD.out.below hb.out PD.out.lt)
        replace PE := hid (PE.out.below hb.out PE.out.lt)
        replace P9 := hid (P9.out.below hb.out P9.out.lt)
        replace P10 := hid (P10.out.below hb.out P10.out.lt)
        replace HVp := hid (HVp.out.below hb.out)
        replace P11 := hid (P11.out.below hb.out P11.out.lt)
        replace HVd := hid (HVd.out.below hb.out)
        replace P15 := hid (P15.out.below hb.out P15.out.lt)
        replace HVk := hid (HVk.out.below hb.out)
        replace HVs := hid (HVs.out.below hb.out)
        replace P19 := hid (P19.out.below hb.out P19.out.lt)
        replace P20 := hid (P20.out.below hb.out P20.out.lt)
        replace HVek := hid (HVek.out.below hb.out)
        replace P22 := hid (P22.out.below hb.out P22.out.lt)
        replace HVm := hid (HVm.out.below hb.out)
        replace P25 := hid (P25.out.below hb.out P25.out.lt)
        replace HVt := hid (HVt.out.below hb.out)
        replace P29 := hid (P29.out.below hb.out P29.out.lt)
        replace BX := hid (BX.out.trans (hb.out.mono BX.out.size))
        replace Swp := hid (fun k hk => (Swp.out k hk).below hb.out)
        replace Swd := hid (fun k hk => (Swd.out k hk).below hb.out)
        replace Sws := hid (fun k hk => (Sws.out k hk).below hb.out)
        replace Swk := hid (fun k hk => (Swk.out k hk).below hb.out)
        replace Swm := hid (fun k hk => (Swm.out k hk).below hb.out)
        replace Swt := hid (fun k hk => (Swt.out k hk).below hb.out)
        try dsimp only
        refine hK.out _ _ (CF.out _ BX.out) (fun hHeld => ?_)
        clear hK K' hb
        (try simp only [Act.put, List.setIfInBounds_toArray, List.set_cons_zero, List.set_cons_succ, List.getElem_toArray, List.getElem_cons_succ, List.getElem_cons_zero])
        refine wpAnyH_ready (rs := [3]) (by kernel_rfl) (by simp) ?_
        refine AllReadyH.cons rfl (fun K' hK => ?_) AllReadyH.nil
        (try simp only [Act.put, List.setIfInBounds_toArray, List.set_cons_zero, List.set_cons_succ, List.getElem_toArray, List.getElem_cons_succ, List.getElem_cons_zero])
        go_simp
        refine (echk_any HM.out.mrr).mono ?_
        rintro e v3 ⟨es, rfl, Hes, hb⟩
        have Zc26 := hid hb.out.size
        replace KB := hid (KB.out.trans (hb.out.mono KB.out.size))
        replace K := hid (K.out.trans (hb.out.mono K.out.size))
        replace HM := hid (HM.out.below hb.out)
        replace HN := hid (HN.out.below hb.out)
        replace HO := hid (HO.out.below hb.out)
        replace HP := hid (HP.out.below hb.out)
        replace HTb := hid (HTb.out.below hb.out HTb.out.lt)
        replace PD := hid (PD.out.below hb.out PD.out.lt)
        replace PE := hid (PE.out.below hb.out PE.out.lt)
        replace P9 := hid (P9.out.below hb.out P9.out.lt)
        replace P10 := hid (P10.out.below hb.out P10.out.lt)
        replace HVp := hid (HVp.out.below hb.out)
        replace P11 := hid (P11.out.below hb.out P11.out.lt)
        replace HVd := hid (HVd.out.below hb.out)
        replace P15 := hid (P15.out.below hb.out P15.out.lt)
        replace HVk := hid (HVk.out.below hb.out)
        replace HVs := hid (HVs.out.below hb.out)
        replace P19 := hid (P19.out.below hb.out P19.out.lt)
        replace P20 := hid (P20.out.below hb.out P20.out.lt)
        replace HVek := hid (HVek.out.below hb.out)
        replace P22 := hid (P22.out.below hb.out P22.out.lt)
        replace HVm := hid (HVm.out.below hb.out)
        replace P25 := hid (P25.out.below hb.out P25.out.lt)
        replace HVt := hid (HVt.out.below hb.out)
        replace P29 := hid (P29.out.below hb.out P29.out.lt)
        replace BX := hid (BX.out.trans (hb.out.mono BX.out.size))
        replace Swp := hid (fun k hk => (Swp.out k hk).below hb.out)
        replace Swd := hid (fun k hk => (Swd.out k hk).below hb.out)
        replace Sws := hid (fun k hk => (Sws.out k hk).below hb.out)
        replace Swk := hid (fun k hk => (Swk.out k hk).below hb.out)
        replace Swm := hid (fun k hk => (Swm.out k hk).below hb.out)
        replace Swt := hid (fun k hk => (Swt.out k hk).below hb.out)
        obtain rfl : es = er := chk_same Hes.out Her.out
        clear Her Hes
        try dsimp only
        refine hK.out _ _ (CF.out _ BX.out) (fun hHeld => ?_)
        clear hK K' hb
        (try simp only [Act.put, List.setIfInBounds_toArray, List.set_cons_zero, List.set_cons_succ, List.getElem_toArray, List.getElem_cons_succ, List.getElem_cons_zero])
        refine wpAnyH_take (i := 4) (v := ?v1) rfl (by kernel_rfl) (by kernel_rfl) (by kernel_rfl) (fun _ _ _ h => h) (Or.inl ⟨by rfl, ?y1⟩) (by assumption) ?r1
        case y1 => (intro w0 hSw; (try dsimp only at hSw); (try simp only [List.getElem_toArray, List.getElem_cons_succ, List.getElem_cons_zero]); go_simp; try with_reducible rfl)
        (try simp only [Act.put, List.setIfInBounds_toArray, List.set_cons_zero, List.set_cons_succ, List.getElem_toArray, List.getElem_cons_succ, List.getElem_cons_zero])
        refine wpAnyH_take (i := 5) (v := ?v2) rfl (by kernel_rfl) (by kernel_rfl) (by kernel_rfl) (fun _ _ _ h => h) (Or.inl ⟨by rfl, ?y2⟩) (by assumption) ?r2
        case y2 => (intro w0 hSw; (try dsimp only at hSw); (try simp only [List.getElem_toArray, List.getElem_cons_succ, List.getElem_cons_zero]); go_simp; try with_reducible rfl)
        (try simp only [Act.put, List.setIfInBounds_toArray, List.set_cons_zero, List.set_cons_succ, List.getElem_toArray, List.getElem_cons_succ, List.getElem_cons_zero])
        refine wpAnyH_take (i := 6) rfl (by kernel_rfl) (by kernel_rfl) (by kernel_rfl) (fun _ _ _ h => h) (yields_mload (by rfl) (.tmp 29) rfl y9.heap.size Dt rfl (fun X hX => hX.2.2.2.2)) hHeld ?_
        (try simp only [Act.put, List.setIfInBounds_toArray, List.set_cons_zero, List.set_cons_succ, List.getElem_toArray, List.getElem_cons_succ, List.getElem_cons_zero])
        refine wpAnyH_take (i := 7) rfl (by kernel_rfl) (by kernel_rfl) (by kernel_rfl) (fun _ _ _ h => h) (yields_mload (by rfl) (.tmp 4) rfl w.heap.size D rfl (fun X hX => hX.1)) hHeld ?_
        (try simp only [Act.put, List.setIfInBounds_toArray, List.set_cons_zero, List.set_cons_succ, List.getElem_toArray, List.getElem_cons_succ, List.getElem_cons_zero])
        refine wpAnyH_ready (rs := [8]) (by kernel_rfl) (by simp) ?_
        refine AllReadyH.cons rfl (fun K' hK => ?_) AllReadyH.nil
        (try simp only [Act.put, List.setIfInBounds_toArray, List.set_cons_zero, List.set_cons_succ, List.getElem_toArray, List.getElem_cons_succ, List.getElem_cons_zero])
        go_simp
        refine (emsame_raw (P := True) HVt.out.mrd HM.out.mrd (hid ⟨fun _ k hk => twd_dsm2 (T9.out k hk) (T29.out k hk), fun _ => trivial⟩)).mono ?_
        rintro e v8 ⟨ra, rfl, Hra, hb⟩
        have Zc27 := hid hb.out.size
        replace KB := hid (KB.out.trans (hb.out.mono KB.out.size))
        replace K := hid (K.out.trans (hb.out.mono K.out.size))
        replace HM := hid (HM.out.below hb.out)
        replace HN := hid (HN.out.below hb.out)
        replace HO := hid (HO.out.below hb.out)
        replace HP := hid (HP.out.below hb.out)
        replace HTb := hid (HTb.out.below hb.out HTb.out.lt)
        replace PD := hid (PD.out.below hb.out PD.out.lt)
        replace PE := hid (PE.out.below hb.out PE.out.lt)
        replace P9 := hid (P9.out.below hb.out P9.out.lt)
        replace P10 := hid (P10.out.below hb.out P10.out.lt)
        replace HVp := hid (HVp.out.below hb.out)
        replace P11 := hid (P11.out.below hb.out P11.out.lt)
        replace HVd := hid (HVd.out.below hb.out)
        replace P15 := hid (P15.out.below hb.out P15.out.lt)
        replace HVk := hid (HVk.out.below hb.out)
        replace HVs := hid (HVs.out.below hb.out)
        replace P19 := hid (P19.out.below hb.out P19.out.lt)
        replace P20 := hid (P20.out.below hb.out P20.out.lt)
        replace HVek := hid (HVek.out.below hb.out)
        replace P22 := hid (P22.out.below hb.out P22.out.lt)
        replace HVm := hid (HVm.out.below hb.out)
        replace P25 := hid (P25.out.below hb.out P25.out.lt)
        replace HVt := hid (HVt.out.below hb.out)
        replace P29 := hid (P29.out.below hb.out P29.out.lt)
        replace BX := hid (BX.out.trans (hb.out.mono BX.out.size))
        replace Swp := hid (fun k hk => (Swp.out k hk).below hb.out)
        replace Swd := hid (fun k hk => (Swd.out k hk).below hb.out)
        replace Sws := hid (fun k hk => (Sws.out k hk).below hb.out)
        replace Swk := hid (fun k hk => (Swk.out k hk).below hb.out)
        replace Swm := hid (fun k hk => (Swm.out k hk).below hb.out)
        replace Swt := hid (fun k hk => (Swt.out k hk).below hb.out)
        obtain rfl : ra = true := Hra.out.2 trivial
        clear Hra
        try dsimp only
        refine hK.out _ _ (CF.out _ BX.out) (fun hHeld => ?_)
        clear hK K' hb
        (try simp only [Act.put, List.setIfInBounds_toArray, List.set_cons_zero, List.set_cons_succ, List.getElem_toArray, List.getElem_cons_succ, List.getElem_cons_zero])
        refine wpAnyH_take (i := 9) (v := ?v3) rfl (by kernel_rfl) (by kernel_rfl) (by kernel_rfl) (fun _ _ _ h => h) (Or.inl ⟨by rfl, ?y3⟩) (by assumption) ?r3
        case y3 => (intro w0 hSw; (try dsimp only at hSw); (try simp only [List.getElem_toArray, List.getElem_cons_succ, List.getElem_cons_zero]); go_simp; try with_reducible rfl)
        (try simp only [Act.put, List.setIfInBounds_toArray, List.set_cons_zero, List.set_cons_succ, List.getElem_toArray, List.getElem_cons_succ, List.getElem_cons_zero])
        refine wpAnyH_take (i := 10) (v := ?v4) rfl (by kernel_rfl) (by kernel_rfl) (by kernel_rfl) (fun _ _ _ h => h) (Or.inl ⟨by rfl, ?y4⟩) (by assumption) ?r4
        case y4 => (intro w0 hSw; (try dsimp only at hSw); (try simp only [List.getElem_toArray, List.getElem_cons_succ, List.getElem_cons_zero]); go_simp; try with_reducible rfl)
        (try simp only [Act.put, List.setIfInBounds_toArray, List.set_cons_zero, List.set_cons_succ, List.getElem_toArray, List.getElem_cons_succ, List.getElem_cons_zero])
        refine wpAnyH_take (i := 11) rfl (by kernel_rfl) (by kernel_rfl) (by kernel_rfl) (fun _ _ _ h => h) (yields_mload (by rfl) (.tmp 9) rfl g9 R9 rfl (fun X hX => hX.2.2.1)) hHeld ?_
        (try simp only [Act.put, List.setIfInBounds_toArray, List.set_cons_zero, List.set_cons_succ, List.getElem_toArray, List.getElem_cons_succ, List.getElem_cons_zero])
        refine wpAnyH_take (i := 12) rfl (by kernel_rfl) (by kernel_rfl) (by kernel_rfl) (fun _ _ _ h => h) (yields_mload (by rfl) (.tmp 10) rfl g10 R10 rfl (fun X hX => hX.2.2.2.1)) hHeld ?_
        (try simp only [Act.put, List.setIfInBounds_toArray, List.set_cons_zero, List.set_cons_succ, List.getElem_toArray, List.getElem_cons_succ, List.getElem_cons_zero])
        refine wpAnyH_take (i := 14) rfl (by kernel_rfl) (by kernel_rfl) (by kernel_rfl) (fun _ _ _ h => h) (yields_mload (by rfl) (.tmp 4) rfl w.heap.size D rfl (fun X hX => hX.1)) hHeld ?_
        (try simp only [Act.put, List.setIfInBounds_toArray, List.set_cons_zero, List.set_cons_succ, List.getElem_toArray, List.getElem_cons_succ, List.getElem_cons_zero])
        refine wpAnyH_take (i := 15) rfl (by kernel_rfl) (by kernel_rfl) (by kernel_rfl) (fun _ _ _ h => h) (yields_mload (by rfl) (.tmp 5) rfl (w.heap.size + 1) E rfl (fun X hX => hX.2.1)) hHeld ?_
        (try simp only [Act.put, List.setIfInBounds_toArray, List.set_cons_zero, List.set_cons_succ, List.getElem_toArray, List.getElem_cons_succ, List.getElem_cons_zero])
        refine wpAnyH_ready (rs := [13]) (by kernel_rfl) (by simp) ?_
        refine AllReadyH.cons rfl (fun K' hK => ?_) AllReadyH.nil
        (try simp only [Act.put, List.setIfInBounds_toArray, List.set_cons_zero, List.set_cons_succ, List.getElem_toArray, List.getElem_cons_succ, List.getElem_cons_zero])
        go_simp
        refine (msame_raw (P := ∀ k, k < 4 → Dsm (D k) (E k)) HO.out.mrd HP.out.mrd (hid (twd_dsm_iff T9.out T10.out))).mono ?_
        rintro e v13 ⟨rb, rfl, Hrb, hb⟩
        have Zc28 := hid hb.out.size
        replace KB := hid (KB.out.trans (hb.out.mono KB.out.size))
        replace K := hid (K.out.trans (hb.out.mono K.out.size))
        replace HM := hid (HM.out.below hb.out)
        replace HN := hid (HN.out.below hb.out)
        replace HO := hid (HO.out.below hb.out)
        replace HP := hid (HP.out.below hb.out)
        replace HTb := hid (HTb.out.below hb.out HTb.out.lt)
        replace PD := hid (PD.out.below hb.out PD.out.lt)
        replace PE := hid (PE.out.below hb.out PE.out.lt)
        replace P9 := hid (P9.out.below hb.out P9.out.lt)
        replace P10 := hid (P10.out.below hb.out P10.out.lt)
        replace HVp := hid (HVp.out.below hb.out)
        replace P11 := hid (P11.out.below hb.out P11.out.lt)
        replace HVd := hid (HVd.out.below hb.out)
        replace P15 := hid (P15.out.below hb.out P15.out.lt)
        replace HVk := hid (HVk.out.below hb.out)
        replace HVs := hid (HVs.out.below hb.out)
        replace P19 := hid (P19.out.below hb.out P19.out.lt)
        replace P20 := hid (P20.out.below hb.out P20.out.lt)
        replace HVek := hid (HVek.out.below hb.out)
        replace P22 := hid (P22.out.below hb.out P22.out.lt)
        replace HVm := hid (HVm.out.below hb.out)
        replace P25 := hid (P25.out.below hb.out P25.out.lt)
        replace HVt := hid (HVt.out.below hb.out)
        replace P29 := hid (P29.out.below hb.out P29.out.lt)
        replace BX := hid (BX.out.trans (hb.out.mono BX.out.size))
        replace Swp := hid (fun k hk => (Swp.out k hk).below hb.out)
        replace Swd := hid (fun k hk => (Swd.out k hk).below hb.out)
        replace Sws := hid (fun k hk => (Sws.out k hk).below hb.out)
        replace Swk := hid (fun k hk => (Swk.out k hk).below hb.out)
        replace Swm := hid (fun k hk => (Swm.out k hk).below hb.out)
        replace Swt := hid (fun k hk => (Swt.out k hk).below hb.out)
        try dsimp only
        refine hK.out _ _ (CF.out _ BX.out) (fun hHeld => ?_)
        clear hK K' hb
        (try simp only [Act.put, List.setIfInBounds_toArray, List.set_cons_zero, List.set_cons_succ, List.getElem_toArray, List.getElem_cons_succ, List.getElem_cons_zero])
        refine wpAnyH_ready (rs := [16]) (by kernel_rfl) (by simp) ?_
        refine AllReadyH.cons rfl (fun K' hK => ?_) AllReadyH.nil
        (try simp only [Act.put, List.setIfInBounds_toArray, List.set_cons_zero, List.set_cons_succ, List.getElem_toArray, List.getElem_cons_succ, List.getElem_cons_zero])
        go_simp
        refine (emsame_raw (P := ∀ k, k < 4 → Dsm (D k) (E k)) HM.out.mrd HN.out.mrd (hid Iff.rfl)).mono ?_
        rintro e v16 ⟨rc, rfl, Hrc, hb⟩
        have Zc29 := hid hb.out.size
        replace KB := hid (KB.out.trans (hb.out.mono KB.out.size))
        replace K := hid (K.out.trans (hb.out.mono K.out.size))
        replace HM := hid (HM.out.below hb.out)
        replace HN := hid (HN.out.below hb.out)
        replace HO := hid (HO.out.below hb.out)
        replace HP := hid (HP.out.below hb.out)
        replace HTb := hid (HTb.out.below hb.out HTb.out.lt)
        replace PD := hid (PD.out.below hb.out PD.out.lt)
        replace PE := hid (PE.out.below hb.out PE.out.lt)
        replace P9 := hid (P9.out.below hb.out P9.out.lt)
        replace P10 := hid (P10.out.below hb.out P10.out.lt)
        replace HVp := hid (HVp.out.below hb.out)
        replace P11 := hid (P11.out.below hb.out P11.out.lt)
        replace HVd := hid (HVd.out.below hb.out)
        replace P15 := hid (P15.out.below hb.out P15.out.lt)
        replace HVk := hid (HVk.out.below hb.out)
        replace HVs := hid (HVs.out.below hb.out)
        replace P19 := hid (P19.out.below hb.out P19.out.lt)
        replace P20 := hid (P20.out.below hb.out P20.out.lt)
        replace HVek := hid (HVek.out.below hb.out)
        replace P22 := hid (P22.out.below hb.out P22.out.lt)
        replace HVm := hid (HVm.out.below hb.out)
        replace P25 := hid (P25.out.below hb.out P25.out.lt)
        replace HVt := hid (HVt.out.below hb.out)
        replace P29 := hid (P29.out.below hb.out P29.out.lt)
        replace BX := hid (BX.out.trans (hb.out.mono BX.out.size))
        replace Swp := hid (fun k hk => (Swp.out k hk).below hb.out)
        replace Swd := hid (fun k hk => (Swd.out k hk).below hb.out)
        replace Sws := hid (fun k hk => (Sws.out k hk).below hb.out)
        replace Swk := hid (fun k hk => (Swk.out k hk).below hb.out)
        replace Swm := hid (fun k hk => (Swm.out k hk).below hb.out)
        replace Swt := hid (fun k hk => (Swt.out k hk).below hb.out)
        obtain rfl : rc = rb := bool_same Hrc.out Hrb.out
        clear Hrb Hrc
        try dsimp only
        refine hK.out _ _ (CF.out _ BX.out) (fun hHeld => ?_)
        clear hK K' hb
        (try simp only [Act.put, List.setIfInBounds_toArray, List.set_cons_zero, List.set_cons_succ, List.getElem_toArray, List.getElem_cons_succ, List.getElem_cons_zero])
        refine wpAnyH_take (i := 17) (v := ?v5) rfl (by kernel_rfl) (by kernel_rfl) (by kernel_rfl) (fun _ _ _ h => h) (Or.inl ⟨by rfl, ?y5⟩) (by assumption) ?r5
        case y5 => (intro w0 hSw; (try dsimp only at hSw); (try simp only [List.getElem_toArray, List.getElem_cons_succ, List.getElem_cons_zero]); go_simp; try with_reducible rfl)
        (try simp only [Act.put, List.setIfInBounds_toArray, List.set_cons_zero, List.set_cons_succ, List.getElem_toArray, List.getElem_cons_succ, List.getElem_cons_zero])
        refine wpAnyH_take (i := 18) (v := ?v6) rfl (by kernel_rfl) (by kernel_rfl) (by kernel_rfl) (fun _ _ _ h => h) (Or.inl ⟨by rfl, ?y6⟩) (by assumption) ?r6
        case y6 => (intro w0 hSw; (try dsimp only at hSw); (try simp only [List.getElem_toArray, List.getElem_cons_succ, List.getElem_cons_zero]); go_simp; try with_reducible rfl)
        (try simp only [Act.put, List.setIfInBounds_toArray, List.set_cons_zero, List.set_cons_succ, List.getElem_toArray, List.getElem_cons_succ, List.getElem_cons_zero])
        refine wpAnyH_take (i := 19) (v := ?v7) rfl (by kernel_rfl) (by kernel_rfl) (by kernel_rfl) (fun _ _ _ h => h) (Or.inl ⟨by rfl, ?y7⟩) (by assumption) ?r7
        case y7 => (intro w0 hSw; (try dsimp only at hSw); (try simp only [List.getElem_toArray, List.getElem_cons_succ, List.getElem_cons_zero]); go_simp; try with_reducible rfl)
        (try simp only [Act.put, List.setIfInBounds_toArray, List.set_cons_zero, List.set_cons_succ, List.getElem_toArray, List.getElem_cons_succ, List.getElem_cons_zero])
        refine wpAnyH_take (i := 20) rfl (by kernel_rfl) (by kernel_rfl) (by kernel_rfl) (fun _ _ _ h => h) (yields_mload (by rfl) (.tmp 9) rfl g9 R9 rfl (fun X hX => hX.2.2.1)) hHeld ?_
        (try simp only [Act.put, List.setIfInBounds_toArray, List.set_cons_zero, List.set_cons_succ, List.getElem_toArray, List.getElem_cons_succ, List.getElem_cons_zero])
        refine wpAnyH_take (i := 21) rfl (by kernel_rfl) (by kernel_rfl) (by kernel_rfl) (fun _ _ _ h => h) (yields_mload (by rfl) (.tmp 4) rfl w.heap.size D rfl (fun X hX => hX.1)) hHeld ?_
        (try simp only [Act.put, List.setIfInBounds_toArray, List.set_cons_zero, List.set_cons_succ, List.getElem_toArray, List.getElem_cons_succ, List.getElem_cons_zero])
        refine wpAnyH_ready (rs := [22]) (by kernel_rfl) (by simp) ?_
        refine AllReadyH.cons rfl (fun K' hK => ?_) AllReadyH.nil
        (try simp only [Act.put, List.setIfInBounds_toArray, List.set_cons_zero, List.set_cons_succ, List.getElem_toArray, List.getElem_cons_succ, List.getElem_cons_zero])
        go_simp
        refine (msame_raw (P := True) HO.out.mrd HM.out.mrd (hid ⟨fun _ k hk => twd_dsm (T9.out k hk), fun _ => trivial⟩)).mono ?_
        rintro e v22 ⟨rd, rfl, Hrd, hb⟩
        have Zc30 := hid hb.out.size
        replace KB := hid (KB.out.trans (hb.out.mono KB.out.size))
        replace K := hid (K.out.trans (hb.out.mono K.out.size))
        replace HM := hid (HM.out.below hb.out)
        replace HN := hid (HN.out.below hb.out)
        replace HO := hid (HO.out.below hb.out)
        replace HP := hid (HP.out.below hb.out)
        replace HTb := hid (HTb.out.below hb.out HTb.out.lt)
        replace PD := hid (PD.out.below hb.out PD.out.lt)
        replace PE := hid (PE.out.below hb.out PE.out.lt)
        replace P9 := hid (P9.out.below hb.out P9.out.lt)
        replace P10 := hid (P10.out.below hb.out P10.out.lt)
        replace HVp := hid (HVp.out.below hb.out)
        replace P11 := hid (P11.out.below hb.out P11.out.lt)
        replace HVd := hid (HVd.out.below hb.out)
        replace P15 := hid (P15.out.below hb.out P15.out.lt)
        replace HVk := hid (HVk.out.below hb.out)
        replace HVs := hid (HVs.out.below hb.out)
        replace P19 := hid (P19.out.below hb.out P19.out.lt)
        replace P20 := hid (P20.out.below hb.out P20.out.lt)
        replace HVek := hid (HVek.out.below hb.out)
        replace P22 := hid (P22.out.below hb.out P22.out.lt)
        replace HVm := hid (HVm.out.below hb.out)
        replace P25 := hid (P25.out.below hb.out P25.out.lt)
        replace HVt := hid (HVt.out.below hb.out)
        replace P29 := hid (P29.out.below hb.out P29.out.lt)
        replace BX := hid (BX.out.trans (hb.out.mono BX.out.size))
        replace Swp := hid (fun k hk => (Swp.out k hk).below hb.out)
        replace Swd := hid (fun k hk => (Swd.out k hk).below hb.out)
        replace Sws := hid (fun k hk => (Sws.out k hk).below hb.out)
        replace Swk := hid (fun k hk => (Swk.out k hk).below hb.out)
        replace Swm := hid (fun k hk => (Swm.out k hk).below hb.out)
        replace Swt := hid (fun k hk => (Swt.out k hk).below hb.out)
        obtain rfl : rd = true := Hrd.out.2 trivial
        clear Hrd
        try dsimp only
        refine hK.out _ _ (CF.out _ BX.out) (fun hHeld => ?_)
        clear hK K' hb
        (try simp only [Act.put, List.setIfInBounds_toArray, List.set_cons_zero, List.set_cons_succ, List.getElem_toArray, List.getElem_cons_succ, List.getElem_cons_zero])
        refine wpAnyH_take (i := 23) (v := ?v8) rfl (by kernel_rfl) (by kernel_rfl) (by kernel_rfl) (fun _ _ _ h => h) (Or.inl ⟨by rfl, ?y8⟩) (by assumption) ?r8
        case y8 => (intro w0 hSw; (try dsimp only at hSw); (try simp only [List.getElem_toArray, List.getElem_cons_succ, List.getElem_cons_zero]); go_simp; try with_reducible rfl)
        (try simp only [Act.put, List.setIfInBounds_toArray, List.set_cons_zero, List.set_cons_succ, List.getElem_toArray, List.getElem_cons_succ, List.getElem_cons_zero])
        refine wpAnyH_take (i := 24) (v := ?v9) rfl (by kernel_rfl) (by kernel_rfl) (by kernel_rfl) (fun _ _ _ h => h) (Or.inl ⟨by rfl, ?y9⟩) (by assumption) ?r9
        case y9 => (intro w0 hSw; (try dsimp only at hSw); (try simp only [List.getElem_toArray, List.getElem_cons_succ, List.getElem_cons_zero]); go_simp; try with_reducible rfl)
        (try simp only [Act.put, List.setIfInBounds_toArray, List.getElem_toArray, List.getElem_cons_succ, List.getElem_cons_zero])
        refine wpAnyH_done (by kernel_rfl) ?_ _
        clear CF BX hHeld
        have SZ := hid (show wc.heap.size ≤ y1.heap.size ∧ y1.heap.size + 1 ≤ Y2.heap.size ∧ Y2.heap.size ≤ y3.heap.size ∧ y3.heap.size + 1 ≤ Y4.heap.size ∧ Y4.heap.size ≤ B ∧ B ≤ y5.heap.size ∧ y5.heap.size + 2 ≤ Y5.heap.size ∧ Y5.heap.size ≤ y6.heap.size ∧ y6.heap.size + 1 ≤ Y6.heap.size ∧ Y6.heap.size ≤ y7.heap.size ∧ y7.heap.size + 1 ≤ Y8.heap.size ∧ Y8.heap.size ≤ y9.heap.size ∧ y9.heap.size + 1 ≤ v22.heap.size from by
          have := Zc1.out; have := Zc2.out; have := Zc3.out; have := Zc4.out; have := Zc5.out; have := Zc6.out; have := Zc7.out; have := Zc8.out; have := Zc9.out; have := Zc10.out; have := Zc11.out; have := Zc12.out; have := Zc13.out; have := Zc14.out; have := Zc15.out; have := Zc16.out; have := Zc17.out; have := Zc18.out; have := Zc19.out; have := Zc20.out; have := Zc21.out; have := Zc22.out; have := Zc23.out; have := Zc24.out; have := Zc25.out; have := Zc26.out; have := Zc27.out; have := Zc28.out; have := Zc29.out; have := Zc30.out
          have := HLB.out; have := P20z.out; have := Zs11.out; have := Zs15.out; have := Zs22.out; have := Zs25.out; have := Zs29.out; omega)
        clear Zc1 Zc2 Zc3 Zc4 Zc5 Zc6 Zc7 Zc8 Zc9 Zc10 Zc11 Zc12 Zc13 Zc14 Zc15 Zc16 Zc17 Zc18 Zc19 Zc20 Zc21 Zc22 Zc23 Zc24 Zc25 Zc26 Zc27 Zc28 Zc29 Zc30 HM HN HO HP HTb PD PE P9 P10 HVp HVd HVs HVm HVt K
        have Sc := hid (Nat.le_refl v22.heap.size)
        go_wp2_with (first
          | (with_reducible refine wp_mload rfl (.tmp 20) rfl (y5.heap.size + 1) Ds rfl P20.out ?_)
          | (with_reducible refine wp_mload_g (by kernel_rfl) (.tmp 20) rfl (y5.heap.size + 1) Ds rfl P20.out ?_)
          | fail)
        refine (mspoil_any Sws.out (by have := SZ.out; omega) (by have := SZ.out; have := Sc.out; omega)).mono ?_
        rintro e x1 ⟨rfl, ho⟩
        replace KB := hid (KB.out.trans (ho.out.1.mono (by have := SZ.out; omega)))
        replace Sc := hid (Nat.le_trans Sc.out ho.out.1.size)
        replace P11 := hid (mbox_over P11.out ho.out (by have := SZ.out; omega))
        replace P15 := hid (mbox_over P15.out ho.out (by have := SZ.out; omega))
        replace P19 := hid (mbox_over P19.out ho.out (by have := SZ.out; omega))
        replace P22 := hid (mbox_over P22.out ho.out (by have := SZ.out; omega))
        replace P25 := hid (mbox_over P25.out ho.out (by have := SZ.out; omega))
        replace P29 := hid (mbox_over P29.out ho.out (by have := SZ.out; omega))
        replace Swp := hid (sw_over Swp.out ho.out (by have := SZ.out; omega))
        replace Swd := hid (sw_over Swd.out ho.out (by have := SZ.out; omega))
        replace Swk := hid (sw_over Swk.out ho.out (by have := SZ.out; omega))
        replace Swt := hid (sw_over Swt.out ho.out (by have := SZ.out; omega))
        replace Swm := hid (sw_over Swm.out ho.out (by have := SZ.out; omega))
        have HVk2 := hid (mow_over HVk.out ho.out (Nat.le_refl B))
        have HVek2 := hid (kept_over HVek.out HMc.out HFe.out ho.out (by have := SZ.out; omega) (by have := SZ.out; omega))
        clear HVk HVek
        clear ho Sws P20
        go_wp2_with (first
          | (with_reducible refine wp_mload rfl (.tmp 19) rfl y5.heap.size Dk rfl P19.out ?_)
          | (with_reducible refine wp_mload rfl (.tmp 22) rfl y6.heap.size Ek rfl P22.out ?_)
          | (with_reducible refine wp_mload_g (by kernel_rfl) (.tmp 19) rfl y5.heap.size Dk rfl P19.out ?_)
          | (with_reducible refine wp_mload_g (by kernel_rfl) (.tmp 22) rfl y6.heap.size Ek rfl P22.out ?_)
          | fail)
        refine (emsame_true HVk2.out.mar.mrr HVek2.out (fun _ _ => trivial) (fun _ _ => trivial) (resM_eq (fun h0 => all_of4 (P := fun k => of4 H0 H1 (M 2) (M 3) k = of4 G0 G1 (M 2) (M 3) k) (Hsp.out h0).1 (Hsp.out h0).2 rfl rfl))).mono ?_
        rintro e x2 ⟨rfl, hb⟩
        replace KB := hid (KB.out.trans (hb.out.mono KB.out.size))
        replace Sc := hid (Nat.le_trans Sc.out hb.out.size)
        replace P11 := hid (P11.out.below hb.out P11.out.lt)
        replace P15 := hid (P15.out.below hb.out P15.out.lt)
        replace P19 := hid (P19.out.below hb.out P19.out.lt)
        replace P22 := hid (P22.out.below hb.out P22.out.lt)
        replace P25 := hid (P25.out.below hb.out P25.out.lt)
        replace P29 := hid (P29.out.below hb.out P29.out.lt)
        replace Swp := hid (fun k hk => (Swp.out k hk).below hb.out)
        replace Swd := hid (fun k hk => (Swd.out k hk).below hb.out)
        replace Swk := hid (fun k hk => (Swk.out k hk).below hb.out)
        replace Swt := hid (fun k hk => (Swt.out k hk).below hb.out)
        replace Swm := hid (fun k hk => (Swm.out k hk).below hb.out)
        clear hb HVk2 HVek2 P22
        go_wp2_with (first
          | (with_reducible refine wp_mload rfl (.tmp 11) rfl y1.heap.size Dp rfl P11.out ?_)
          | (with_reducible refine wp_mload_g (by kernel_rfl) (.tmp 11) rfl y1.heap.size Dp rfl P11.out ?_)
          | fail)
        refine (mspoil_any Swp.out (by have := SZ.out; omega) (by have := SZ.out; have := Sc.out; omega)).mono ?_
        rintro e x3 ⟨rfl, ho⟩
        replace KB := hid (KB.out.trans (ho.out.1.mono (by have := SZ.out; omega)))
        replace Sc := hid (Nat.le_trans Sc.out ho.out.1.size)
        replace P15 := hid (mbox_over P15.out ho.out (by have := SZ.out; omega))
        replace P19 := hid (mbox_over P19.out ho.out (by have := SZ.out; omega))
        replace P25 := hid (mbox_over P25.out ho.out (by have := SZ.out; omega))
        replace P29 := hid (mbox_over P29.out ho.out (by have := SZ.out; omega))
        replace Swd := hid (sw_over Swd.out ho.out (by have := SZ.out; omega))
        replace Swk := hid (sw_over Swk.out ho.out (by have := SZ.out; omega))
        replace Swt := hid (sw_over Swt.out ho.out (by have := SZ.out; omega))
        replace Swm := hid (sw_over Swm.out ho.out (by have := SZ.out; omega))
        clear ho Swp P11
        go_wp2_with (first
          | (with_reducible refine wp_mload rfl (.tmp 15) rfl y3.heap.size Dd rfl P15.out ?_)
          | (with_reducible refine wp_mload_g (by kernel_rfl) (.tmp 15) rfl y3.heap.size Dd rfl P15.out ?_)
          | fail)
        refine (mspoil_any Swd.out (by have := SZ.out; omega) (by have := SZ.out; have := Sc.out; omega)).mono ?_
        rintro e x4 ⟨rfl, ho⟩
        replace KB := hid (KB.out.trans (ho.out.1.mono (by have := SZ.out; omega)))
        replace Sc := hid (Nat.le_trans Sc.out ho.out.1.size)
        replace P19 := hid (mbox_over P19.out ho.out (by have := SZ.out; omega))
        replace P25 := hid (mbox_over P25.out ho.out (by have := SZ.out; omega))
        replace P29 := hid (mbox_over P29.out ho.out (by have := SZ.out; omega))
        replace Swk := hid (sw_over Swk.out ho.out (by have := SZ.out; omega))
        replace Swt := hid (sw_over Swt.out ho.out (by have := SZ.out; omega))
        replace Swm := hid (sw_over Swm.out ho.out (by have := SZ.out; omega))
        clear ho Swd P15
        go_wp2_with (first
          | (with_reducible refine wp_mload rfl (.tmp 19) rfl y5.heap.size Dk rfl P19.out ?_)
          | (with_reducible refine wp_mload_g (by kernel_rfl) (.tmp 19) rfl y5.heap.size Dk rfl P19.out ?_)
          | fail)
        refine (mspoil_any Swk.out (by have := SZ.out; omega) (by have := SZ.out; have := Sc.out; omega)).mono ?_
        rintro e x5 ⟨rfl, ho⟩
        replace KB := hid (KB.out.trans (ho.out.1.mono (by have := SZ.out; omega)))
        replace Sc := hid (Nat.le_trans Sc.out ho.out.1.size)
        replace P25 := hid (mbox_over P25.out ho.out (by have := SZ.out; omega))
        replace P29 := hid (mbox_over P29.out ho.out (by have := SZ.out; omega))
        replace Swt := hid (sw_over Swt.out ho.out (by have := SZ.out; omega))
        replace Swm := hid (sw_over Swm.out ho.out (by have := SZ.out; omega))
        clear ho Swk P19
        go_wp2_with (first
          | (with_reducible refine wp_mload rfl (.tmp 29) rfl y9.heap.size Dt rfl P29.out ?_)
          | (with_reducible refine wp_mload_g (by kernel_rfl) (.tmp 29) rfl y9.heap.size Dt rfl P29.out ?_)
          | fail)
        refine (mspoil_any Swt.out (by have := SZ.out; omega) (by have := SZ.out; have := Sc.out; omega)).mono ?_
        rintro e x6 ⟨rfl, ho⟩
        replace KB := hid (KB.out.trans (ho.out.1.mono (by have := SZ.out; omega)))
        replace Sc := hid (Nat.le_trans Sc.out ho.out.1.size)
        replace P25 := hid (mbox_over P25.out ho.out (by have := SZ.out; omega))
        replace Swm := hid (sw_over Swm.out ho.out (by have := SZ.out; omega))
        clear ho Swt P29
        go_wp2_with (first
          | (with_reducible refine wp_mload rfl (.tmp 25) rfl y7.heap.size Dm rfl P25.out ?_)
          | (with_reducible refine wp_mload_g (by kernel_rfl) (.tmp 25) rfl y7.heap.size Dm rfl P25.out ?_)
          | fail)
        refine (mspoil_any Swm.out (by have := SZ.out; omega) (by have := SZ.out; have := Sc.out; omega)).mono ?_
        rintro e x7 ⟨rfl, ho⟩
        replace KB := hid (KB.out.trans (ho.out.1.mono (by have := SZ.out; omega)))
        replace Sc := hid (Nat.le_trans Sc.out ho.out.1.size)
        clear ho Swm P25
        have HM := hid (HMc.out.below KB.out)
        have HN := hid (HNc.out.below KB.out)
        have HO := hid (HOc.out.below KB.out)
        have HP := hid (HPc.out.below KB.out)
        have PD := hid (PDc.out.below KB.out PDc.out.lt)
        have PE := hid (PEc.out.below KB.out PEc.out.lt)
        have P9 := hid (P9c.out.below KB.out P9c.out.lt)
        have P10 := hid (P10c.out.below KB.out P10c.out.lt)
        go_wp2_with (first
          | (with_reducible refine wp_mload rfl (.tmp 4) rfl w.heap.size D rfl PD.out ?_)
          | (with_reducible refine wp_mload rfl (.tmp 5) rfl (w.heap.size + 1) E rfl PE.out ?_)
          | (with_reducible refine wp_mload rfl (.tmp 9) rfl g9 R9 rfl P9.out ?_)
          | (with_reducible refine wp_mload rfl (.tmp 10) rfl g10 R10 rfl P10.out ?_)
          | (with_reducible refine wp_mload_g (by kernel_rfl) (.tmp 4) rfl w.heap.size D rfl PD.out ?_)
          | (with_reducible refine wp_mload_g (by kernel_rfl) (.tmp 5) rfl (w.heap.size + 1) E rfl PE.out ?_)
          | (with_reducible refine wp_mload_g (by kernel_rfl) (.tmp 9) rfl g9 R9 rfl P9.out ?_)
          | (with_reducible refine wp_mload_g (by kernel_rfl) (.tmp 10) rfl g10 R10 rfl P10.out ?_)
          | fail)
        refine (emsame_twin HM.out.mrd T9.out HO.out.mrd).mono ?_
        rintro e x8 ⟨rfl, hb⟩
        replace KB := hid (KB.out.trans (hb.out.mono KB.out.size))
        replace HN := hid (HN.out.below hb.out)
        replace HP := hid (HP.out.below hb.out)
        replace PE := hid (PE.out.below hb.out PE.out.lt)
        replace P10 := hid (P10.out.below hb.out P10.out.lt)
        clear hb HM HO PD P9
        go_wp2_with (first
          | (with_reducible refine wp_mload rfl (.tmp 5) rfl (w.heap.size + 1) E rfl PE.out ?_)
          | (with_reducible refine wp_mload rfl (.tmp 10) rfl g10 R10 rfl P10.out ?_)
          | (with_reducible refine wp_mload_g (by kernel_rfl) (.tmp 5) rfl (w.heap.size + 1) E rfl PE.out ?_)
          | (with_reducible refine wp_mload_g (by kernel_rfl) (.tmp 10) rfl g10 R10 rfl P10.out ?_)
          | fail)
        refine (emsame_twin HN.out.mrd T10.out HP.out.mrd).mono ?_
        rintro e x9 ⟨rfl, hb⟩
        replace KB := hid (KB.out.trans (hb.out.mono KB.out.size))
        clear hb HN HP PE P10
        go_wp2_with fail
        exact ret_bool rfl rfl rfl ⟨rfl, Kc.out.trans (KB.out.mono Kc.out.size)⟩

end Go.Proofs.YtelalanhalbicaaDoor
