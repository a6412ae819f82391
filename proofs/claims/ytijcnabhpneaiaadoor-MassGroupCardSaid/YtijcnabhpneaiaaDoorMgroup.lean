/- MassGroup, walked. -/
import Derived.Test.YtijcnabhpneaiaaDoorMsum
import Derived.Test.YtijcnabhpneaiaaDoorMwhole
namespace Go.Proofs.YtijcnabhpneaiaaDoor
open Go.RowKit Go.Shelf

theorem row3 {w : World} {g : Nat} {t : TypeId} {D E F : Nat → Dy} (h : w.heap[g]? = some (.cells #[.bool (D 0).s, .slice (D 0).A (D 0).n (D 0).c, .int .i64 (D 0).x, .bool (D 1).s, .slice (D 1).A (D 1).n (D 1).c, .int .i64 (D 1).x, .bool (D 2).s, .slice (D 2).A (D 2).n (D 2).c, .int .i64 (D 2).x, .bool (D 3).s, .slice (D 3).A (D 3).n (D 3).c, .int .i64 (D 3).x, .bool (E 0).s, .slice (E 0).A (E 0).n (E 0).c, .int .i64 (E 0).x, .bool (E 1).s, .slice (E 1).A (E 1).n (E 1).c, .int .i64 (E 1).x, .bool (E 2).s, .slice (E 2).A (E 2).n (E 2).c, .int .i64 (E 2).x, .bool (E 3).s, .slice (E 3).A (E 3).n (E 3).c, .int .i64 (E 3).x, .bool (F 0).s, .slice (F 0).A (F 0).n (F 0).c, .int .i64 (F 0).x, .bool (F 1).s, .slice (F 1).A (F 1).n (F 1).c, .int .i64 (F 1).x, .bool (F 2).s, .slice (F 2).A (F 2).n (F 2).c, .int .i64 (F 2).x, .bool (F 3).s, .slice (F 3).A (F 3).n (F 3).c, .int .i64 (F 3).x] t (0, 0))) : Mlist w (some ⟨g, 0, none⟩) 3 (of4 D E F F) := fun _ => by
  refine ⟨g, 0, rfl, lt_of_heap h, fun i hi j v hv => ?_⟩
  rw [cell_of_row w g _ _ _ (0, 0) h]
  have hj : j < 12 := by
    have := (List.getElem?_eq_some_iff.1 hv).1
    simpa using this
  have e : (#[.bool (D 0).s, .slice (D 0).A (D 0).n (D 0).c, .int .i64 (D 0).x, .bool (D 1).s, .slice (D 1).A (D 1).n (D 1).c, .int .i64 (D 1).x, .bool (D 2).s, .slice (D 2).A (D 2).n (D 2).c, .int .i64 (D 2).x, .bool (D 3).s, .slice (D 3).A (D 3).n (D 3).c, .int .i64 (D 3).x, .bool (E 0).s, .slice (E 0).A (E 0).n (E 0).c, .int .i64 (E 0).x, .bool (E 1).s, .slice (E 1).A (E 1).n (E 1).c, .int .i64 (E 1).x, .bool (E 2).s, .slice (E 2).A (E 2).n (E 2).c, .int .i64 (E 2).x, .bool (E 3).s, .slice (E 3).A (E 3).n (E 3).c, .int .i64 (E 3).x, .bool (F 0).s, .slice (F 0).A (F 0).n (F 0).c, .int .i64 (F 0).x, .bool (F 1).s, .slice (F 1).A (F 1).n (F 1).c, .int .i64 (F 1).x, .bool (F 2).s, .slice (F 2).A (F 2).n (F 2).c, .int .i64 (F 2).x, .bool (F 3).s, .slice (F 3).A (F 3).n (F 3).c, .int .i64 (F 3).x] : Array Value).toList = (mcells D).toList ++ ((mcells E).toList ++ (mcells F).toList) := rfl
  have s1 : (mcells D).toList.length = 12 := rfl
  have s2 : (mcells E).toList.length = 12 := rfl
  rw [← Array.getElem?_toList, e]
  have hc : i = 0 ∨ i = 1 ∨ i = 2 := by omega
  rcases hc with rfl | rfl | rfl
  · rw [List.getElem?_append_left (by rw [s1]; omega), show 0 + 0 * 12 + j = j by omega]
    exact hv
  · rw [List.getElem?_append_right (by rw [s1]; omega), List.getElem?_append_left (by rw [s1, s2]; omega), s1, show 0 + 1 * 12 + j - 12 = j by omega]
    exact hv
  · rw [List.getElem?_append_right (by rw [s1]; omega), List.getElem?_append_right (by rw [s1, s2]; omega), s1, s2, show 0 + 2 * 12 + j - 12 - 12 = j by omega]
    exact hv
theorem Merrs.uniq {p p' : Prop} {M N : Nat → Int} {a b : Int} (h : Merrs p M a) (k : Merrs p' N b) (hp : p ↔ p') (hMN : ∀ x, x < 4 → M x = N x) : a = b := by
  by_cases hpp : p
  · have h1 := h.1 hpp
    have h2 := k.1 (hp.1 hpp)
    have e : All4 (fun x => Okay (M x)) ↔ All4 (fun x => Okay (N x)) := ⟨fun ha x hx => by have h0 : Okay (M x) := ha x hx; show Okay (N x); rwa [← hMN x hx], fun ha x hx => by have h0 : Okay (N x) := ha x hx; show Okay (M x); rwa [hMN x hx]⟩
    rcases h1 with ⟨h1, rfl⟩ | ⟨h1, rfl⟩ <;> rcases h2 with ⟨h2, rfl⟩ | ⟨h2, rfl⟩
    · rfl
    · exact absurd (e.1 h1) h2
    · exact absurd (e.2 h2) h1
    · rfl
  · rw [h.2 hpp, k.2 (fun h => hpp (hp.2 h))]
theorem msub_good {w : World} {q p : Nat → Prop} {M N R : Nat → Int} {D E : Nat → Dy} (h : Mar w q M D) (h2 : Mar w p N E) (hq : All4 q) (hp : All4 p) (hT : Tab w) (hR : ∀ k, k < 4 → M k - N k = R k) (ho : All4 (fun k => Okay (R k))) :
    Calls Tryd.prog 28 #[.agg (mcells D), .agg (mcells E)] w (MGood w R) := by
  refine (msub_any h h2 hT).mono ?_
  intro e w' hr
  have hg := hr.good (fun er he => he.good ⟨hq, hp⟩ (fun k hk => by have h0 : Okay (R k) := ho k hk; show Okay (M k - N k); rw [hR k hk]; exact h0))
  obtain ⟨S, rfl, HM, hb⟩ := hg
  exact ⟨S, rfl, (fun k hk => by rw [← hR k hk]; exact HM.out k hk), hb⟩
theorem resM_congr {er : Int} {M N : Nat → Int} (h : ∀ k, k < 4 → M k = N k) : ∀ k, k < 4 → resM er M k = resM er N k := fun k hk => by
  unfold resM
  split
  · exact h k hk
  · rfl
/-- The sum of three, where that of two may be. -/
theorem sum3_err {q p r : Nat → Prop} {M N R : Nat → Int} {h i : Int} (hq : All4 q) (hp : All4 p) (ho : All4 (fun k => Okay (M k))) (ho2 : All4 (fun k => Okay (M k + N k)))
    (hs : SumE 3 (of4 q p r r) (of4 M N R R) h) (ht : Merrs (All4 (fun _ : Nat => True) ∧ All4 r) (fun k => M k + N k + R k) i) : h = i ∧ ∀ k, k < 4 → resM h (psum (of4 M N R R) 3) k = resM i (fun k => M k + N k + R k) k := by
  have e3 : ∀ k, k < 4 → psum (of4 M N R R) 3 k = M k + N k + R k := fun k _ => by show 0 + M k + N k + R k = _; omega
  have key : h = i := by
    by_cases hr : All4 r
    · have hall : ∀ j, j < 3 → All4 (of4 q p r r j) := fun j hj => by
        have hc : j = 0 ∨ j = 1 ∨ j = 2 := by omega
        rcases hc with rfl | rfl | rfl <;> assumption
      have h1 := hs.2.2 (by omega) hall
      have h2 := ht.1 ⟨fun _ _ => trivial, hr⟩
      have e : (∀ j, j < 3 → All4 (fun k => Okay (psum (of4 M N R R) (j + 1) k))) ↔ All4 (fun k => Okay (M k + N k + R k)) := by
        constructor
        · intro ha k hk
          have h0 : Okay (psum (of4 M N R R) 3 k) := ha 2 (by omega) k hk
          show Okay (M k + N k + R k)
          rwa [e3 k hk] at h0
        · intro ha j hj k hk
          have hc : j = 0 ∨ j = 1 ∨ j = 2 := by omega
          rcases hc with rfl | rfl | rfl
          · show Okay (0 + M k)
            rw [Int.zero_add]
            exact ho k hk
          · show Okay (0 + M k + N k)
            rw [Int.zero_add]
            exact ho2 k hk
          · show Okay (psum (of4 M N R R) 3 k)
            rw [e3 k hk]
            exact ha k hk
      rcases h1 with ⟨h1, rfl⟩ | ⟨h1, rfl⟩ <;> rcases h2 with ⟨h2, rfl⟩ | ⟨h2, rfl⟩
      · rfl
      · exact absurd (e.1 h1) h2
      · exact absurd (e.2 h2) h1
      · rfl
    · rw [hs.2.1 (by omega) (fun ha => hr (ha 2 (by omega))), ht.2 (fun ha => hr ha.2)]
  exact ⟨key, fun k hk => by rw [key]; exact resM_congr e3 k hk⟩

set_option maxRecDepth 100000 in
set_option maxHeartbeats 6400000 in
theorem mgroup_walk {w : World} {D E F : Nat → Dy} (h : Mrd w w.heap.size D) (hn : ∀ k, k < 4 → (D k).A = none → (D k).n = 0 ∧ (D k).c = 0) (h2 : Mrd w w.heap.size E) (hn2 : ∀ k, k < 4 → (E k).A = none → (E k).n = 0 ∧ (E k).c = 0)
    (h3 : Mrd w w.heap.size F) (hn3 : ∀ k, k < 4 → (F k).A = none → (F k).n = 0 ∧ (F k).c = 0) (hT : Tab w) :
    Calls Tryd.prog 8 #[.agg (mcells D), .agg (mcells E), .agg (mcells F)] w fun e w' => e = .returned (.bool true) ∧ Below w.heap.size w w' := by
  obtain ⟨q, M, hM⟩ := mar_of h hn
  obtain ⟨p, N, hN⟩ := mar_of h2 hn2
  obtain ⟨r, R, hR⟩ := mar_of h3 hn3
  have HM := hid hM
  have HN := hid hN
  have HR := hid hR
  have HTb := hid hT
  have Hm1 := hid (fun k (hk : k < 4) => (h k hk).max)
  have Hm2 := hid (fun k (hk : k < 4) => (h2 k hk).max)
  have Hm3 := hid (fun k (hk : k < 4) => (h3 k hk).max)
  obtain ⟨W, hW⟩ : ∃ W, W = ((w.alloc (.cells (mcells D) 37)).alloc (.cells (mcells E) 37)).alloc (.cells (mcells F) 37) := ⟨_, rfl⟩
  have HW := hid hW
  have K := hid (show Below w.heap.size w W from hW ▸ (((Below.refl _ w).alloc (Nat.le_refl _) _).alloc (by simp) _).alloc (by simp; omega) _)
  have PD : Hid (Mbox W w.heap.size D) := hid (hW ▸ ((show Mbox (w.alloc _) w.heap.size D from new_at rfl).alloc _).alloc _)
  have PE : Hid (Mbox W (w.heap.size + 1) E) := hid (hW ▸ (show Mbox ((w.alloc _).alloc _) (w.heap.size + 1) E from new_at (by simp)).alloc _)
  have PF : Hid (Mbox W (w.heap.size + 1 + 1) F) := hid (hW ▸ (show Mbox (((w.alloc _).alloc _).alloc _) (w.heap.size + 2) F from new_at (by simp)))
  replace HM := hid (HM.out.below K.out)
  replace HN := hid (HN.out.below K.out)
  replace HR := hid (HR.out.below K.out)
  replace HTb := hid (HTb.out.below K.out HTb.out.lt)
  clear hW h hn h2 hn2 h3 hn3 hT hM hN hR
  go_enter Tryd.func8, Tryd.ntmps8
  go_upto_region 1 with fail
  rw [← HW.out]
  clear HW
  go_wp2_with (first
    | (with_reducible refine wp_mload rfl (.tmp 3) rfl w.heap.size D rfl PD.out ?_)
    | (with_reducible refine wp_mload rfl (.tmp 4) rfl (w.heap.size + 1) E rfl PE.out ?_)
    | (with_reducible refine wp_mload rfl (.tmp 5) rfl (w.heap.size + 1 + 1) F rfl PF.out ?_)
    | (with_reducible refine wp_mload_g (by kernel_rfl) (.tmp 3) rfl w.heap.size D rfl PD.out ?_)
    | (with_reducible refine wp_mload_g (by kernel_rfl) (.tmp 4) rfl (w.heap.size + 1) E rfl PE.out ?_)
    | (with_reducible refine wp_mload_g (by kernel_rfl) (.tmp 5) rfl (w.heap.size + 1 + 1) F rfl PF.out ?_)
    | fail)
  refine (malive_any _ HTb.out).mono ?_
  rintro e w1 ⟨rfl, hb⟩
  replace K := hid (K.out.trans (hb.out.mono K.out.size))
  replace HTb := hid (HTb.out.below hb.out HTb.out.lt)
  replace PD := hid (PD.out.below hb.out PD.out.lt)
  replace HM := hid (HM.out.below hb.out)
  replace PE := hid (PE.out.below hb.out PE.out.lt)
  replace HN := hid (HN.out.below hb.out)
  replace PF := hid (PF.out.below hb.out PF.out.lt)
  replace HR := hid (HR.out.below hb.out)
  clear hb
  go_wp2_with (first
    | (with_reducible refine wp_mload rfl (.tmp 3) rfl w.heap.size D rfl PD.out ?_)
    | (with_reducible refine wp_mload rfl (.tmp 4) rfl (w.heap.size + 1) E rfl PE.out ?_)
    | (with_reducible refine wp_mload rfl (.tmp 5) rfl (w.heap.size + 1 + 1) F rfl PF.out ?_)
    | (with_reducible refine wp_mload_g (by kernel_rfl) (.tmp 3) rfl w.heap.size D rfl PD.out ?_)
    | (with_reducible refine wp_mload_g (by kernel_rfl) (.tmp 4) rfl (w.heap.size + 1) E rfl PE.out ?_)
    | (with_reducible refine wp_mload_g (by kernel_rfl) (.tmp 5) rfl (w.heap.size + 1 + 1) F rfl PF.out ?_)
    | fail)
  refine (mgreat_any Hm1.out).mono ?_
  rintro e w2 ⟨r1, rfl, -, hb⟩
  replace K := hid (K.out.trans (hb.out.mono K.out.size))
  replace HTb := hid (HTb.out.below hb.out HTb.out.lt)
  replace PD := hid (PD.out.below hb.out PD.out.lt)
  replace HM := hid (HM.out.below hb.out)
  replace PE := hid (PE.out.below hb.out PE.out.lt)
  replace HN := hid (HN.out.below hb.out)
  replace PF := hid (PF.out.below hb.out PF.out.lt)
  replace HR := hid (HR.out.below hb.out)
  clear hb
  cases r1 with
  | true =>
    go_wp2
    go_ret
    exact ⟨rfl, K.out⟩
  | false =>
    go_wp2_with (first
      | (with_reducible refine wp_mload rfl (.tmp 3) rfl w.heap.size D rfl PD.out ?_)
      | (with_reducible refine wp_mload rfl (.tmp 4) rfl (w.heap.size + 1) E rfl PE.out ?_)
      | (with_reducible refine wp_mload rfl (.tmp 5) rfl (w.heap.size + 1 + 1) F rfl PF.out ?_)
      | (with_reducible refine wp_mload_g (by kernel_rfl) (.tmp 3) rfl w.heap.size D rfl PD.out ?_)
      | (with_reducible refine wp_mload_g (by kernel_rfl) (.tmp 4) rfl (w.heap.size + 1) E rfl PE.out ?_)
      | (with_reducible refine wp_mload_g (by kernel_rfl) (.tmp 5) rfl (w.heap.size + 1 + 1) F rfl PF.out ?_)
      | fail)
    refine (mgreat_any Hm2.out).mono ?_
    rintro e w3 ⟨r2, rfl, -, hb⟩
    replace K := hid (K.out.trans (hb.out.mono K.out.size))
    replace HTb := hid (HTb.out.below hb.out HTb.out.lt)
    replace PD := hid (PD.out.below hb.out PD.out.lt)
    replace HM := hid (HM.out.below hb.out)
    replace PE := hid (PE.out.below hb.out PE.out.lt)
    replace HN := hid (HN.out.below hb.out)
    replace PF := hid (PF.out.below hb.out PF.out.lt)
    replace HR := hid (HR.out.below hb.out)
    clear hb
    cases r2 with
    | true =>
      go_wp2
      go_ret
      exact ⟨rfl, K.out⟩
    | false =>
      go_wp2_with (first
        | (with_reducible refine wp_mload rfl (.tmp 3) rfl w.heap.size D rfl PD.out ?_)
        | (with_reducible refine wp_mload rfl (.tmp 4) rfl (w.heap.size + 1) E rfl PE.out ?_)
        | (with_reducible refine wp_mload rfl (.tmp 5) rfl (w.heap.size + 1 + 1) F rfl PF.out ?_)
        | (with_reducible refine wp_mload_g (by kernel_rfl) (.tmp 3) rfl w.heap.size D rfl PD.out ?_)
        | (with_reducible refine wp_mload_g (by kernel_rfl) (.tmp 4) rfl (w.heap.size + 1) E rfl PE.out ?_)
        | (with_reducible refine wp_mload_g (by kernel_rfl) (.tmp 5) rfl (w.heap.size + 1 + 1) F rfl PF.out ?_)
        | fail)
      refine (mgreat_any Hm3.out).mono ?_
      rintro e w4 ⟨r3, rfl, -, hb⟩
      replace K := hid (K.out.trans (hb.out.mono K.out.size))
      replace HTb := hid (HTb.out.below hb.out HTb.out.lt)
      replace PD := hid (PD.out.below hb.out PD.out.lt)
      replace HM := hid (HM.out.below hb.out)
      replace PE := hid (PE.out.below hb.out PE.out.lt)
      replace HN := hid (HN.out.below hb.out)
      replace PF := hid (PF.out.below hb.out PF.out.lt)
      replace HR := hid (HR.out.below hb.out)
      clear hb
      cases r3 with
      | true =>
        go_wp2
        go_ret
        exact ⟨rfl, K.out⟩
      | false =>
        go_wp2_with (first
          | (with_reducible refine wp_mload rfl (.tmp 3) rfl w.heap.size D rfl PD.out ?_)
          | (with_reducible refine wp_mload rfl (.tmp 4) rfl (w.heap.size + 1) E rfl PE.out ?_)
          | (with_reducible refine wp_mload rfl (.tmp 5) rfl (w.heap.size + 1 + 1) F rfl PF.out ?_)
          | (with_reducible refine wp_mload_g (by kernel_rfl) (.tmp 3) rfl w.heap.size D rfl PD.out ?_)
          | (with_reducible refine wp_mload_g (by kernel_rfl) (.tmp 4) rfl (w.heap.size + 1) E rfl PE.out ?_)
          | (with_reducible refine wp_mload_g (by kernel_rfl) (.tmp 5) rfl (w.heap.size + 1 + 1) F rfl PF.out ?_)
          | fail)
        refine (madd_any HM.out HN.out HTb.out).mono ?_
        rintro e w5 ⟨D1, e1, rfl, HE1, HX, hb⟩
        replace K := hid (K.out.trans (hb.out.mono K.out.size))
        replace HTb := hid (HTb.out.below hb.out HTb.out.lt)
        replace PD := hid (PD.out.below hb.out PD.out.lt)
        replace HM := hid (HM.out.below hb.out)
        replace PE := hid (PE.out.below hb.out PE.out.lt)
        replace HN := hid (HN.out.below hb.out)
        replace PF := hid (PF.out.below hb.out PF.out.lt)
        replace HR := hid (HR.out.below hb.out)
        clear hb
        have F_x := hid (fresh_mass w5)
        go_upto_region 5 with (first
          | (with_reducible refine wp_mstore rfl (.tmp 8) (.tmp 38) rfl w5.heap.size D0 D1 rfl rfl F_x.out ?_)
          | (with_reducible refine wp_mload rfl (.tmp 3) rfl w.heap.size D rfl PD.out ?_)
          | (with_reducible refine wp_mload rfl (.tmp 4) rfl (w.heap.size + 1) E rfl PE.out ?_)
          | (with_reducible refine wp_mload rfl (.tmp 5) rfl (w.heap.size + 1 + 1) F rfl PF.out ?_)
          | (with_reducible refine wp_mload_g (by kernel_rfl) (.tmp 3) rfl w.heap.size D rfl PD.out ?_)
          | (with_reducible refine wp_mload_g (by kernel_rfl) (.tmp 4) rfl (w.heap.size + 1) E rfl PE.out ?_)
          | (with_reducible refine wp_mload_g (by kernel_rfl) (.tmp 5) rfl (w.heap.size + 1 + 1) F rfl PF.out ?_)
          | fail)
        obtain ⟨W5, hW5⟩ : ∃ W, W = mstore (w5.alloc (.cells #[.bool false, .slice none 0 0, .int .i64 0, .bool false, .slice none 0 0, .int .i64 0, .bool false, .slice none 0 0, .int .i64 0, .bool false, .slice none 0 0, .int .i64 0] 37)) w5.heap.size D1 := ⟨_, rfl⟩
        rw [← hW5]
        have PX : Hid (Mbox W5 w5.heap.size D1) := hid (hW5 ▸ (new_mass w5 D1).1)
        have hn : Hid (Below w5.heap.size w5 W5) := hid (hW5 ▸ (new_mass w5 D1).2)
        clear hW5 F_x
        replace K := hid (K.out.trans (hn.out.mono K.out.size))
        replace HTb := hid (HTb.out.below hn.out HTb.out.lt)
        replace PD := hid (PD.out.below hn.out PD.out.lt)
        replace HM := hid (HM.out.below hn.out)
        replace PE := hid (PE.out.below hn.out PE.out.lt)
        replace HN := hid (HN.out.below hn.out)
        replace PF := hid (PF.out.below hn.out PF.out.lt)
        replace HR := hid (HR.out.below hn.out)
        replace HX := hid (HX.out.below hn.out)
        clear hn
        go_wp2_with (first
          | (with_reducible refine wp_mload rfl (.tmp 3) rfl w.heap.size D rfl PD.out ?_)
          | (with_reducible refine wp_mload rfl (.tmp 4) rfl (w.heap.size + 1) E rfl PE.out ?_)
          | (with_reducible refine wp_mload rfl (.tmp 5) rfl (w.heap.size + 1 + 1) F rfl PF.out ?_)
          | (with_reducible refine wp_mload rfl (.tmp 8) rfl w5.heap.size D1 rfl PX.out ?_)
          | (with_reducible refine wp_mload_g (by kernel_rfl) (.tmp 3) rfl w.heap.size D rfl PD.out ?_)
          | (with_reducible refine wp_mload_g (by kernel_rfl) (.tmp 4) rfl (w.heap.size + 1) E rfl PE.out ?_)
          | (with_reducible refine wp_mload_g (by kernel_rfl) (.tmp 5) rfl (w.heap.size + 1 + 1) F rfl PF.out ?_)
          | (with_reducible refine wp_mload_g (by kernel_rfl) (.tmp 8) rfl w5.heap.size D1 rfl PX.out ?_)
          | fail)
        refine (madd_any HN.out HM.out HTb.out).mono ?_
        rintro e w6 ⟨D2, e2, rfl, HE2, HY, hb⟩
        replace K := hid (K.out.trans (hb.out.mono K.out.size))
        replace HTb := hid (HTb.out.below hb.out HTb.out.lt)
        replace PD := hid (PD.out.below hb.out PD.out.lt)
        replace HM := hid (HM.out.below hb.out)
        replace PE := hid (PE.out.below hb.out PE.out.lt)
        replace HN := hid (HN.out.below hb.out)
        replace PF := hid (PF.out.below hb.out PF.out.lt)
        replace HR := hid (HR.out.below hb.out)
        replace HX := hid (HX.out.below hb.out)
        replace PX := hid (PX.out.below hb.out PX.out.lt)
        clear hb
        obtain rfl : e1 = e2 := HE1.out.uniq HE2.out And.comm (fun k _ => Int.add_comm _ _)
        clear HE2
        have F_y := hid (fresh_mass w6)
        go_upto_region 6 with (first
          | (with_reducible refine wp_mstore rfl (.tmp 10) (.tmp 44) rfl w6.heap.size D0 D2 rfl rfl F_y.out ?_)
          | (with_reducible refine wp_mload rfl (.tmp 3) rfl w.heap.size D rfl PD.out ?_)
          | (with_reducible refine wp_mload rfl (.tmp 4) rfl (w.heap.size + 1) E rfl PE.out ?_)
          | (with_reducible refine wp_mload rfl (.tmp 5) rfl (w.heap.size + 1 + 1) F rfl PF.out ?_)
          | (with_reducible refine wp_mload rfl (.tmp 8) rfl w5.heap.size D1 rfl PX.out ?_)
          | (with_reducible refine wp_mload_g (by kernel_rfl) (.tmp 3) rfl w.heap.size D rfl PD.out ?_)
          | (with_reducible refine wp_mload_g (by kernel_rfl) (.tmp 4) rfl (w.heap.size + 1) E rfl PE.out ?_)
          | (with_reducible refine wp_mload_g (by kernel_rfl) (.tmp 5) rfl (w.heap.size + 1 + 1) F rfl PF.out ?_)
          | (with_reducible refine wp_mload_g (by kernel_rfl) (.tmp 8) rfl w5.heap.size D1 rfl PX.out ?_)
          | fail)
        obtain ⟨W6, hW6⟩ : ∃ W, W = mstore (w6.alloc (.cells #[.bool false, .slice none 0 0, .int .i64 0, .bool false, .slice none 0 0, .int .i64 0, .bool false, .slice none 0 0, .int .i64 0, .bool false, .slice none 0 0, .int .i64 0] 37)) w6.heap.size D2 := ⟨_, rfl⟩
        rw [← hW6]
        have PY : Hid (Mbox W6 w6.heap.size D2) := hid (hW6 ▸ (new_mass w6 D2).1)
        have hn : Hid (Below w6.heap.size w6 W6) := hid (hW6 ▸ (new_mass w6 D2).2)
        clear hW6 F_y
        replace K := hid (K.out.trans (hn.out.mono K.out.size))
        replace HTb := hid (HTb.out.below hn.out HTb.out.lt)
        replace PD := hid (PD.out.below hn.out PD.out.lt)
        replace HM := hid (HM.out.below hn.out)
        replace PE := hid (PE.out.below hn.out PE.out.lt)
        replace HN := hid (HN.out.below hn.out)
        replace PF := hid (PF.out.below hn.out PF.out.lt)
        replace HR := hid (HR.out.below hn.out)
        replace HX := hid (HX.out.below hn.out)
        replace PX := hid (PX.out.below hn.out PX.out.lt)
        replace HY := hid (HY.out.below hn.out)
        clear hn
        go_wp2_with (first
          | (with_reducible refine wp_mload rfl (.tmp 3) rfl w.heap.size D rfl PD.out ?_)
          | (with_reducible refine wp_mload rfl (.tmp 4) rfl (w.heap.size + 1) E rfl PE.out ?_)
          | (with_reducible refine wp_mload rfl (.tmp 5) rfl (w.heap.size + 1 + 1) F rfl PF.out ?_)
          | (with_reducible refine wp_mload rfl (.tmp 8) rfl w5.heap.size D1 rfl PX.out ?_)
          | (with_reducible refine wp_mload rfl (.tmp 10) rfl w6.heap.size D2 rfl PY.out ?_)
          | (with_reducible refine wp_mload_g (by kernel_rfl) (.tmp 3) rfl w.heap.size D rfl PD.out ?_)
          | (with_reducible refine wp_mload_g (by kernel_rfl) (.tmp 4) rfl (w.heap.size + 1) E rfl PE.out ?_)
          | (with_reducible refine wp_mload_g (by kernel_rfl) (.tmp 5) rfl (w.heap.size + 1 + 1) F rfl PF.out ?_)
          | (with_reducible refine wp_mload_g (by kernel_rfl) (.tmp 8) rfl w5.heap.size D1 rfl PX.out ?_)
          | (with_reducible refine wp_mload_g (by kernel_rfl) (.tmp 10) rfl w6.heap.size D2 rfl PY.out ?_)
          | fail)
        refine (msame_true HX.out.mar HY.out.mar (fun _ _ => trivial) (fun _ _ => trivial) (resM_congr (fun k _ => Int.add_comm _ _))).mono ?_
        rintro e w7 ⟨rfl, hb⟩
        replace K := hid (K.out.trans (hb.out.mono K.out.size))
        replace HTb := hid (HTb.out.below hb.out HTb.out.lt)
        replace PD := hid (PD.out.below hb.out PD.out.lt)
        replace HM := hid (HM.out.below hb.out)
        replace PE := hid (PE.out.below hb.out PE.out.lt)
        replace HN := hid (HN.out.below hb.out)
        replace PF := hid (PF.out.below hb.out PF.out.lt)
        replace HR := hid (HR.out.below hb.out)
        replace HX := hid (HX.out.below hb.out)
        replace PX := hid (PX.out.below hb.out PX.out.lt)
        replace HY := hid (HY.out.below hb.out)
        replace PY := hid (PY.out.below hb.out PY.out.lt)
        clear hb
        clear PY HY
        have hcase : (e1 = 0 ∧ All4 q ∧ All4 p ∧ All4 (fun k => Okay (M k + N k))) ∨ ((e1 == 0) = false ∧ (e1 != 0) = true) := by
          by_cases h0 : e1 = 0
          · subst h0
            obtain ⟨⟨hq, hp⟩, ho⟩ := HE1.out.zero
            exact .inl ⟨rfl, hq, hp, ho⟩
          · exact .inr ⟨by simpa using h0, by simpa using h0⟩
        clear HE1
        rcases hcase with ⟨rfl, hq, hp, ho⟩ | ⟨hz1, hz2⟩
        · have Hq := hid hq
          have Hp := hid hp
          have Ho := hid ho
          clear hq hp ho
          replace HX := hid (show Mow w4.heap.size w7 (fun k => M k + N k) D1 from by have := HX.out; rwa [resM_ok rfl] at this)
          go_wp2_with (first
            | (with_reducible refine wp_mload rfl (.tmp 3) rfl w.heap.size D rfl PD.out ?_)
            | (with_reducible refine wp_mload rfl (.tmp 4) rfl (w.heap.size + 1) E rfl PE.out ?_)
            | (with_reducible refine wp_mload rfl (.tmp 5) rfl (w.heap.size + 1 + 1) F rfl PF.out ?_)
            | (with_reducible refine wp_mload rfl (.tmp 8) rfl w5.heap.size D1 rfl PX.out ?_)
            | (with_reducible refine wp_mload_g (by kernel_rfl) (.tmp 3) rfl w.heap.size D rfl PD.out ?_)
            | (with_reducible refine wp_mload_g (by kernel_rfl) (.tmp 4) rfl (w.heap.size + 1) E rfl PE.out ?_)
            | (with_reducible refine wp_mload_g (by kernel_rfl) (.tmp 5) rfl (w.heap.size + 1 + 1) F rfl PF.out ?_)
            | (with_reducible refine wp_mload_g (by kernel_rfl) (.tmp 8) rfl w5.heap.size D1 rfl PX.out ?_)
            | fail)
          refine (msub_good (R := M) HX.out.mar HN.out (fun _ _ => trivial) Hp.out HTb.out (fun k _ => Int.add_sub_cancel _ _) (HM.out.okay Hq.out)).mono ?_
          rintro e w8 ⟨D3, rfl, HB, hb⟩
          replace K := hid (K.out.trans (hb.out.mono K.out.size))
          replace HTb := hid (HTb.out.below hb.out HTb.out.lt)
          replace PD := hid (PD.out.below hb.out PD.out.lt)
          replace HM := hid (HM.out.below hb.out)
          replace PE := hid (PE.out.below hb.out PE.out.lt)
          replace HN := hid (HN.out.below hb.out)
          replace PF := hid (PF.out.below hb.out PF.out.lt)
          replace HR := hid (HR.out.below hb.out)
          replace HX := hid (HX.out.below hb.out)
          replace PX := hid (PX.out.below hb.out PX.out.lt)
          clear hb
          have F_b := hid (fresh_mass w8)
          go_upto_region 9 with (first
            | (with_reducible refine wp_mstore rfl (.tmp 12) (.tmp 59) rfl w8.heap.size D0 D3 rfl rfl F_b.out ?_)
            | (with_reducible refine wp_mload rfl (.tmp 3) rfl w.heap.size D rfl PD.out ?_)
            | (with_reducible refine wp_mload rfl (.tmp 4) rfl (w.heap.size + 1) E rfl PE.out ?_)
            | (with_reducible refine wp_mload rfl (.tmp 5) rfl (w.heap.size + 1 + 1) F rfl PF.out ?_)
            | (with_reducible refine wp_mload rfl (.tmp 8) rfl w5.heap.size D1 rfl PX.out ?_)
            | (with_reducible refine wp_mload_g (by kernel_rfl) (.tmp 3) rfl w.heap.size D rfl PD.out ?_)
            | (with_reducible refine wp_mload_g (by kernel_rfl) (.tmp 4) rfl (w.heap.size + 1) E rfl PE.out ?_)
            | (with_reducible refine wp_mload_g (by kernel_rfl) (.tmp 5) rfl (w.heap.size + 1 + 1) F rfl PF.out ?_)
            | (with_reducible refine wp_mload_g (by kernel_rfl) (.tmp 8) rfl w5.heap.size D1 rfl PX.out ?_)
            | fail)
          obtain ⟨W8, hW8⟩ : ∃ W, W = mstore (w8.alloc (.cells #[.bool false, .slice none 0 0, .int .i64 0, .bool false, .slice none 0 0, .int .i64 0, .bool false, .slice none 0 0, .int .i64 0, .bool false, .slice none 0 0, .int .i64 0] 37)) w8.heap.size D3 := ⟨_, rfl⟩
          rw [← hW8]
          have PB : Hid (Mbox W8 w8.heap.size D3) := hid (hW8 ▸ (new_mass w8 D3).1)
          have hn : Hid (Below w8.heap.size w8 W8) := hid (hW8 ▸ (new_mass w8 D3).2)
          clear hW8 F_b
          replace K := hid (K.out.trans (hn.out.mono K.out.size))
          replace HTb := hid (HTb.out.below hn.out HTb.out.lt)
          replace PD := hid (PD.out.below hn.out PD.out.lt)
          replace HM := hid (HM.out.below hn.out)
          replace PE := hid (PE.out.below hn.out PE.out.lt)
          replace HN := hid (HN.out.below hn.out)
          replace PF := hid (PF.out.below hn.out PF.out.lt)
          replace HR := hid (HR.out.below hn.out)
          replace HX := hid (HX.out.below hn.out)
          replace PX := hid (PX.out.below hn.out PX.out.lt)
          replace HB := hid (HB.out.below hn.out)
          clear hn
          go_wp2_with (first
            | (with_reducible refine wp_mload rfl (.tmp 3) rfl w.heap.size D rfl PD.out ?_)
            | (with_reducible refine wp_mload rfl (.tmp 4) rfl (w.heap.size + 1) E rfl PE.out ?_)
            | (with_reducible refine wp_mload rfl (.tmp 5) rfl (w.heap.size + 1 + 1) F rfl PF.out ?_)
            | (with_reducible refine wp_mload rfl (.tmp 8) rfl w5.heap.size D1 rfl PX.out ?_)
            | (with_reducible refine wp_mload rfl (.tmp 12) rfl w8.heap.size D3 rfl PB.out ?_)
            | (with_reducible refine wp_mload_g (by kernel_rfl) (.tmp 3) rfl w.heap.size D rfl PD.out ?_)
            | (with_reducible refine wp_mload_g (by kernel_rfl) (.tmp 4) rfl (w.heap.size + 1) E rfl PE.out ?_)
            | (with_reducible refine wp_mload_g (by kernel_rfl) (.tmp 5) rfl (w.heap.size + 1 + 1) F rfl PF.out ?_)
            | (with_reducible refine wp_mload_g (by kernel_rfl) (.tmp 8) rfl w5.heap.size D1 rfl PX.out ?_)
            | (with_reducible refine wp_mload_g (by kernel_rfl) (.tmp 12) rfl w8.heap.size D3 rfl PB.out ?_)
            | fail)
          refine (msame_true HB.out.mar HM.out (fun _ _ => trivial) Hq.out (fun _ _ => rfl)).mono ?_
          rintro e w9 ⟨rfl, hb⟩
          replace K := hid (K.out.trans (hb.out.mono K.out.size))
          replace HTb := hid (HTb.out.below hb.out HTb.out.lt)
          replace PD := hid (PD.out.below hb.out PD.out.lt)
          replace HM := hid (HM.out.below hb.out)
          replace PE := hid (PE.out.below hb.out PE.out.lt)
          replace HN := hid (HN.out.below hb.out)
          replace PF := hid (PF.out.below hb.out PF.out.lt)
          replace HR := hid (HR.out.below hb.out)
          replace HX := hid (HX.out.below hb.out)
          replace PX := hid (PX.out.below hb.out PX.out.lt)
          replace HB := hid (HB.out.below hb.out)
          replace PB := hid (PB.out.below hb.out PB.out.lt)
          clear hb
          clear PB HB
          obtain ⟨V, hV⟩ : ∃ V, V = w9.alloc (.cells #[.bool (D 0).s, .slice (D 0).A (D 0).n (D 0).c, .int .i64 (D 0).x, .bool (D 1).s, .slice (D 1).A (D 1).n (D 1).c, .int .i64 (D 1).x, .bool (D 2).s, .slice (D 2).A (D 2).n (D 2).c, .int .i64 (D 2).x, .bool (D 3).s, .slice (D 3).A (D 3).n (D 3).c, .int .i64 (D 3).x, .bool (E 0).s, .slice (E 0).A (E 0).n (E 0).c, .int .i64 (E 0).x, .bool (E 1).s, .slice (E 1).A (E 1).n (E 1).c, .int .i64 (E 1).x, .bool (E 2).s, .slice (E 2).A (E 2).n (E 2).c, .int .i64 (E 2).x, .bool (E 3).s, .slice (E 3).A (E 3).n (E 3).c, .int .i64 (E 3).x, .bool (F 0).s, .slice (F 0).A (F 0).n (F 0).c, .int .i64 (F 0).x, .bool (F 1).s, .slice (F 1).A (F 1).n (F 1).c, .int .i64 (F 1).x, .bool (F 2).s, .slice (F 2).A (F 2).n (F 2).c, .int .i64 (F 2).x, .bool (F 3).s, .slice (F 3).A (F 3).n (F 3).c, .int .i64 (F 3).x] 37) := ⟨_, rfl⟩
          have HV := hid hV
          have hl : Hid (Mlist V (some ⟨w9.heap.size, 0, none⟩) 3 (of4 D E F F)) := hid (hV ▸ row3 (heap_alloc_new w9 _))
          have hbv : Hid (Below w9.heap.size w9 V) := hid (hV ▸ (Below.refl _ w9).alloc (Nat.le_refl _) _)
          have HQ3 := hid (show ∀ i, i < 3 → Mar V (of4 q p r r i) (of4 M N R R i) (of4 D E F F i) from fun i hi => by
            have hc : i = 0 ∨ i = 1 ∨ i = 2 := by omega
            rcases hc with rfl | rfl | rfl
            · exact HM.out.below hbv.out
            · exact HN.out.below hbv.out
            · exact HR.out.below hbv.out)
          have CS := hid (msum_any (c := 3) hl.out (by omega) HQ3.out (HTb.out.below hbv.out HTb.out.lt))
          clear hV hl HQ3
          go_wp2_with (first
            | (with_reducible refine wp_mload rfl (.tmp 3) rfl w.heap.size D rfl PD.out ?_)
            | (with_reducible refine wp_mload rfl (.tmp 4) rfl (w.heap.size + 1) E rfl PE.out ?_)
            | (with_reducible refine wp_mload rfl (.tmp 5) rfl (w.heap.size + 1 + 1) F rfl PF.out ?_)
            | (with_reducible refine wp_mload rfl (.tmp 8) rfl w5.heap.size D1 rfl PX.out ?_)
            | (with_reducible refine wp_mload_g (by kernel_rfl) (.tmp 3) rfl w.heap.size D rfl PD.out ?_)
            | (with_reducible refine wp_mload_g (by kernel_rfl) (.tmp 4) rfl (w.heap.size + 1) E rfl PE.out ?_)
            | (with_reducible refine wp_mload_g (by kernel_rfl) (.tmp 5) rfl (w.heap.size + 1 + 1) F rfl PF.out ?_)
            | (with_reducible refine wp_mload_g (by kernel_rfl) (.tmp 8) rfl w5.heap.size D1 rfl PX.out ?_)
            | fail)
          rw [← HV.out]
          refine CS.out.mono ?_
          rintro e w10 ⟨D4, e4, rfl, HE4, HS, hb⟩
          replace hb := hid (hbv.out.trans (hb.out.mono hbv.out.size))
          clear CS HV hbv
          replace K := hid (K.out.trans (hb.out.mono K.out.size))
          replace HTb := hid (HTb.out.below hb.out HTb.out.lt)
          replace PD := hid (PD.out.below hb.out PD.out.lt)
          replace HM := hid (HM.out.below hb.out)
          replace PE := hid (PE.out.below hb.out PE.out.lt)
          replace HN := hid (HN.out.below hb.out)
          replace PF := hid (PF.out.below hb.out PF.out.lt)
          replace HR := hid (HR.out.below hb.out)
          replace HX := hid (HX.out.below hb.out)
          replace PX := hid (PX.out.below hb.out PX.out.lt)
          clear hb
          have F_s := hid (fresh_mass w10)
          go_upto_region 12 with (first
            | (with_reducible refine wp_mstore rfl (.tmp 14) (.tmp 79) rfl w10.heap.size D0 D4 rfl rfl F_s.out ?_)
            | (with_reducible refine wp_mload rfl (.tmp 3) rfl w.heap.size D rfl PD.out ?_)
            | (with_reducible refine wp_mload rfl (.tmp 4) rfl (w.heap.size + 1) E rfl PE.out ?_)
            | (with_reducible refine wp_mload rfl (.tmp 5) rfl (w.heap.size + 1 + 1) F rfl PF.out ?_)
            | (with_reducible refine wp_mload rfl (.tmp 8) rfl w5.heap.size D1 rfl PX.out ?_)
            | (with_reducible refine wp_mload_g (by kernel_rfl) (.tmp 3) rfl w.heap.size D rfl PD.out ?_)
            | (with_reducible refine wp_mload_g (by kernel_rfl) (.tmp 4) rfl (w.heap.size + 1) E rfl PE.out ?_)
            | (with_reducible refine wp_mload_g (by kernel_rfl) (.tmp 5) rfl (w.heap.size + 1 + 1) F rfl PF.out ?_)
            | (with_reducible refine wp_mload_g (by kernel_rfl) (.tmp 8) rfl w5.heap.size D1 rfl PX.out ?_)
            | fail)
          obtain ⟨W10, hW10⟩ : ∃ W, W = mstore (w10.alloc (.cells #[.bool false, .slice none 0 0, .int .i64 0, .bool false, .slice none 0 0, .int .i64 0, .bool false, .slice none 0 0, .int .i64 0, .bool false, .slice none 0 0, .int .i64 0] 37)) w10.heap.size D4 := ⟨_, rfl⟩
          rw [← hW10]
          have PS : Hid (Mbox W10 w10.heap.size D4) := hid (hW10 ▸ (new_mass w10 D4).1)
          have hn : Hid (Below w10.heap.size w10 W10) := hid (hW10 ▸ (new_mass w10 D4).2)
          clear hW10 F_s
          replace K := hid (K.out.trans (hn.out.mono K.out.size))
          replace HTb := hid (HTb.out.below hn.out HTb.out.lt)
          replace PD := hid (PD.out.below hn.out PD.out.lt)
          replace HM := hid (HM.out.below hn.out)
          replace PE := hid (PE.out.below hn.out PE.out.lt)
          replace HN := hid (HN.out.below hn.out)
          replace PF := hid (PF.out.below hn.out PF.out.lt)
          replace HR := hid (HR.out.below hn.out)
          replace HX := hid (HX.out.below hn.out)
          replace PX := hid (PX.out.below hn.out PX.out.lt)
          replace HS := hid (HS.out.below hn.out)
          clear hn
          go_wp2_with (first
            | (with_reducible refine wp_mload rfl (.tmp 3) rfl w.heap.size D rfl PD.out ?_)
            | (with_reducible refine wp_mload rfl (.tmp 4) rfl (w.heap.size + 1) E rfl PE.out ?_)
            | (with_reducible refine wp_mload rfl (.tmp 5) rfl (w.heap.size + 1 + 1) F rfl PF.out ?_)
            | (with_reducible refine wp_mload rfl (.tmp 8) rfl w5.heap.size D1 rfl PX.out ?_)
            | (with_reducible refine wp_mload rfl (.tmp 14) rfl w10.heap.size D4 rfl PS.out ?_)
            | (with_reducible refine wp_mload_g (by kernel_rfl) (.tmp 3) rfl w.heap.size D rfl PD.out ?_)
            | (with_reducible refine wp_mload_g (by kernel_rfl) (.tmp 4) rfl (w.heap.size + 1) E rfl PE.out ?_)
            | (with_reducible refine wp_mload_g (by kernel_rfl) (.tmp 5) rfl (w.heap.size + 1 + 1) F rfl PF.out ?_)
            | (with_reducible refine wp_mload_g (by kernel_rfl) (.tmp 8) rfl w5.heap.size D1 rfl PX.out ?_)
            | (with_reducible refine wp_mload_g (by kernel_rfl) (.tmp 14) rfl w10.heap.size D4 rfl PS.out ?_)
            | fail)
          refine (madd_any HX.out.mar HR.out HTb.out).mono ?_
          rintro e w11 ⟨D5, e5, rfl, HE5, HT5, hb⟩
          replace K := hid (K.out.trans (hb.out.mono K.out.size))
          replace HTb := hid (HTb.out.below hb.out HTb.out.lt)
          replace PD := hid (PD.out.below hb.out PD.out.lt)
          replace HM := hid (HM.out.below hb.out)
          replace PE := hid (PE.out.below hb.out PE.out.lt)
          replace HN := hid (HN.out.below hb.out)
          replace PF := hid (PF.out.below hb.out PF.out.lt)
          replace HR := hid (HR.out.below hb.out)
          replace HX := hid (HX.out.below hb.out)
          replace PX := hid (PX.out.below hb.out PX.out.lt)
          replace HS := hid (HS.out.below hb.out)
          replace PS := hid (PS.out.below hb.out PS.out.lt)
          clear hb
          have F_t := hid (fresh_mass w11)
          go_upto_region 13 with (first
            | (with_reducible refine wp_mstore rfl (.tmp 16) (.tmp 85) rfl w11.heap.size D0 D5 rfl rfl F_t.out ?_)
            | (with_reducible refine wp_mload rfl (.tmp 3) rfl w.heap.size D rfl PD.out ?_)
            | (with_reducible refine wp_mload rfl (.tmp 4) rfl (w.heap.size + 1) E rfl PE.out ?_)
            | (with_reducible refine wp_mload rfl (.tmp 5) rfl (w.heap.size + 1 + 1) F rfl PF.out ?_)
            | (with_reducible refine wp_mload rfl (.tmp 8) rfl w5.heap.size D1 rfl PX.out ?_)
            | (with_reducible refine wp_mload rfl (.tmp 14) rfl w10.heap.size D4 rfl PS.out ?_)
            | (with_reducible refine wp_mload_g (by kernel_rfl) (.tmp 3) rfl w.heap.size D rfl PD.out ?_)
            | (with_reducible refine wp_mload_g (by kernel_rfl) (.tmp 4) rfl (w.heap.size + 1) E rfl PE.out ?_)
            | (with_reducible refine wp_mload_g (by kernel_rfl) (.tmp 5) rfl (w.heap.size + 1 + 1) F rfl PF.out ?_)
            | (with_reducible refine wp_mload_g (by kernel_rfl) (.tmp 8) rfl w5.heap.size D1 rfl PX.out ?_)
            | (with_reducible refine wp_mload_g (by kernel_rfl) (.tmp 14) rfl w10.heap.size D4 rfl PS.out ?_)
            | fail)
          obtain ⟨W11, hW11⟩ : ∃ W, W = mstore (w11.alloc (.cells #[.bool false, .slice none 0 0, .int .i64 0, .bool false, .slice none 0 0, .int .i64 0, .bool false, .slice none 0 0, .int .i64 0, .bool false, .slice none 0 0, .int .i64 0] 37)) w11.heap.size D5 := ⟨_, rfl⟩
          rw [← hW11]
          have PT : Hid (Mbox W11 w11.heap.size D5) := hid (hW11 ▸ (new_mass w11 D5).1)
          have hn : Hid (Below w11.heap.size w11 W11) := hid (hW11 ▸ (new_mass w11 D5).2)
          clear hW11 F_t
          replace K := hid (K.out.trans (hn.out.mono K.out.size))
          replace HTb := hid (HTb.out.below hn.out HTb.out.lt)
          replace PD := hid (PD.out.below hn.out PD.out.lt)
          replace HM := hid (HM.out.below hn.out)
          replace PE := hid (PE.out.below hn.out PE.out.lt)
          replace HN := hid (HN.out.below hn.out)
          replace PF := hid (PF.out.below hn.out PF.out.lt)
          replace HR := hid (HR.out.below hn.out)
          replace HX := hid (HX.out.below hn.out)
          replace PX := hid (PX.out.below hn.out PX.out.lt)
          replace HS := hid (HS.out.below hn.out)
          replace PS := hid (PS.out.below hn.out PS.out.lt)
          replace HT5 := hid (HT5.out.below hn.out)
          clear hn
          obtain ⟨h45, hval⟩ := sum3_err Hq.out Hp.out (HM.out.okay Hq.out) Ho.out HE4.out HE5.out
          subst h45
          have Hval := hid hval
          clear hval HE4 HE5
          go_wp2_with (first
            | (with_reducible refine wp_mload rfl (.tmp 3) rfl w.heap.size D rfl PD.out ?_)
            | (with_reducible refine wp_mload rfl (.tmp 4) rfl (w.heap.size + 1) E rfl PE.out ?_)
            | (with_reducible refine wp_mload rfl (.tmp 5) rfl (w.heap.size + 1 + 1) F rfl PF.out ?_)
            | (with_reducible refine wp_mload rfl (.tmp 8) rfl w5.heap.size D1 rfl PX.out ?_)
            | (with_reducible refine wp_mload rfl (.tmp 14) rfl w10.heap.size D4 rfl PS.out ?_)
            | (with_reducible refine wp_mload rfl (.tmp 16) rfl w11.heap.size D5 rfl PT.out ?_)
            | (with_reducible refine wp_mload_g (by kernel_rfl) (.tmp 3) rfl w.heap.size D rfl PD.out ?_)
            | (with_reducible refine wp_mload_g (by kernel_rfl) (.tmp 4) rfl (w.heap.size + 1) E rfl PE.out ?_)
            | (with_reducible refine wp_mload_g (by kernel_rfl) (.tmp 5) rfl (w.heap.size + 1 + 1) F rfl PF.out ?_)
            | (with_reducible refine wp_mload_g (by kernel_rfl) (.tmp 8) rfl w5.heap.size D1 rfl PX.out ?_)
            | (with_reducible refine wp_mload_g (by kernel_rfl) (.tmp 14) rfl w10.heap.size D4 rfl PS.out ?_)
            | (with_reducible refine wp_mload_g (by kernel_rfl) (.tmp 16) rfl w11.heap.size D5 rfl PT.out ?_)
            | fail)
          refine (msame_true HS.out.mar HT5.out.mar (fun _ _ => trivial) (fun _ _ => trivial) Hval.out).mono ?_
          rintro e w12 ⟨rfl, hb⟩
          replace K := hid (K.out.trans (hb.out.mono K.out.size))
          replace HTb := hid (HTb.out.below hb.out HTb.out.lt)
          replace PD := hid (PD.out.below hb.out PD.out.lt)
          replace HM := hid (HM.out.below hb.out)
          replace PE := hid (PE.out.below hb.out PE.out.lt)
          replace HN := hid (HN.out.below hb.out)
          replace PF := hid (PF.out.below hb.out PF.out.lt)
          replace HR := hid (HR.out.below hb.out)
          replace HX := hid (HX.out.below hb.out)
          replace PX := hid (PX.out.below hb.out PX.out.lt)
          replace HS := hid (HS.out.below hb.out)
          replace PS := hid (PS.out.below hb.out PS.out.lt)
          replace HT5 := hid (HT5.out.below hb.out)
          replace PT := hid (PT.out.below hb.out PT.out.lt)
          clear hb
          go_wp2
          go_ret
          exact ⟨rfl, K.out⟩
        · go_wp2_with (first
            | (with_reducible refine wp_mload rfl (.tmp 3) rfl w.heap.size D rfl PD.out ?_)
            | (with_reducible refine wp_mload rfl (.tmp 4) rfl (w.heap.size + 1) E rfl PE.out ?_)
            | (with_reducible refine wp_mload rfl (.tmp 5) rfl (w.heap.size + 1 + 1) F rfl PF.out ?_)
            | (with_reducible refine wp_mload rfl (.tmp 8) rfl w5.heap.size D1 rfl PX.out ?_)
            | (with_reducible refine wp_mload_g (by kernel_rfl) (.tmp 3) rfl w.heap.size D rfl PD.out ?_)
            | (with_reducible refine wp_mload_g (by kernel_rfl) (.tmp 4) rfl (w.heap.size + 1) E rfl PE.out ?_)
            | (with_reducible refine wp_mload_g (by kernel_rfl) (.tmp 5) rfl (w.heap.size + 1 + 1) F rfl PF.out ?_)
            | (with_reducible refine wp_mload_g (by kernel_rfl) (.tmp 8) rfl w5.heap.size D1 rfl PX.out ?_)
            | fail)
          refine (msub_any HX.out.mar HN.out HTb.out).mono ?_
          rintro e w8 ⟨D3, e3, rfl, -, -, hb⟩
          replace K := hid (K.out.trans (hb.out.mono K.out.size))
          replace HTb := hid (HTb.out.below hb.out HTb.out.lt)
          replace PD := hid (PD.out.below hb.out PD.out.lt)
          replace HM := hid (HM.out.below hb.out)
          replace PE := hid (PE.out.below hb.out PE.out.lt)
          replace HN := hid (HN.out.below hb.out)
          replace PF := hid (PF.out.below hb.out PF.out.lt)
          replace HR := hid (HR.out.below hb.out)
          replace HX := hid (HX.out.below hb.out)
          replace PX := hid (PX.out.below hb.out PX.out.lt)
          clear hb
          have F_b := hid (fresh_mass w8)
          go_upto_region 9 with (first
            | (with_reducible refine wp_mstore rfl (.tmp 12) (.tmp 59) rfl w8.heap.size D0 D3 rfl rfl F_b.out ?_)
            | (with_reducible refine wp_mload rfl (.tmp 3) rfl w.heap.size D rfl PD.out ?_)
            | (with_reducible refine wp_mload rfl (.tmp 4) rfl (w.heap.size + 1) E rfl PE.out ?_)
            | (with_reducible refine wp_mload rfl (.tmp 5) rfl (w.heap.size + 1 + 1) F rfl PF.out ?_)
            | (with_reducible refine wp_mload rfl (.tmp 8) rfl w5.heap.size D1 rfl PX.out ?_)
            | (with_reducible refine wp_mload_g (by kernel_rfl) (.tmp 3) rfl w.heap.size D rfl PD.out ?_)
            | (with_reducible refine wp_mload_g (by kernel_rfl) (.tmp 4) rfl (w.heap.size + 1) E rfl PE.out ?_)
            | (with_reducible refine wp_mload_g (by kernel_rfl) (.tmp 5) rfl (w.heap.size + 1 + 1) F rfl PF.out ?_)
            | (with_reducible refine wp_mload_g (by kernel_rfl) (.tmp 8) rfl w5.heap.size D1 rfl PX.out ?_)
            | fail)
          obtain ⟨W8, hW8⟩ : ∃ W, W = mstore (w8.alloc (.cells #[.bool false, .slice none 0 0, .int .i64 0, .bool false, .slice none 0 0, .int .i64 0, .bool false, .slice none 0 0, .int .i64 0, .bool false, .slice none 0 0, .int .i64 0] 37)) w8.heap.size D3 := ⟨_, rfl⟩
          rw [← hW8]
          have PB : Hid (Mbox W8 w8.heap.size D3) := hid (hW8 ▸ (new_mass w8 D3).1)
          have hn : Hid (Below w8.heap.size w8 W8) := hid (hW8 ▸ (new_mass w8 D3).2)
          clear hW8 F_b
          replace K := hid (K.out.trans (hn.out.mono K.out.size))
          replace HTb := hid (HTb.out.below hn.out HTb.out.lt)
          replace PD := hid (PD.out.below hn.out PD.out.lt)
          replace HM := hid (HM.out.below hn.out)
          replace PE := hid (PE.out.below hn.out PE.out.lt)
          replace HN := hid (HN.out.below hn.out)
          replace PF := hid (PF.out.below hn.out PF.out.lt)
          replace HR := hid (HR.out.below hn.out)
          replace HX := hid (HX.out.below hn.out)
          replace PX := hid (PX.out.below hn.out PX.out.lt)
          clear hn
          clear PB
          go_upto_region 11 with fail
          obtain ⟨V, hV⟩ : ∃ V, V = W8.alloc (.cells #[.bool (D 0).s, .slice (D 0).A (D 0).n (D 0).c, .int .i64 (D 0).x, .bool (D 1).s, .slice (D 1).A (D 1).n (D 1).c, .int .i64 (D 1).x, .bool (D 2).s, .slice (D 2).A (D 2).n (D 2).c, .int .i64 (D 2).x, .bool (D 3).s, .slice (D 3).A (D 3).n (D 3).c, .int .i64 (D 3).x, .bool (E 0).s, .slice (E 0).A (E 0).n (E 0).c, .int .i64 (E 0).x, .bool (E 1).s, .slice (E 1).A (E 1).n (E 1).c, .int .i64 (E 1).x, .bool (E 2).s, .slice (E 2).A (E 2).n (E 2).c, .int .i64 (E 2).x, .bool (E 3).s, .slice (E 3).A (E 3).n (E 3).c, .int .i64 (E 3).x, .bool (F 0).s, .slice (F 0).A (F 0).n (F 0).c, .int .i64 (F 0).x, .bool (F 1).s, .slice (F 1).A (F 1).n (F 1).c, .int .i64 (F 1).x, .bool (F 2).s, .slice (F 2).A (F 2).n (F 2).c, .int .i64 (F 2).x, .bool (F 3).s, .slice (F 3).A (F 3).n (F 3).c, .int .i64 (F 3).x] 37) := ⟨_, rfl⟩
          have HV := hid hV
          have hl : Hid (Mlist V (some ⟨W8.heap.size, 0, none⟩) 3 (of4 D E F F)) := hid (hV ▸ row3 (heap_alloc_new W8 _))
          have hbv : Hid (Below W8.heap.size W8 V) := hid (hV ▸ (Below.refl _ W8).alloc (Nat.le_refl _) _)
          have HQ3 := hid (show ∀ i, i < 3 → Mar V (of4 q p r r i) (of4 M N R R i) (of4 D E F F i) from fun i hi => by
            have hc : i = 0 ∨ i = 1 ∨ i = 2 := by omega
            rcases hc with rfl | rfl | rfl
            · exact HM.out.below hbv.out
            · exact HN.out.below hbv.out
            · exact HR.out.below hbv.out)
          have CS := hid (msum_any (c := 3) hl.out (by omega) HQ3.out (HTb.out.below hbv.out HTb.out.lt))
          clear hV hl HQ3
          go_wp2_with (first
            | (with_reducible refine wp_mload rfl (.tmp 3) rfl w.heap.size D rfl PD.out ?_)
            | (with_reducible refine wp_mload rfl (.tmp 4) rfl (w.heap.size + 1) E rfl PE.out ?_)
            | (with_reducible refine wp_mload rfl (.tmp 5) rfl (w.heap.size + 1 + 1) F rfl PF.out ?_)
            | (with_reducible refine wp_mload rfl (.tmp 8) rfl w5.heap.size D1 rfl PX.out ?_)
            | (with_reducible refine wp_mload_g (by kernel_rfl) (.tmp 3) rfl w.heap.size D rfl PD.out ?_)
            | (with_reducible refine wp_mload_g (by kernel_rfl) (.tmp 4) rfl (w.heap.size + 1) E rfl PE.out ?_)
            | (with_reducible refine wp_mload_g (by kernel_rfl) (.tmp 5) rfl (w.heap.size + 1 + 1) F rfl PF.out ?_)
            | (with_reducible refine wp_mload_g (by kernel_rfl) (.tmp 8) rfl w5.heap.size D1 rfl PX.out ?_)
            | fail)
          rw [← HV.out]
          refine CS.out.mono ?_
          rintro e w10 ⟨D4, e4, rfl, HE4, HS, hb⟩
          replace hb := hid (hbv.out.trans (hb.out.mono hbv.out.size))
          clear CS HV hbv
          replace K := hid (K.out.trans (hb.out.mono K.out.size))
          replace HTb := hid (HTb.out.below hb.out HTb.out.lt)
          replace PD := hid (PD.out.below hb.out PD.out.lt)
          replace HM := hid (HM.out.below hb.out)
          replace PE := hid (PE.out.below hb.out PE.out.lt)
          replace HN := hid (HN.out.below hb.out)
          replace PF := hid (PF.out.below hb.out PF.out.lt)
          replace HR := hid (HR.out.below hb.out)
          replace HX := hid (HX.out.below hb.out)
          replace PX := hid (PX.out.below hb.out PX.out.lt)
          clear hb
          have F_s := hid (fresh_mass w10)
          go_upto_region 12 with (first
            | (with_reducible refine wp_mstore rfl (.tmp 14) (.tmp 79) rfl w10.heap.size D0 D4 rfl rfl F_s.out ?_)
            | (with_reducible refine wp_mload rfl (.tmp 3) rfl w.heap.size D rfl PD.out ?_)
            | (with_reducible refine wp_mload rfl (.tmp 4) rfl (w.heap.size + 1) E rfl PE.out ?_)
            | (with_reducible refine wp_mload rfl (.tmp 5) rfl (w.heap.size + 1 + 1) F rfl PF.out ?_)
            | (with_reducible refine wp_mload rfl (.tmp 8) rfl w5.heap.size D1 rfl PX.out ?_)
            | (with_reducible refine wp_mload_g (by kernel_rfl) (.tmp 3) rfl w.heap.size D rfl PD.out ?_)
            | (with_reducible refine wp_mload_g (by kernel_rfl) (.tmp 4) rfl (w.heap.size + 1) E rfl PE.out ?_)
            | (with_reducible refine wp_mload_g (by kernel_rfl) (.tmp 5) rfl (w.heap.size + 1 + 1) F rfl PF.out ?_)
            | (with_reducible refine wp_mload_g (by kernel_rfl) (.tmp 8) rfl w5.heap.size D1 rfl PX.out ?_)
            | fail)
          obtain ⟨W10, hW10⟩ : ∃ W, W = mstore (w10.alloc (.cells #[.bool false, .slice none 0 0, .int .i64 0, .bool false, .slice none 0 0, .int .i64 0, .bool false, .slice none 0 0, .int .i64 0, .bool false, .slice none 0 0, .int .i64 0] 37)) w10.heap.size D4 := ⟨_, rfl⟩
          rw [← hW10]
          have PS : Hid (Mbox W10 w10.heap.size D4) := hid (hW10 ▸ (new_mass w10 D4).1)
          have hn : Hid (Below w10.heap.size w10 W10) := hid (hW10 ▸ (new_mass w10 D4).2)
          clear hW10 F_s
          replace K := hid (K.out.trans (hn.out.mono K.out.size))
          replace HTb := hid (HTb.out.below hn.out HTb.out.lt)
          replace PD := hid (PD.out.below hn.out PD.out.lt)
          replace HM := hid (HM.out.below hn.out)
          replace PE := hid (PE.out.below hn.out PE.out.lt)
          replace HN := hid (HN.out.below hn.out)
          replace PF := hid (PF.out.below hn.out PF.out.lt)
          replace HR := hid (HR.out.below hn.out)
          replace HX := hid (HX.out.below hn.out)
          replace PX := hid (PX.out.below hn.out PX.out.lt)
          replace HS := hid (HS.out.below hn.out)
          clear hn
          go_wp2_with (first
            | (with_reducible refine wp_mload rfl (.tmp 3) rfl w.heap.size D rfl PD.out ?_)
            | (with_reducible refine wp_mload rfl (.tmp 4) rfl (w.heap.size + 1) E rfl PE.out ?_)
            | (with_reducible refine wp_mload rfl (.tmp 5) rfl (w.heap.size + 1 + 1) F rfl PF.out ?_)
            | (with_reducible refine wp_mload rfl (.tmp 8) rfl w5.heap.size D1 rfl PX.out ?_)
            | (with_reducible refine wp_mload rfl (.tmp 14) rfl w10.heap.size D4 rfl PS.out ?_)
            | (with_reducible refine wp_mload_g (by kernel_rfl) (.tmp 3) rfl w.heap.size D rfl PD.out ?_)
            | (with_reducible refine wp_mload_g (by kernel_rfl) (.tmp 4) rfl (w.heap.size + 1) E rfl PE.out ?_)
            | (with_reducible refine wp_mload_g (by kernel_rfl) (.tmp 5) rfl (w.heap.size + 1 + 1) F rfl PF.out ?_)
            | (with_reducible refine wp_mload_g (by kernel_rfl) (.tmp 8) rfl w5.heap.size D1 rfl PX.out ?_)
            | (with_reducible refine wp_mload_g (by kernel_rfl) (.tmp 14) rfl w10.heap.size D4 rfl PS.out ?_)
            | fail)
          refine (madd_any HX.out.mar HR.out HTb.out).mono ?_
          rintro e w11 ⟨D5, e5, rfl, HE5, HT5, hb⟩
          replace K := hid (K.out.trans (hb.out.mono K.out.size))
          replace HTb := hid (HTb.out.below hb.out HTb.out.lt)
          replace PD := hid (PD.out.below hb.out PD.out.lt)
          replace HM := hid (HM.out.below hb.out)
          replace PE := hid (PE.out.below hb.out PE.out.lt)
          replace HN := hid (HN.out.below hb.out)
          replace PF := hid (PF.out.below hb.out PF.out.lt)
          replace HR := hid (HR.out.below hb.out)
          replace HX := hid (HX.out.below hb.out)
          replace PX := hid (PX.out.below hb.out PX.out.lt)
          replace HS := hid (HS.out.below hb.out)
          replace PS := hid (PS.out.below hb.out PS.out.lt)
          clear hb
          have F_t := hid (fresh_mass w11)
          go_upto_region 13 with (first
            | (with_reducible refine wp_mstore rfl (.tmp 16) (.tmp 85) rfl w11.heap.size D0 D5 rfl rfl F_t.out ?_)
            | (with_reducible refine wp_mload rfl (.tmp 3) rfl w.heap.size D rfl PD.out ?_)
            | (with_reducible refine wp_mload rfl (.tmp 4) rfl (w.heap.size + 1) E rfl PE.out ?_)
            | (with_reducible refine wp_mload rfl (.tmp 5) rfl (w.heap.size + 1 + 1) F rfl PF.out ?_)
            | (with_reducible refine wp_mload rfl (.tmp 8) rfl w5.heap.size D1 rfl PX.out ?_)
            | (with_reducible refine wp_mload rfl (.tmp 14) rfl w10.heap.size D4 rfl PS.out ?_)
            | (with_reducible refine wp_mload_g (by kernel_rfl) (.tmp 3) rfl w.heap.size D rfl PD.out ?_)
            | (with_reducible refine wp_mload_g (by kernel_rfl) (.tmp 4) rfl (w.heap.size + 1) E rfl PE.out ?_)
            | (with_reducible refine wp_mload_g (by kernel_rfl) (.tmp 5) rfl (w.heap.size + 1 + 1) F rfl PF.out ?_)
            | (with_reducible refine wp_mload_g (by kernel_rfl) (.tmp 8) rfl w5.heap.size D1 rfl PX.out ?_)
            | (with_reducible refine wp_mload_g (by kernel_rfl) (.tmp 14) rfl w10.heap.size D4 rfl PS.out ?_)
            | fail)
          obtain ⟨W11, hW11⟩ : ∃ W, W = mstore (w11.alloc (.cells #[.bool false, .slice none 0 0, .int .i64 0, .bool false, .slice none 0 0, .int .i64 0, .bool false, .slice none 0 0, .int .i64 0, .bool false, .slice none 0 0, .int .i64 0] 37)) w11.heap.size D5 := ⟨_, rfl⟩
          rw [← hW11]
          have PT : Hid (Mbox W11 w11.heap.size D5) := hid (hW11 ▸ (new_mass w11 D5).1)
          have hn : Hid (Below w11.heap.size w11 W11) := hid (hW11 ▸ (new_mass w11 D5).2)
          clear hW11 F_t
          replace K := hid (K.out.trans (hn.out.mono K.out.size))
          replace HTb := hid (HTb.out.below hn.out HTb.out.lt)
          replace PD := hid (PD.out.below hn.out PD.out.lt)
          replace HM := hid (HM.out.below hn.out)
          replace PE := hid (PE.out.below hn.out PE.out.lt)
          replace HN := hid (HN.out.below hn.out)
          replace PF := hid (PF.out.below hn.out PF.out.lt)
          replace HR := hid (HR.out.below hn.out)
          replace HX := hid (HX.out.below hn.out)
          replace PX := hid (PX.out.below hn.out PX.out.lt)
          replace HS := hid (HS.out.below hn.out)
          replace PS := hid (PS.out.below hn.out PS.out.lt)
          replace HT5 := hid (HT5.out.below hn.out)
          clear hn
          go_wp2
          go_ret
          exact ⟨rfl, K.out⟩

end Go.Proofs.YtijcnabhpneaiaaDoor
