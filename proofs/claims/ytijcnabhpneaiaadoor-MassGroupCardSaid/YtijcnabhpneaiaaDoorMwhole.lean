/- MassWhole, walked. -/
import Derived.Test.YtijcnabhpneaiaaDoorMalive
namespace Go.Proofs.YtijcnabhpneaiaaDoor
open Go.RowKit Go.Shelf

/-- What a mass that came in is. -/
theorem mar_of {w : World} {D : Nat → Dy} (h : Mrd w w.heap.size D) (hn : ∀ k, k < 4 → (D k).A = none → (D k).n = 0 ∧ (D k).c = 0) : ∃ (q : Nat → Prop) (M : Nat → Int), Mar w q M D :=
  ⟨fun k => DMay (D k).s (D k).n (D k).f (D k).x, fun k => dv (D k).s (vl (D k).f (D k).n) (D k).x.toNat, fun k hk => ⟨h k hk, Iff.rfl, fun hm => ⟨(D k).x.toNat, by have := hm.2.1; omega, rfl⟩, hn k hk⟩⟩
theorem Mar.okay {w : World} {q : Nat → Prop} {M : Nat → Int} {D : Nat → Dy} (h : Mar w q M D) (hq : All4 q) : All4 (fun k => Okay (M k)) := fun k hk => (h k hk).arg.okay (hq k hk)
theorem Mar.check {w : World} {q : Nat → Prop} {M : Nat → Int} {D : Nat → Dy} (h : Mar w q M D) : Calls Tryd.prog 24 #[.agg (mcells D)] w fun e w' => ∃ er, e = .returned (.int .i64 er) ∧ Hid ((All4 q → er = 0) ∧ (¬ All4 q → er = 8)) ∧ Hid (Below w.heap.size w w') := by
  refine (mcheck_any h.mrd).mono ?_
  rintro e w' ⟨er, rfl, h1, h2, hb⟩
  refine ⟨er, rfl, ⟨fun hq => h1.out.2 (h.may.1 hq), fun hq => ?_⟩, hb⟩
  rcases h2.out with h0 | h0
  · exact absurd (h.may.2 (h1.out.1 h0)) hq
  · exact h0
theorem madd_good {w : World} {q p : Nat → Prop} {M N R : Nat → Int} {D E : Nat → Dy} (h : Mar w q M D) (h2 : Mar w p N E) (hq : All4 q) (hp : All4 p) (hT : Tab w) (hR : ∀ k, k < 4 → M k + N k = R k) (ho : All4 (fun k => Okay (R k))) :
    Calls Tryd.prog 21 #[.agg (mcells D), .agg (mcells E)] w (MGood w R) := by
  refine (madd_any h h2 hT).mono ?_
  intro e w' hr
  have hg := hr.good (fun er he => he.good ⟨hq, hp⟩ (fun k hk => by have h0 : Okay (R k) := ho k hk; show Okay (M k + N k); rw [hR k hk]; exact h0))
  obtain ⟨S, rfl, HM, hb⟩ := hg
  exact ⟨S, rfl, (fun k hk => by rw [← hR k hk]; exact HM.out k hk), hb⟩
theorem mar_zero (w : World) : Mar w (fun _ => True) (fun _ => 0) D0 := (Mow.zero 0 w).mar

set_option maxRecDepth 100000 in
set_option maxHeartbeats 6400000 in
theorem mwhole_walk {w : World} {D : Nat → Dy} (h : Mrd w w.heap.size D) (hn : ∀ k, k < 4 → (D k).A = none → (D k).n = 0 ∧ (D k).c = 0) (hT : Tab w) :
    Calls Tryd.prog 7 #[.agg (mcells D)] w fun e w' => e = .returned (.bool true) ∧ Below w.heap.size w w' := by
  obtain ⟨q, M, hM⟩ := mar_of h hn
  have HM := hid hM
  have HTb := hid hT
  have Hmx := hid (fun k (hk : k < 4) => (h k hk).max)
  obtain ⟨W, hW⟩ : ∃ W, W = w.alloc (.cells (mcells D) 37) := ⟨_, rfl⟩
  have HW := hid hW
  have K := hid (show Below w.heap.size w W from hW ▸ (Below.refl _ w).alloc (Nat.le_refl _) _)
  have P := hid (show Mbox W w.heap.size D from hW ▸ heap_alloc_new w _)
  replace HM := hid (HM.out.below K.out)
  replace HTb := hid (HTb.out.below K.out HTb.out.lt)
  clear hW h hn hT hM
  go_enter Tryd.func7, Tryd.ntmps7
  go_upto_region 1 with fail
  rw [← HW.out]
  clear HW
  go_wp2_with (first
    | (with_reducible refine wp_mload rfl (.tmp 1) rfl w.heap.size D rfl P.out ?_)
    | (with_reducible refine wp_mload_g (by kernel_rfl) (.tmp 1) rfl w.heap.size D rfl P.out ?_)
    | fail)
  refine (malive_any _ HTb.out).mono ?_
  rintro e w1 ⟨rfl, hb⟩
  replace K := hid (K.out.trans (hb.out.mono K.out.size))
  replace P := hid (P.out.below hb.out P.out.lt)
  replace HM := hid (HM.out.below hb.out)
  replace HTb := hid (HTb.out.below hb.out HTb.out.lt)
  clear hb
  go_wp2_with (first
    | (with_reducible refine wp_mload rfl (.tmp 1) rfl w.heap.size D rfl P.out ?_)
    | (with_reducible refine wp_mload_g (by kernel_rfl) (.tmp 1) rfl w.heap.size D rfl P.out ?_)
    | fail)
  refine (mgreat_any Hmx.out).mono ?_
  rintro e w2 ⟨r, rfl, -, hb⟩
  replace K := hid (K.out.trans (hb.out.mono K.out.size))
  replace P := hid (P.out.below hb.out P.out.lt)
  replace HM := hid (HM.out.below hb.out)
  replace HTb := hid (HTb.out.below hb.out HTb.out.lt)
  clear hb
  cases r with
  | true =>
    go_wp2
    go_ret
    exact ⟨rfl, K.out⟩
  | false =>
    go_wp2_with (first
      | (with_reducible refine wp_mload rfl (.tmp 1) rfl w.heap.size D rfl P.out ?_)
      | (with_reducible refine wp_mload_g (by kernel_rfl) (.tmp 1) rfl w.heap.size D rfl P.out ?_)
      | fail)
    refine (msplit_any HM.out HTb.out).mono ?_
    rintro e w3 ⟨h0, h1, hh, D1, D2, er, rfl, HE, HS, hb⟩
    replace K := hid (K.out.trans (hb.out.mono K.out.size))
    replace P := hid (P.out.below hb.out P.out.lt)
    replace HM := hid (HM.out.below hb.out)
    replace HTb := hid (HTb.out.below hb.out HTb.out.lt)
    have Hh := hid hh
    clear hb hh
    have HKS : Hid (Mow w2.heap.size w3 (resM er (of4 h0 h1 (M 2) (M 3))) D1 ∧ Mow w2.heap.size w3 (resM er (of4 h0 h1 0 0)) D2) := by
      obtain ⟨B2, hB2, HK', HS', -⟩ := HS.out
      exact ⟨HK'.mono hB2, HS'⟩
    have HK1 := hid HKS.out.1
    have HS1 := hid HKS.out.2
    clear HKS HS
    have fr0 := hid (fresh_mass w3)
    have fr1 : Hid (Mbox ((w3.alloc (.cells #[.bool false, .slice none 0 0, .int .i64 0, .bool false, .slice none 0 0, .int .i64 0, .bool false, .slice none 0 0, .int .i64 0, .bool false, .slice none 0 0, .int .i64 0] 37)).alloc (.cells #[.bool false, .slice none 0 0, .int .i64 0, .bool false, .slice none 0 0, .int .i64 0, .bool false, .slice none 0 0, .int .i64 0, .bool false, .slice none 0 0, .int .i64 0] 37)) w3.heap.size D0) := hid (fr0.out.alloc _)
    have fr2 : Hid (Mbox (mstore ((w3.alloc (.cells #[.bool false, .slice none 0 0, .int .i64 0, .bool false, .slice none 0 0, .int .i64 0, .bool false, .slice none 0 0, .int .i64 0, .bool false, .slice none 0 0, .int .i64 0] 37)).alloc (.cells #[.bool false, .slice none 0 0, .int .i64 0, .bool false, .slice none 0 0, .int .i64 0, .bool false, .slice none 0 0, .int .i64 0, .bool false, .slice none 0 0, .int .i64 0] 37)) w3.heap.size D1) (w3.heap.size + 1) D0) := hid (Mbox.grown (show Mbox ((w3.alloc _).alloc _) (w3.heap.size + 1) D0 from new_at (by simp)) (grown_mstore _ _ D1) (by omega))
    go_upto_region 5 with (first
      | (with_reducible refine wp_mstore rfl (.tmp 4) (.tmp 20) rfl w3.heap.size D0 D1 rfl rfl fr1.out ?_)
      | (with_reducible refine wp_mstore rfl (.tmp 5) (.tmp 21) rfl (w3.heap.size + 1) D0 D2 rfl rfl fr2.out ?_)
      | (with_reducible refine wp_mload rfl (.tmp 1) rfl w.heap.size D rfl P.out ?_)
      | (with_reducible refine wp_mload_g (by kernel_rfl) (.tmp 1) rfl w.heap.size D rfl P.out ?_)
      | fail)
    obtain ⟨W3, hW3⟩ : ∃ W, W = mstore (mstore ((w3.alloc (.cells #[.bool false, .slice none 0 0, .int .i64 0, .bool false, .slice none 0 0, .int .i64 0, .bool false, .slice none 0 0, .int .i64 0, .bool false, .slice none 0 0, .int .i64 0] 37)).alloc (.cells #[.bool false, .slice none 0 0, .int .i64 0, .bool false, .slice none 0 0, .int .i64 0, .bool false, .slice none 0 0, .int .i64 0, .bool false, .slice none 0 0, .int .i64 0] 37)) w3.heap.size D1) (w3.heap.size + 1) D2 := ⟨_, rfl⟩
    rw [← hW3]
    have P4 : Hid (Mbox W3 w3.heap.size D1) := hid (hW3 ▸ (fr1.out.store D1).grown (grown_mstore _ _ D2) (by omega))
    have P5 : Hid (Mbox W3 (w3.heap.size + 1) D2) := hid (hW3 ▸ fr2.out.store D2)
    have hn : Hid (Below w3.heap.size w3 W3) := hid (hW3 ▸ below_row (below_row (((Below.refl _ w3).alloc (Nat.le_refl _) _).alloc (by simp) _) (grown_mstore _ _ D1) (by simp; omega) (Nat.le_refl _)) (grown_mstore _ _ D2) (Nat.le_trans (show w3.heap.size ≤ ((w3.alloc _).alloc _).heap.size by simp; omega) (grown_mstore _ _ D1).size) (by omega))
    clear hW3 fr0 fr1 fr2
    replace K := hid (K.out.trans (hn.out.mono K.out.size))
    replace P := hid (P.out.below hn.out P.out.lt)
    replace HM := hid (HM.out.below hn.out)
    replace HTb := hid (HTb.out.below hn.out HTb.out.lt)
    replace HK1 := hid (HK1.out.below hn.out)
    replace HS1 := hid (HS1.out.below hn.out)
    clear hn
    by_cases hq : All4 q
    · have Hq := hid hq
      clear hq
      rcases HE.out.1 Hq.out with ⟨hok, rfl⟩ | ⟨hno, rfl⟩
      · replace HK1 := hid (show Mow w2.heap.size W3 (of4 h0 h1 (M 2) (M 3)) D1 from by have := HK1.out; rwa [resM_ok rfl] at this)
        replace HS1 := hid (show Mow w2.heap.size W3 (of4 h0 h1 0 0) D2 from by have := HS1.out; rwa [resM_ok rfl] at this)
        have Hv := hid (Hh.out Hq.out)
        have HO := hid (HM.out.okay Hq.out)
        clear hok HE Hh
        go_wp2_with (first
          | (with_reducible refine wp_mload rfl (.tmp 1) rfl w.heap.size D rfl P.out ?_)
          | (with_reducible refine wp_mload rfl (.tmp 4) rfl w3.heap.size D1 rfl P4.out ?_)
          | (with_reducible refine wp_mload rfl (.tmp 5) rfl (w3.heap.size + 1) D2 rfl P5.out ?_)
          | (with_reducible refine wp_mload_g (by kernel_rfl) (.tmp 1) rfl w.heap.size D rfl P.out ?_)
          | (with_reducible refine wp_mload_g (by kernel_rfl) (.tmp 4) rfl w3.heap.size D1 rfl P4.out ?_)
          | (with_reducible refine wp_mload_g (by kernel_rfl) (.tmp 5) rfl (w3.heap.size + 1) D2 rfl P5.out ?_)
          | fail)
        refine (madd_good (R := M) HK1.out.mar HS1.out.mar (fun _ _ => trivial) (fun _ _ => trivial) HTb.out (all_of4 (by have := Hv.out.1; show h0 + h0 = M 0; omega) (by have := Hv.out.2; show h1 + h1 = M 1; omega) (Int.add_zero _) (Int.add_zero _)) HO.out).mono ?_
        rintro e w4 ⟨D3, rfl, HR, hb⟩
        replace K := hid (K.out.trans (hb.out.mono K.out.size))
        replace P := hid (P.out.below hb.out P.out.lt)
        replace HM := hid (HM.out.below hb.out)
        replace HTb := hid (HTb.out.below hb.out HTb.out.lt)
        replace HK1 := hid (HK1.out.below hb.out)
        replace HS1 := hid (HS1.out.below hb.out)
        replace P4 := hid (P4.out.below hb.out P4.out.lt)
        replace P5 := hid (P5.out.below hb.out P5.out.lt)
        clear hb
        have F_s := hid (fresh_mass w4)
        go_upto_region 8 with (first
          | (with_reducible refine wp_mstore rfl (.tmp 7) (.tmp 50) rfl w4.heap.size D0 D3 rfl rfl F_s.out ?_)
          | (with_reducible refine wp_mload rfl (.tmp 1) rfl w.heap.size D rfl P.out ?_)
          | (with_reducible refine wp_mload rfl (.tmp 4) rfl w3.heap.size D1 rfl P4.out ?_)
          | (with_reducible refine wp_mload rfl (.tmp 5) rfl (w3.heap.size + 1) D2 rfl P5.out ?_)
          | (with_reducible refine wp_mload_g (by kernel_rfl) (.tmp 1) rfl w.heap.size D rfl P.out ?_)
          | (with_reducible refine wp_mload_g (by kernel_rfl) (.tmp 4) rfl w3.heap.size D1 rfl P4.out ?_)
          | (with_reducible refine wp_mload_g (by kernel_rfl) (.tmp 5) rfl (w3.heap.size + 1) D2 rfl P5.out ?_)
          | fail)
        obtain ⟨W4, hW4⟩ : ∃ W, W = mstore (w4.alloc (.cells #[.bool false, .slice none 0 0, .int .i64 0, .bool false, .slice none 0 0, .int .i64 0, .bool false, .slice none 0 0, .int .i64 0, .bool false, .slice none 0 0, .int .i64 0] 37)) w4.heap.size D3 := ⟨_, rfl⟩
        rw [← hW4]
        have P7 : Hid (Mbox W4 w4.heap.size D3) := hid (hW4 ▸ (new_mass w4 D3).1)
        have hn : Hid (Below w4.heap.size w4 W4) := hid (hW4 ▸ (new_mass w4 D3).2)
        clear hW4 F_s
        replace K := hid (K.out.trans (hn.out.mono K.out.size))
        replace P := hid (P.out.below hn.out P.out.lt)
        replace HM := hid (HM.out.below hn.out)
        replace HTb := hid (HTb.out.below hn.out HTb.out.lt)
        replace HK1 := hid (HK1.out.below hn.out)
        replace HS1 := hid (HS1.out.below hn.out)
        replace P4 := hid (P4.out.below hn.out P4.out.lt)
        replace P5 := hid (P5.out.below hn.out P5.out.lt)
        replace HR := hid (HR.out.below hn.out)
        clear hn
        go_wp2_with (first
          | (with_reducible refine wp_mload rfl (.tmp 1) rfl w.heap.size D rfl P.out ?_)
          | (with_reducible refine wp_mload rfl (.tmp 4) rfl w3.heap.size D1 rfl P4.out ?_)
          | (with_reducible refine wp_mload rfl (.tmp 5) rfl (w3.heap.size + 1) D2 rfl P5.out ?_)
          | (with_reducible refine wp_mload rfl (.tmp 7) rfl w4.heap.size D3 rfl P7.out ?_)
          | (with_reducible refine wp_mload_g (by kernel_rfl) (.tmp 1) rfl w.heap.size D rfl P.out ?_)
          | (with_reducible refine wp_mload_g (by kernel_rfl) (.tmp 4) rfl w3.heap.size D1 rfl P4.out ?_)
          | (with_reducible refine wp_mload_g (by kernel_rfl) (.tmp 5) rfl (w3.heap.size + 1) D2 rfl P5.out ?_)
          | (with_reducible refine wp_mload_g (by kernel_rfl) (.tmp 7) rfl w4.heap.size D3 rfl P7.out ?_)
          | fail)
        refine (msame_true HR.out.mar HM.out (fun _ _ => trivial) Hq.out (fun _ _ => rfl)).mono ?_
        rintro e w5 ⟨rfl, hb⟩
        replace K := hid (K.out.trans (hb.out.mono K.out.size))
        replace P := hid (P.out.below hb.out P.out.lt)
        replace HM := hid (HM.out.below hb.out)
        replace HTb := hid (HTb.out.below hb.out HTb.out.lt)
        replace HK1 := hid (HK1.out.below hb.out)
        replace HS1 := hid (HS1.out.below hb.out)
        replace P4 := hid (P4.out.below hb.out P4.out.lt)
        replace P5 := hid (P5.out.below hb.out P5.out.lt)
        replace HR := hid (HR.out.below hb.out)
        replace P7 := hid (P7.out.below hb.out P7.out.lt)
        clear hb
        clear P7 HR
        have P4c0 := P4.out.at_ 0 _ rfl
        have P4c1 := P4.out.at_ 1 _ rfl
        have P4c2 := P4.out.at_ 2 _ rfl
        have P5c0 := P5.out.at_ 0 _ rfl
        have P5c1 := P5.out.at_ 1 _ rfl
        have P5c2 := P5.out.at_ 2 _ rfl
        go_wp2_with (first
          | (with_reducible refine wp_mload rfl (.tmp 1) rfl w.heap.size D rfl P.out ?_)
          | (with_reducible refine wp_mload rfl (.tmp 4) rfl w3.heap.size D1 rfl P4.out ?_)
          | (with_reducible refine wp_mload rfl (.tmp 5) rfl (w3.heap.size + 1) D2 rfl P5.out ?_)
          | (with_reducible refine wp_mload_g (by kernel_rfl) (.tmp 1) rfl w.heap.size D rfl P.out ?_)
          | (with_reducible refine wp_mload_g (by kernel_rfl) (.tmp 4) rfl w3.heap.size D1 rfl P4.out ?_)
          | (with_reducible refine wp_mload_g (by kernel_rfl) (.tmp 5) rfl (w3.heap.size + 1) D2 rfl P5.out ?_)
          | fail)
        refine (same_true (HK1.out 0 (by omega)).read.arg (HS1.out 0 (by omega)).read.arg trivial trivial rfl).mono ?_
        rintro e w6 ⟨rfl, hb⟩
        clear P4c0 P4c1 P4c2
        clear P5c0 P5c1 P5c2
        replace K := hid (K.out.trans (hb.out.mono K.out.size))
        replace P := hid (P.out.below hb.out P.out.lt)
        replace HM := hid (HM.out.below hb.out)
        replace HTb := hid (HTb.out.below hb.out HTb.out.lt)
        replace HK1 := hid (HK1.out.below hb.out)
        replace HS1 := hid (HS1.out.below hb.out)
        replace P4 := hid (P4.out.below hb.out P4.out.lt)
        replace P5 := hid (P5.out.below hb.out P5.out.lt)
        clear hb
        have P4c3 := P4.out.at_ 3 _ rfl
        have P4c4 := P4.out.at_ 4 _ rfl
        have P4c5 := P4.out.at_ 5 _ rfl
        have P5c3 := P5.out.at_ 3 _ rfl
        have P5c4 := P5.out.at_ 4 _ rfl
        have P5c5 := P5.out.at_ 5 _ rfl
        go_wp2_with (first
          | (with_reducible refine wp_mload rfl (.tmp 1) rfl w.heap.size D rfl P.out ?_)
          | (with_reducible refine wp_mload rfl (.tmp 4) rfl w3.heap.size D1 rfl P4.out ?_)
          | (with_reducible refine wp_mload rfl (.tmp 5) rfl (w3.heap.size + 1) D2 rfl P5.out ?_)
          | (with_reducible refine wp_mload_g (by kernel_rfl) (.tmp 1) rfl w.heap.size D rfl P.out ?_)
          | (with_reducible refine wp_mload_g (by kernel_rfl) (.tmp 4) rfl w3.heap.size D1 rfl P4.out ?_)
          | (with_reducible refine wp_mload_g (by kernel_rfl) (.tmp 5) rfl (w3.heap.size + 1) D2 rfl P5.out ?_)
          | fail)
        refine (same_true (HK1.out 1 (by omega)).read.arg (HS1.out 1 (by omega)).read.arg trivial trivial rfl).mono ?_
        rintro e w7 ⟨rfl, hb⟩
        clear P4c3 P4c4 P4c5
        clear P5c3 P5c4 P5c5
        replace K := hid (K.out.trans (hb.out.mono K.out.size))
        replace P := hid (P.out.below hb.out P.out.lt)
        replace HM := hid (HM.out.below hb.out)
        replace HTb := hid (HTb.out.below hb.out HTb.out.lt)
        replace HK1 := hid (HK1.out.below hb.out)
        replace HS1 := hid (HS1.out.below hb.out)
        replace P4 := hid (P4.out.below hb.out P4.out.lt)
        replace P5 := hid (P5.out.below hb.out P5.out.lt)
        clear hb
        have P5c0 := P5.out.at_ 0 _ rfl
        have P5c1 := P5.out.at_ 1 _ rfl
        have P5c2 := P5.out.at_ 2 _ rfl
        have P5c3 := P5.out.at_ 3 _ rfl
        have P5c4 := P5.out.at_ 4 _ rfl
        have P5c5 := P5.out.at_ 5 _ rfl
        go_wp2_with (first
          | (with_reducible refine wp_mload rfl (.tmp 1) rfl w.heap.size D rfl P.out ?_)
          | (with_reducible refine wp_mload rfl (.tmp 4) rfl w3.heap.size D1 rfl P4.out ?_)
          | (with_reducible refine wp_mload rfl (.tmp 5) rfl (w3.heap.size + 1) D2 rfl P5.out ?_)
          | (with_reducible refine wp_mload_g (by kernel_rfl) (.tmp 1) rfl w.heap.size D rfl P.out ?_)
          | (with_reducible refine wp_mload_g (by kernel_rfl) (.tmp 4) rfl w3.heap.size D1 rfl P4.out ?_)
          | (with_reducible refine wp_mload_g (by kernel_rfl) (.tmp 5) rfl (w3.heap.size + 1) D2 rfl P5.out ?_)
          | fail)
        refine (msame_true HS1.out.mar (mar4 (HS1.out 0 (by omega)).read (HS1.out 1 (by omega)).read (Dyr.zero _) (Dyr.zero _)) (fun _ _ => trivial) all_true (all_of4 rfl rfl rfl rfl)).mono ?_
        rintro e w8 ⟨rfl, hb⟩
        replace K := hid (K.out.trans (hb.out.mono K.out.size))
        replace P := hid (P.out.below hb.out P.out.lt)
        replace HM := hid (HM.out.below hb.out)
        replace HTb := hid (HTb.out.below hb.out HTb.out.lt)
        replace HK1 := hid (HK1.out.below hb.out)
        replace HS1 := hid (HS1.out.below hb.out)
        replace P4 := hid (P4.out.below hb.out P4.out.lt)
        replace P5 := hid (P5.out.below hb.out P5.out.lt)
        clear P5c0 P5c1 P5c2 P5c3 P5c4 P5c5
        clear hb
        go_wp2
        go_ret
        exact ⟨rfl, K.out⟩
      · clear hno HE Hh
        replace HK1 := hid (show Mow w2.heap.size W3 (fun _ => 0) D1 from by have := HK1.out; rwa [resM_bad (by decide)] at this)
        replace HS1 := hid (show Mow w2.heap.size W3 (fun _ => 0) D2 from by have := HS1.out; rwa [resM_bad (by decide)] at this)
        go_wp2_with (first
          | (with_reducible refine wp_mload rfl (.tmp 1) rfl w.heap.size D rfl P.out ?_)
          | (with_reducible refine wp_mload rfl (.tmp 4) rfl w3.heap.size D1 rfl P4.out ?_)
          | (with_reducible refine wp_mload rfl (.tmp 5) rfl (w3.heap.size + 1) D2 rfl P5.out ?_)
          | (with_reducible refine wp_mload_g (by kernel_rfl) (.tmp 1) rfl w.heap.size D rfl P.out ?_)
          | (with_reducible refine wp_mload_g (by kernel_rfl) (.tmp 4) rfl w3.heap.size D1 rfl P4.out ?_)
          | (with_reducible refine wp_mload_g (by kernel_rfl) (.tmp 5) rfl (w3.heap.size + 1) D2 rfl P5.out ?_)
          | fail)
        refine HM.out.check.mono ?_
        rintro e w4 ⟨ec, rfl, Hec, hb⟩
        obtain rfl : ec = 0 := Hec.out.1 Hq.out
        replace K := hid (K.out.trans (hb.out.mono K.out.size))
        replace P := hid (P.out.below hb.out P.out.lt)
        replace HM := hid (HM.out.below hb.out)
        replace HTb := hid (HTb.out.below hb.out HTb.out.lt)
        replace HK1 := hid (HK1.out.below hb.out)
        replace HS1 := hid (HS1.out.below hb.out)
        replace P4 := hid (P4.out.below hb.out P4.out.lt)
        replace P5 := hid (P5.out.below hb.out P5.out.lt)
        clear hb Hec
        go_wp2_with (first
          | (with_reducible refine wp_mload rfl (.tmp 1) rfl w.heap.size D rfl P.out ?_)
          | (with_reducible refine wp_mload rfl (.tmp 4) rfl w3.heap.size D1 rfl P4.out ?_)
          | (with_reducible refine wp_mload rfl (.tmp 5) rfl (w3.heap.size + 1) D2 rfl P5.out ?_)
          | (with_reducible refine wp_mload_g (by kernel_rfl) (.tmp 1) rfl w.heap.size D rfl P.out ?_)
          | (with_reducible refine wp_mload_g (by kernel_rfl) (.tmp 4) rfl w3.heap.size D1 rfl P4.out ?_)
          | (with_reducible refine wp_mload_g (by kernel_rfl) (.tmp 5) rfl (w3.heap.size + 1) D2 rfl P5.out ?_)
          | fail)
        refine (msame_true HK1.out.mar (mar_zero _) (fun _ _ => trivial) (fun _ _ => trivial) (fun _ _ => rfl)).mono ?_
        rintro e w5 ⟨rfl, hb⟩
        replace K := hid (K.out.trans (hb.out.mono K.out.size))
        replace P := hid (P.out.below hb.out P.out.lt)
        replace HM := hid (HM.out.below hb.out)
        replace HTb := hid (HTb.out.below hb.out HTb.out.lt)
        replace HK1 := hid (HK1.out.below hb.out)
        replace HS1 := hid (HS1.out.below hb.out)
        replace P4 := hid (P4.out.below hb.out P4.out.lt)
        replace P5 := hid (P5.out.below hb.out P5.out.lt)
        clear hb
        go_wp2_with (first
          | (with_reducible refine wp_mload rfl (.tmp 1) rfl w.heap.size D rfl P.out ?_)
          | (with_reducible refine wp_mload rfl (.tmp 4) rfl w3.heap.size D1 rfl P4.out ?_)
          | (with_reducible refine wp_mload rfl (.tmp 5) rfl (w3.heap.size + 1) D2 rfl P5.out ?_)
          | (with_reducible refine wp_mload_g (by kernel_rfl) (.tmp 1) rfl w.heap.size D rfl P.out ?_)
          | (with_reducible refine wp_mload_g (by kernel_rfl) (.tmp 4) rfl w3.heap.size D1 rfl P4.out ?_)
          | (with_reducible refine wp_mload_g (by kernel_rfl) (.tmp 5) rfl (w3.heap.size + 1) D2 rfl P5.out ?_)
          | fail)
        refine (msame_true HS1.out.mar (mar_zero _) (fun _ _ => trivial) (fun _ _ => trivial) (fun _ _ => rfl)).mono ?_
        rintro e w6 ⟨rfl, hb⟩
        replace K := hid (K.out.trans (hb.out.mono K.out.size))
        replace P := hid (P.out.below hb.out P.out.lt)
        replace HM := hid (HM.out.below hb.out)
        replace HTb := hid (HTb.out.below hb.out HTb.out.lt)
        replace HK1 := hid (HK1.out.below hb.out)
        replace HS1 := hid (HS1.out.below hb.out)
        replace P4 := hid (P4.out.below hb.out P4.out.lt)
        replace P5 := hid (P5.out.below hb.out P5.out.lt)
        clear hb
        go_wp2
        go_ret
        exact ⟨rfl, K.out⟩
    · have Hn := hid hq
      obtain rfl : er = 8 := HE.out.2 Hn.out
      clear hq HE Hh
      replace HK1 := hid (show Mow w2.heap.size W3 (fun _ => 0) D1 from by have := HK1.out; rwa [resM_bad (by decide)] at this)
      replace HS1 := hid (show Mow w2.heap.size W3 (fun _ => 0) D2 from by have := HS1.out; rwa [resM_bad (by decide)] at this)
      go_wp2_with (first
        | (with_reducible refine wp_mload rfl (.tmp 1) rfl w.heap.size D rfl P.out ?_)
        | (with_reducible refine wp_mload rfl (.tmp 4) rfl w3.heap.size D1 rfl P4.out ?_)
        | (with_reducible refine wp_mload rfl (.tmp 5) rfl (w3.heap.size + 1) D2 rfl P5.out ?_)
        | (with_reducible refine wp_mload_g (by kernel_rfl) (.tmp 1) rfl w.heap.size D rfl P.out ?_)
        | (with_reducible refine wp_mload_g (by kernel_rfl) (.tmp 4) rfl w3.heap.size D1 rfl P4.out ?_)
        | (with_reducible refine wp_mload_g (by kernel_rfl) (.tmp 5) rfl (w3.heap.size + 1) D2 rfl P5.out ?_)
        | fail)
      refine HM.out.check.mono ?_
      rintro e w4 ⟨ec, rfl, Hec, hb⟩
      obtain rfl : ec = 8 := Hec.out.2 Hn.out
      replace K := hid (K.out.trans (hb.out.mono K.out.size))
      replace P := hid (P.out.below hb.out P.out.lt)
      replace HM := hid (HM.out.below hb.out)
      replace HTb := hid (HTb.out.below hb.out HTb.out.lt)
      replace HK1 := hid (HK1.out.below hb.out)
      replace HS1 := hid (HS1.out.below hb.out)
      replace P4 := hid (P4.out.below hb.out P4.out.lt)
      replace P5 := hid (P5.out.below hb.out P5.out.lt)
      clear hb Hec
      go_wp2_with (first
        | (with_reducible refine wp_mload rfl (.tmp 1) rfl w.heap.size D rfl P.out ?_)
        | (with_reducible refine wp_mload rfl (.tmp 4) rfl w3.heap.size D1 rfl P4.out ?_)
        | (with_reducible refine wp_mload rfl (.tmp 5) rfl (w3.heap.size + 1) D2 rfl P5.out ?_)
        | (with_reducible refine wp_mload_g (by kernel_rfl) (.tmp 1) rfl w.heap.size D rfl P.out ?_)
        | (with_reducible refine wp_mload_g (by kernel_rfl) (.tmp 4) rfl w3.heap.size D1 rfl P4.out ?_)
        | (with_reducible refine wp_mload_g (by kernel_rfl) (.tmp 5) rfl (w3.heap.size + 1) D2 rfl P5.out ?_)
        | fail)
      refine (msame_true HK1.out.mar (mar_zero _) (fun _ _ => trivial) (fun _ _ => trivial) (fun _ _ => rfl)).mono ?_
      rintro e w5 ⟨rfl, hb⟩
      replace K := hid (K.out.trans (hb.out.mono K.out.size))
      replace P := hid (P.out.below hb.out P.out.lt)
      replace HM := hid (HM.out.below hb.out)
      replace HTb := hid (HTb.out.below hb.out HTb.out.lt)
      replace HK1 := hid (HK1.out.below hb.out)
      replace HS1 := hid (HS1.out.below hb.out)
      replace P4 := hid (P4.out.below hb.out P4.out.lt)
      replace P5 := hid (P5.out.below hb.out P5.out.lt)
      clear hb
      go_wp2_with (first
        | (with_reducible refine wp_mload rfl (.tmp 1) rfl w.heap.size D rfl P.out ?_)
        | (with_reducible refine wp_mload rfl (.tmp 4) rfl w3.heap.size D1 rfl P4.out ?_)
        | (with_reducible refine wp_mload rfl (.tmp 5) rfl (w3.heap.size + 1) D2 rfl P5.out ?_)
        | (with_reducible refine wp_mload_g (by kernel_rfl) (.tmp 1) rfl w.heap.size D rfl P.out ?_)
        | (with_reducible refine wp_mload_g (by kernel_rfl) (.tmp 4) rfl w3.heap.size D1 rfl P4.out ?_)
        | (with_reducible refine wp_mload_g (by kernel_rfl) (.tmp 5) rfl (w3.heap.size + 1) D2 rfl P5.out ?_)
        | fail)
      refine (msame_true HS1.out.mar (mar_zero _) (fun _ _ => trivial) (fun _ _ => trivial) (fun _ _ => rfl)).mono ?_
      rintro e w6 ⟨rfl, hb⟩
      replace K := hid (K.out.trans (hb.out.mono K.out.size))
      replace P := hid (P.out.below hb.out P.out.lt)
      replace HM := hid (HM.out.below hb.out)
      replace HTb := hid (HTb.out.below hb.out HTb.out.lt)
      replace HK1 := hid (HK1.out.below hb.out)
      replace HS1 := hid (HS1.out.below hb.out)
      replace P4 := hid (P4.out.below hb.out P4.out.lt)
      replace P5 := hid (P5.out.below hb.out P5.out.lt)
      clear hb
      go_wp2
      go_ret
      exact ⟨rfl, K.out⟩

end Go.Proofs.YtijcnabhpneaiaaDoor
