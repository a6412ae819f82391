/- FieldTight, walked. -/
import Derived.Test.YtndehapggbmndaaJrsame
import Derived.Deep.RegionHeld3
import Derived.StillTailTactics
namespace Go.Proofs.Ytndehapggbmndaa
open Go.RowKit

theorem str_self (xs : List Nat) : (str xs == str xs) = true := beq_self_eq_true (str xs).data
theorem str_selfn (xs : List Nat) : (str xs != str xs) = false := by
  show (!(str xs == str xs)) = false
  rw [str_self]
  rfl

/-- The boxes of two results, made ahead of a call, behind it. -/
abbrev ZR : Obj := .cells #[.slice none 0 0, .int .i64 0] 32
abbrev ZD : Obj := .cells #[.bool false, .slice none 0 0, .int .i64 0] 30
theorem box_r {X w' : World} (hb : Below (X.alloc (.cells #[.slice none 0 0, .int .i64 0] 32)).drew.heap.size (X.alloc (.cells #[.slice none 0 0, .int .i64 0] 32)).drew w') : Rbox w' 32 X.heap.size none 0 0 0 :=
  Rbox.below (show Rbox (X.alloc _).drew 32 X.heap.size none 0 0 0 from heap_alloc_new X _) hb (by show _ < (X.alloc _).heap.size; simp)
theorem box_d {X w' : World} (hb : Below (X.alloc (.cells #[.bool false, .slice none 0 0, .int .i64 0] 30)).drew.heap.size (X.alloc (.cells #[.bool false, .slice none 0 0, .int .i64 0] 30)).drew w') : Dbox w' X.heap.size false (.slice none 0 0) 0 :=
  Dbox.below (show Dbox (X.alloc _).drew X.heap.size false (.slice none 0 0) 0 from heap_alloc_new X _) hb (by show _ < (X.alloc _).heap.size; simp)
theorem box_rd {X w' : World} (hb : Below ((X.alloc (.cells #[.slice none 0 0, .int .i64 0] 32)).alloc (.cells #[.bool false, .slice none 0 0, .int .i64 0] 30)).drew.heap.size ((X.alloc (.cells #[.slice none 0 0, .int .i64 0] 32)).alloc (.cells #[.bool false, .slice none 0 0, .int .i64 0] 30)).drew w') : Rbox w' 32 X.heap.size none 0 0 0 ∧ Dbox w' (X.heap.size + 1) false (.slice none 0 0) 0 :=
  ⟨Rbox.below (Rbox.drew (Rbox.alloc (show Rbox (X.alloc _) 32 X.heap.size none 0 0 0 from heap_alloc_new X _) _)) hb (by show _ < ((X.alloc _).alloc _).heap.size; simp; omega), Dbox.below (Dbox.drew (heap_alloc2_new X _ _)) hb (by show _ < ((X.alloc _).alloc _).heap.size; simp)⟩
theorem box_dr {X w' : World} (hb : Below ((X.alloc (.cells #[.bool false, .slice none 0 0, .int .i64 0] 30)).alloc (.cells #[.slice none 0 0, .int .i64 0] 32)).drew.heap.size ((X.alloc (.cells #[.bool false, .slice none 0 0, .int .i64 0] 30)).alloc (.cells #[.slice none 0 0, .int .i64 0] 32)).drew w') : Dbox w' X.heap.size false (.slice none 0 0) 0 ∧ Rbox w' 32 (X.heap.size + 1) none 0 0 0 :=
  ⟨Dbox.below (Dbox.drew (Dbox.alloc (show Dbox (X.alloc _) X.heap.size false (.slice none 0 0) 0 from heap_alloc_new X _) _)) hb (by show _ < ((X.alloc _).alloc _).heap.size; simp; omega), Rbox.below (show Rbox ((X.alloc _).alloc _).drew 32 (X.heap.size + 1) none 0 0 0 from heap_alloc2_new X _ _) hb (by show _ < ((X.alloc _).alloc _).heap.size; simp)⟩

set_option maxRecDepth 100000 in
set_option maxHeartbeats 12800000 in
theorem ftight_walk {w : World} {A : Option Addr} {n c : Nat} {xs : List Nat} {p z : Int} (h : By w w.heap.size A n c xs) (hp : -9223372036854775808 ≤ p ∧ p ≤ 9223372036854775807) (hz : -9223372036854775808 ≤ z ∧ z ≤ 9223372036854775807) :
    Calls Try.prog 7 #[.agg #[.slice A n c, .int .i64 p], .int .i64 z] w fun e w' => e = .returned (.bool true) ∧ Below w.heap.size w w' := by
  have hn := h.max
  have hcap := h.cap
  obtain ⟨W, hW⟩ : ∃ W, W = w.alloc (.cells #[.slice A n c, .int .i64 p] 32) := ⟨_, rfl⟩
  have K := hid (show Below w.heap.size w W from hW ▸ (Below.refl w.heap.size w).alloc (Nat.le_refl _) _)
  have PR : Hid (Rbox W 32 w.heap.size A n c p) := hid (hW ▸ heap_alloc_new w _)
  have HX := hid ((h.below K.out).mono K.out.size)
  have HW := hid hW
  clear hW h
  go_enter Try.func7, Try.ntmps7
  go_upto_region 1 with fail
  rw [← HW.out]
  clear HW
  go_wp2_with fail
  refine (falive_any _).mono ?_
  rintro e w1 ⟨rfl, hb1⟩
  replace K := hid (K.out.trans (hb1.out.mono K.out.size))
  replace PR := hid (PR.out.below hb1.out PR.out.lt)
  replace HX := hid ((HX.out.below hb1.out).mono hb1.out.size)
  have PRc0 := PR.out.c0
  have PRc1 := PR.out.c1
  clear hb1
  by_cases hg : 3900 < n
  · go_wp2
    go_ret
    exact ⟨rfl, K.out⟩
  go_wp2_with fail
  refine (Dyad_any HX.out p).mono ?_
  rintro e w2 ⟨A2, n2, c2, p2, s2, D2, k2, d2, x2, e2, f2, rfl, he2, hX2, hp2, hM2, hV2, hz2, hb2⟩
  clear PRc0 PRc1
  replace K := hid (K.out.trans (hb2.out.mono K.out.size))
  replace PR := hid (PR.out.below hb2.out PR.out.lt)
  replace HX := hid ((HX.out.below hb2.out).mono hb2.out.size)
  have PRc0 := PR.out.c0
  have PRc1 := PR.out.c1
  replace hX2 := hid (hX2.out.mono hb2.out.size)
  replace hM2 := hid hM2.out.rd
  clear hb2
  go_upto_region 5 with fail
  obtain ⟨u2, hu⟩ : ∃ u, u = (w2.alloc (.cells #[.slice A2 n2 c2, .int .i64 p2] 32)).alloc (.cells #[.bool s2, .slice D2 k2 d2, .int .i64 x2] 30) := ⟨_, rfl⟩
  rw [← hu]
  have PA : Hid (Dbox u2 (w2.heap.size + 1) s2 (.slice D2 k2 d2) x2) := hid (hu ▸ heap_alloc2_new w2 _ _)
  have PX : Hid (Rbox u2 32 w2.heap.size A2 n2 c2 p2) := hid (hu ▸ (Below.heap_alloc _ _ _ (by simp)).trans (heap_alloc_new w2 _))
  have ha : Hid (Below w2.heap.size w2 u2) := hid (hu ▸ ((Below.refl w2.heap.size w2).alloc (Nat.le_refl _) _).alloc (by simp) _)
  clear hu
  clear PRc0 PRc1
  replace K := hid (K.out.trans (ha.out.mono K.out.size))
  replace PR := hid (PR.out.below ha.out PR.out.lt)
  replace HX := hid ((HX.out.below ha.out).mono ha.out.size)
  replace hX2 := hid ((hX2.out.below ha.out).mono ha.out.size)
  replace hM2 := hid ((hM2.out.below ha.out).mono ha.out.size)
  have PRc0 := PR.out.c0
  have PRc1 := PR.out.c1
  clear ha
  go_wp2_with fail
  refine (Number_any HX.out p z).mono ?_
  rintro e w3 ⟨A3, n3, c3, V3, e3, p3, rfl, he3, hX3, hp3, hV3, hb3⟩
  clear PRc0 PRc1
  replace K := hid (K.out.trans (hb3.out.mono K.out.size))
  replace PR := hid (PR.out.below hb3.out PR.out.lt)
  replace HX := hid ((HX.out.below hb3.out).mono hb3.out.size)
  replace hX2 := hid ((hX2.out.below hb3.out).mono hb3.out.size)
  replace hM2 := hid ((hM2.out.below hb3.out).mono hb3.out.size)
  replace PA := hid (PA.out.below hb3.out PA.out.lt)
  replace PX := hid (PX.out.below hb3.out PX.out.lt)
  have PRc0 := PR.out.c0
  have PRc1 := PR.out.c1
  have PAc0 := PA.out.c0
  have PAc1 := PA.out.c1
  have PAc2 := PA.out.c2
  have PXc0 := PX.out.c0
  have PXc1 := PX.out.c1
  clear hb3 hX3
  go_upto_region 6 with fail
  obtain ⟨u3, hu⟩ : ∃ u, u = w3.alloc (.cells #[.slice A3 n3 c3, .int .i64 p3] 32) := ⟨_, rfl⟩
  rw [← hu]
  have PY : Hid (Rbox u3 32 w3.heap.size A3 n3 c3 p3) := hid (hu ▸ heap_alloc_new w3 _)
  have ha : Hid (Below w3.heap.size w3 u3) := hid (hu ▸ (Below.refl w3.heap.size w3).alloc (Nat.le_refl _) _)
  clear hu
  clear PRc0 PRc1 PAc0 PAc1 PAc2 PXc0 PXc1
  replace K := hid (K.out.trans (ha.out.mono K.out.size))
  replace PR := hid (PR.out.below ha.out PR.out.lt)
  replace HX := hid ((HX.out.below ha.out).mono ha.out.size)
  replace hX2 := hid ((hX2.out.below ha.out).mono ha.out.size)
  replace hM2 := hid ((hM2.out.below ha.out).mono ha.out.size)
  replace PA := hid (PA.out.below ha.out PA.out.lt)
  replace PX := hid (PX.out.below ha.out PX.out.lt)
  have PRc0 := PR.out.c0
  have PRc1 := PR.out.c1
  have PAc0 := PA.out.c0
  have PAc1 := PA.out.c1
  have PAc2 := PA.out.c2
  have PXc0 := PX.out.c0
  have PXc1 := PX.out.c1
  have PYc0 := PY.out.c0
  have PYc1 := PY.out.c1
  clear ha
  by_cases h2 : e2 = 0
  case neg =>
    have hne2 : (e2 == 0) = false := by simpa using h2
    clear h2 hV2 hz2 he2 hp2
    by_cases h3 : e3 = 0
    case neg =>
      have hne : (e3 == 0) = false := by simpa using h3
      have hV0 : V3 = 0 := by rw [hV3.out, if_neg h3]
      have hp0 : p3 = 0 := by rw [hp3.out, if_neg h3]
      subst hV0 hp0
      clear h3
      go_wp2
      go_ret
      exact ⟨rfl, K.out⟩
    subst h3
    rw [if_pos rfl] at hp3 hV3
    have hE3 := he3.out
    have hq : 0 ≤ p ∧ p ≤ (n : Int) := by
      unfold nE at hE3
      split at hE3
      · cases hE3
      · rename_i h; exact Decidable.not_not.1 h
    obtain ⟨q, rfl⟩ : ∃ q : Nat, p = q := ⟨p.toNat, by omega⟩
    have hzk : 1 ≤ z ∧ z ≤ 8 ∧ (q : Int) + z ≤ n := by
      unfold nE at hE3
      rw [if_neg (fun h => h ⟨by omega, by omega⟩)] at hE3
      split at hE3
      · cases hE3
      · rename_i h1
        split at hE3
        · cases hE3
        · exact ⟨by omega, by omega, by omega⟩
    obtain ⟨k, rfl⟩ : ∃ k : Nat, z = k := ⟨z.toNat, by omega⟩
    rw [Int.toNat_natCast, Int.toNat_natCast] at hV3
    obtain ⟨b, off, rfl, hbB, -⟩ := HX.out.at_ (by omega)
    have hlen := HX.out.len
    obtain ⟨T, hT⟩ : ∃ T : Nat, T = q + k := ⟨_, rfl⟩
    have hpT : p3 = (T : Int) := by rw [hp3.out, hT]; omega
    subst hpT
    have hVl : V3 < 256 ^ k := by rw [hV3.out]; exact part_lt HX.out.lt (Nat.le_refl _)
    have hV64 : V3 ≤ 18446744073709551615 := by
      have h1 : (256 : Nat) ^ k ≤ 256 ^ 8 := Nat.pow_le_pow_right (by omega) (by omega)
      have h2 : (256 : Nat) ^ 8 = 18446744073709551616 := by decide
      omega
    have HE6 : Hid (pnE q V3 (k : Int) = 0) := hid (by unfold pnE; rw [if_neg (fun h => h ⟨by omega, by omega, by rw [Int.toNat_natCast]; exact hVl⟩), if_neg (by omega)])
    have HTT : Hid (xs.take q ++ be V3 k = xs.take T) := hid (by
      have e := be_bn (xs := (xs.drop q).take k) (fun x hx => take_mem HX.out.lt hx)
      rw [List.length_take, List.length_drop, hlen, Nat.min_eq_left (by omega), ← hV3.out] at e
      rw [e, ← List.take_add, hT])
    have HT := hid hT
    have hTn : T ≤ n := by omega
    have hq0 : (0 : Int) ≤ (q : Int) := by omega
    have hqc : (q : Int) ≤ (c : Int) := by omega
    clear hp3 hE3 he3 hVl hT
    go_wp2_with fail
    refine (PutNumber_any (HX.out.first q (by omega)) hV64 (k : Int)).mono ?_
    rintro e w6 ⟨A6, n6, c6, e6, rfl, he6, hO6, hn6, hb6⟩
    obtain rfl : e6 = 0 := he6.out.trans HE6.out
    have h6 := hO6.out.by_.2
    have hl6 := hn6.out
    rw [if_pos rfl, Int.toNat_natCast, HTT.out] at h6 hl6
    rw [List.length_take, hlen, Nat.min_eq_left hTn] at hl6
    subst hl6
    clear PRc0 PRc1 PAc0 PAc1 PAc2 PXc0 PXc1 PYc0 PYc1
    replace K := hid (K.out.trans (hb6.out.mono K.out.size))
    replace PR := hid (PR.out.below hb6.out PR.out.lt)
    replace HX := hid ((HX.out.below hb6.out).mono hb6.out.size)
    replace hX2 := hid ((hX2.out.below hb6.out).mono hb6.out.size)
    replace hM2 := hid ((hM2.out.below hb6.out).mono hb6.out.size)
    replace PA := hid (PA.out.below hb6.out PA.out.lt)
    replace PX := hid (PX.out.below hb6.out PX.out.lt)
    replace PY := hid (PY.out.below hb6.out PY.out.lt)
    have PRc0 := PR.out.c0
    have PRc1 := PR.out.c1
    have PAc0 := PA.out.c0
    have PAc1 := PA.out.c1
    have PAc2 := PA.out.c2
    have PXc0 := PX.out.c0
    have PXc1 := PX.out.c1
    have PYc0 := PY.out.c0
    have PYc1 := PY.out.c1
    replace h6 := hid h6
    clear hb6 hn6 hO6 he6
    go_upto_region 13 with fail
    have ha := hid ((Below.refl w6.heap.size w6).drew)
    clear PRc0 PRc1 PAc0 PAc1 PAc2 PXc0 PXc1 PYc0 PYc1
    replace K := hid (K.out.trans (ha.out.mono K.out.size))
    replace PR := hid (PR.out.below ha.out PR.out.lt)
    replace HX := hid ((HX.out.below ha.out).mono ha.out.size)
    replace hX2 := hid ((hX2.out.below ha.out).mono ha.out.size)
    replace hM2 := hid ((hM2.out.below ha.out).mono ha.out.size)
    replace PA := hid (PA.out.below ha.out PA.out.lt)
    replace PX := hid (PX.out.below ha.out PX.out.lt)
    replace PY := hid (PY.out.below ha.out PY.out.lt)
    replace h6 := hid ((h6.out.below ha.out).mono ha.out.size)
    have PRc0 := PR.out.c0
    have PRc1 := PR.out.c1
    have PAc0 := PA.out.c0
    have PAc1 := PA.out.c1
    have PAc2 := PA.out.c2
    have PXc0 := PX.out.c0
    have PXc1 := PX.out.c1
    have PYc0 := PY.out.c0
    have PYc1 := PY.out.c1
    clear ha
    have cvC := conv_any h6.out
    have cvD := conv_any (HX.out.first n6 hTn)
    have hT0 : (0 : Int) ≤ (n6 : Int) := by omega
    have hTc : (n6 : Int) ≤ (c : Int) := by omega
    have hadd : IntKind.i64.wrap ((q : Int) + (k : Int)) = (n6 : Int) := by rw [IntWalk.i64_in _ (by omega)]; have := HT.out; omega
    have hadd2 : (q : Int) + (k : Int) = (n6 : Int) := by have := HT.out; omega
    have hwr : IntKind.i64.wrap (n6 : Int) = (n6 : Int) := IntWalk.i64_in _ (by omega)
    generalize str (xs.take n6) = sx2 at *
    clear hq0 hqc hzk
    go_still_tail 25, (by kernel_rfl)
    go_wp2
    go_ret
    exact ⟨rfl, K.out⟩
  subst h2
  have hq : 0 ≤ p ∧ p ≤ (n : Int) := by
    have h1 := he2.out
    unfold dEr at h1
    split at h1
    · assumption
    · cases h1
  obtain ⟨q, rfl⟩ : ∃ q : Nat, p = q := ⟨p.toNat, by omega⟩
  have HD : Hid (dE (xs.drop q) = 0) := hid (by
    have h1 := he2.out
    unfold dEr at h1
    rw [if_pos hq, Int.toNat_natCast] at h1
    exact h1.symm)
  have hlen := HX.out.len
  have PS := put_so (fun y hy => HX.out.lt y (List.mem_of_mem_drop hy)) HD.out
  rw [List.length_drop, hlen] at PS
  obtain ⟨hl2, hm2, ht2⟩ := PS
  obtain ⟨b, off, rfl, hbB, -⟩ := HX.out.at_ (by omega)
  obtain ⟨hs2, hk2, hf2, hx2⟩ := hV2.out rfl
  rw [Int.toNat_natCast] at hs2 hk2 hf2 hx2
  rw [← hs2, ← hk2, ← hf2] at hm2 ht2
  rw [← hk2] at hl2
  obtain ⟨X, hX⟩ : ∃ X, X = expOf (xs.drop q) := ⟨_, rfl⟩
  rw [← hX] at hm2 ht2 hx2
  subst hx2
  obtain ⟨P, hP⟩ : ∃ P : Nat, P = q + (4 + 4 * k2) := ⟨_, rfl⟩
  have hp2' : p2 = (P : Int) := by
    rw [hp2.out, if_pos rfl, Int.toNat_natCast, ← hk2, hP]
    omega
  subst hp2'
  have HM2 := hid hm2
  have hk2' := hk2.symm
  have HT2 := hid ht2
  have HB := hid (begun (k := 4 + 4 * k2) HD.out (by rw [hk2]))
  have hPn : P ≤ n := by omega
  have hqP : q + 4 ≤ P := by omega
  have HP := hid hP
  have ht2' := ht2
  clear hV2 hz2 he2 hp2 hs2 hk2 hf2 hX ht2 hm2 hP hl2 hq HD
  have HTP : Hid (xs.take q ++ dtx s2 k2 f2 X = xs.take P) := hid (by rw [ht2', ← List.take_add, HP.out])
  go_upto_region 7 with fail
  have hcP : P ≤ c := by omega
  have hcq : q ≤ c := by omega
  have HE4 : Hid (pdE q s2 k2 f2 (X : Int) = 0) := hid (by unfold pdE; rw [if_neg (fun h => h HM2.out), if_neg (by have := HP.out; omega)])
  go_cut [12, 13] (fun v er wx => ∃ A4 c4, v = .slice A4 P c4 ∧ er = .int .i64 0 ∧ Hid (By wx wx.heap.size A4 P c4 (xs.take P)) ∧ Hid (Below u3.heap.size u3 wx))
  case first =>
    have CF : Hid (∀ w', Below u3.heap.size u3 w' → w'.cell? ⟨w.heap.size, 0, none⟩ = some (.slice (some ⟨b, off, none⟩) n c) ∧ w'.cell? ⟨w.heap.size, 1, none⟩ = some (.int .i64 (q : Int)) ∧ w'.cell? ⟨w2.heap.size + 1, 0, none⟩ = some (.bool s2) ∧ w'.cell? ⟨w2.heap.size + 1, 1, none⟩ = some (.slice D2 k2 d2) ∧ w'.cell? ⟨w2.heap.size + 1, 2, none⟩ = some (.int .i64 (X : Int))) :=
      fun w' hb => ⟨(PR.out.below hb PR.out.lt).c0, (PR.out.below hb PR.out.lt).c1, (PA.out.below hb PA.out.lt).c0, (PA.out.below hb PA.out.lt).c1, (PA.out.below hb PA.out.lt).c2⟩
    have HBz := hid ((Below.refl u3.heap.size u3).drew)
    have HY := hid (((HX.out.first q (by omega)).below HBz.out).mono HBz.out.size)
    have HR := hid ((hM2.out.below HBz.out).mono HBz.out.size)
    clear PR PA PX PY HX hX2
    go_region_held3 (fun w' => w'.cell? ⟨w.heap.size, 0, none⟩ = some (.slice (some ⟨b, off, none⟩) n c) ∧ w'.cell? ⟨w.heap.size, 1, none⟩ = some (.int .i64 (q : Int)) ∧ w'.cell? ⟨w2.heap.size + 1, 0, none⟩ = some (.bool s2) ∧ w'.cell? ⟨w2.heap.size + 1, 1, none⟩ = some (.slice D2 k2 d2) ∧ w'.cell? ⟨w2.heap.size + 1, 2, none⟩ = some (.int .i64 (X : Int)))
      (exact CF.out _ HBz.out)
      (first
      | (go_at_call 9
         refine (PutDyad_any HY.out HR.out).mono ?_
         rintro e w4 ⟨A4, n4, c4, e4, rfl, he4, hO4, hn4, hb4⟩
         have HBz := hid (HBz.out.trans (hb4.out.mono HBz.out.size))))
    all_goals
      obtain rfl : e4 = 0 := he4.out.trans HE4.out
      have h4 := hO4.out.by_.2
      have hl4 := hn4.out
      rw [if_pos rfl, Int.toNat_natCast, HTP.out] at h4 hl4
      rw [List.length_take, hlen, Nat.min_eq_left hPn] at hl4
      subst hl4
      go_wp2_with fail
      go_meet
      exact ⟨A4, c4, rfl, rfl, hid h4, HBz⟩
  obtain ⟨A4, c4, rfl, rfl, HY4, hb4⟩ := hcut
  clear PRc0 PRc1 PAc0 PAc1 PAc2 PXc0 PXc1 PYc0 PYc1
  replace K := hid (K.out.trans (hb4.out.mono K.out.size))
  replace PR := hid (PR.out.below hb4.out PR.out.lt)
  replace HX := hid ((HX.out.below hb4.out).mono hb4.out.size)
  replace hX2 := hid ((hX2.out.below hb4.out).mono hb4.out.size)
  replace hM2 := hid ((hM2.out.below hb4.out).mono hb4.out.size)
  replace PA := hid (PA.out.below hb4.out PA.out.lt)
  replace PX := hid (PX.out.below hb4.out PX.out.lt)
  replace PY := hid (PY.out.below hb4.out PY.out.lt)
  have PRc0 := PR.out.c0
  have PRc1 := PR.out.c1
  have PAc0 := PA.out.c0
  have PAc1 := PA.out.c1
  have PAc2 := PA.out.c2
  have PXc0 := PX.out.c0
  have PXc1 := PX.out.c1
  have PYc0 := PY.out.c0
  have PYc1 := PY.out.c1
  clear hb4 HE4
  obtain ⟨R, hR⟩ : ∃ R, P = R + 1 := ⟨P - 1, by omega⟩
  have hR1 : (P : Int) - 1 = (R : Int) := by omega
  have hR2 : IntKind.i64.wrap ((P : Int) - 1) = (R : Int) := by rw [IntWalk.i64_in _ (by omega)]; omega
  have hR5 : IntKind.i64.wrap (R : Int) = (R : Int) := IntWalk.i64_in _ (by omega)
  have hRc : R ≤ c := by omega
  have hR0 : (0 : Int) ≤ (R : Int) := by omega
  have HE5 : Hid (dEr R (xs.take R) (q : Int) = 40) := hid (by
    unfold dEr
    rw [if_pos (by omega), Int.toNat_natCast, List.drop_take, show R - q = 4 + 4 * k2 - 1 by have := HP.out; omega]
    exact HB.out)
  have HRR := hid hR
  clear hR
  go_upto_region 8 with fail
  go_cut [16] (fun er wx => er = .int .i64 40 ∧ Hid (Below wc.heap.size wc wx))
  case first =>
    have CF : Hid (∀ w', Below wc.heap.size wc w' → w'.cell? ⟨w.heap.size, 0, none⟩ = some (.slice (some ⟨b, off, none⟩) n c) ∧ w'.cell? ⟨w.heap.size, 1, none⟩ = some (.int .i64 (q : Int)) ∧ w'.cell? ⟨w2.heap.size, 1, none⟩ = some (.int .i64 (P : Int))) :=
      fun w' hb => ⟨(PR.out.below hb PR.out.lt).c0, (PR.out.below hb PR.out.lt).c1, (PX.out.below hb PX.out.lt).c1⟩
    have HBz := hid ((Below.refl wc.heap.size wc).drew)
    have HB0 := hid (Below.refl wc.heap.size wc)
    have CD := hid (fun (w' : World) (hb : Below wc.heap.size wc w') => Dyad_any (((HX.out.first R (by omega)).below hb).mono hb.size) (q : Int))
    clear PR PA PX PY HX hX2 HY4
    go_region_held3 (fun w' => w'.cell? ⟨w.heap.size, 0, none⟩ = some (.slice (some ⟨b, off, none⟩) n c) ∧ w'.cell? ⟨w.heap.size, 1, none⟩ = some (.int .i64 (q : Int)) ∧ w'.cell? ⟨w2.heap.size, 1, none⟩ = some (.int .i64 (P : Int)))
      ((refine CF.out _ ?_; repeat' (first | with_reducible exact HBz.out | with_reducible refine Below.setCell ?_ ?_ _ | with_reducible refine Below.alloc ?_ ?_ _ | with_reducible refine Below.drew ?_ | with_reducible exact Below.refl _ _ | with_reducible exact Nat.le_refl _ | with_reducible exact HBz.out.size | (simp; done) | (simp; have := HBz.out.size; omega))))
      (first
      | (go_at_call 11
         first
           | with_reducible refine (CD.out _ HBz.out).mono ?_
           | with_reducible refine (CD.out _ (HB0.out.alloc HB0.out.size _).drew).mono ?_
           | with_reducible refine (CD.out _ ((HB0.out.alloc HB0.out.size _).alloc (HB0.out.alloc HB0.out.size _).size _).drew).mono ?_
         rintro e w5 ⟨A5, n5, c5, p5, s5, D5, k5, d5, x5, e5, f5, rfl, he5, hX5, hp5, hM5, hV5, hz5, hb5⟩
         obtain rfl : e5 = 40 := he5.out.trans HE5.out
         have HBz := hid (by first | with_reducible exact HBz.out.trans (hb5.out.mono HBz.out.size) | with_reducible exact (HB0.out.alloc HB0.out.size _).drew.trans (hb5.out.mono (HB0.out.alloc HB0.out.size _).drew.size) | with_reducible exact ((HB0.out.alloc HB0.out.size _).alloc (HB0.out.alloc HB0.out.size _).size _).drew.trans (hb5.out.mono ((HB0.out.alloc HB0.out.size _).alloc (HB0.out.alloc HB0.out.size _).size _).drew.size))
         first
           | (have QQ := (by with_reducible exact box_rd hb5.out); obtain ⟨QR, QD⟩ := QQ
              have rf0 := QR.frozen 0; have rc0 := QR.c0; have rf1 := QR.frozen 1; have rc1 := QR.c1
              have df0 := QD.frozen 0; have dc0 := QD.c0; have df1 := QD.frozen 1; have dc1 := QD.c1; have df2 := QD.frozen 2; have dc2 := QD.c2)
           | (have QQ := (by with_reducible exact box_dr hb5.out); obtain ⟨QD, QR⟩ := QQ
              have rf0 := QR.frozen 0; have rc0 := QR.c0; have rf1 := QR.frozen 1; have rc1 := QR.c1
              have df0 := QD.frozen 0; have dc0 := QD.c0; have df1 := QD.frozen 1; have dc1 := QD.c1; have df2 := QD.frozen 2; have dc2 := QD.c2)
           | (have QR := (by with_reducible exact box_r hb5.out)
              have hlt := QR.lt; have hn1 := Nat.ne_of_lt hlt; have hn2 := Nat.ne_of_gt hlt
              have T : Dbox (w5.alloc (.cells #[.bool false, .slice none 0 0, .int .i64 0] 30)) w5.heap.size false (.slice none 0 0) 0 := heap_alloc_new w5 _
              have rf0 := QR.frozen 0; have rc0 := QR.c0; have rf1 := QR.frozen 1; have rc1 := QR.c1
              have sf0 := fun o => (QR.alloc o).frozen 0; have sc0 := fun o => (QR.alloc o).c0; have sf1 := fun o => (QR.alloc o).frozen 1; have sc1 := fun o => (QR.alloc o).c1
              have tf0 := T.frozen 0; have tc0 := T.c0; have tf1 := T.frozen 1; have tc1 := T.c1; have tf2 := T.frozen 2; have tc2 := T.c2)
           | (have QD := (by with_reducible exact box_d hb5.out)
              have hlt := QD.lt; have hn1 := Nat.ne_of_lt hlt; have hn2 := Nat.ne_of_gt hlt
              have T : Rbox (w5.alloc (.cells #[.slice none 0 0, .int .i64 0] 32)) 32 w5.heap.size none 0 0 0 := heap_alloc_new w5 _
              have df0 := QD.frozen 0; have dc0 := QD.c0; have df1 := QD.frozen 1; have dc1 := QD.c1; have df2 := QD.frozen 2; have dc2 := QD.c2
              have ef0 := fun o => (QD.alloc o).frozen 0; have ec0 := fun o => (QD.alloc o).c0; have ef1 := fun o => (QD.alloc o).frozen 1; have ec1 := fun o => (QD.alloc o).c1; have ef2 := fun o => (QD.alloc o).frozen 2; have ec2 := fun o => (QD.alloc o).c2
              have tf0 := T.frozen 0; have tc0 := T.c0; have tf1 := T.frozen 1; have tc1 := T.c1)
           | (have S1 : ∀ o, Rbox ((w5.alloc (.cells #[.slice none 0 0, .int .i64 0] 32)).alloc o) 32 w5.heap.size none 0 0 0 := fun o => Rbox.alloc (show Rbox (w5.alloc _) 32 w5.heap.size none 0 0 0 from heap_alloc_new w5 _) _
              have S2 : ∀ o, Dbox ((w5.alloc o).alloc (.cells #[.bool false, .slice none 0 0, .int .i64 0] 30)) (w5.heap.size + 1) false (.slice none 0 0) 0 := fun o => heap_alloc2_new w5 _ _
              have S3 : ∀ o, Dbox ((w5.alloc (.cells #[.bool false, .slice none 0 0, .int .i64 0] 30)).alloc o) w5.heap.size false (.slice none 0 0) 0 := fun o => Dbox.alloc (show Dbox (w5.alloc _) w5.heap.size false (.slice none 0 0) 0 from heap_alloc_new w5 _) _
              have S4 : ∀ o, Rbox ((w5.alloc o).alloc (.cells #[.slice none 0 0, .int .i64 0] 32)) 32 (w5.heap.size + 1) none 0 0 0 := fun o => heap_alloc2_new w5 _ _
              have rf0 := fun o => (S1 o).frozen 0; have rc0 := fun o => (S1 o).c0; have rf1 := fun o => (S1 o).frozen 1; have rc1 := fun o => (S1 o).c1
              have df0 := fun o => (S2 o).frozen 0; have dc0 := fun o => (S2 o).c0; have df1 := fun o => (S2 o).frozen 1; have dc1 := fun o => (S2 o).c1; have df2 := fun o => (S2 o).frozen 2; have dc2 := fun o => (S2 o).c2
              have ef0 := fun o => (S3 o).frozen 0; have ec0 := fun o => (S3 o).c0; have ef1 := fun o => (S3 o).frozen 1; have ec1 := fun o => (S3 o).c1; have ef2 := fun o => (S3 o).frozen 2; have ec2 := fun o => (S3 o).c2
              have sf0 := fun o => (S4 o).frozen 0; have sc0 := fun o => (S4 o).c0; have sf1 := fun o => (S4 o).frozen 1; have sc1 := fun o => (S4 o).c1)))
    all_goals
      clear CF CD
      go_wp2_with fail
      go_meet
      refine ⟨rfl, hid ?_⟩
      repeat' (first | with_reducible exact HBz.out | with_reducible refine Below.setCell ?_ ?_ _ | with_reducible refine Below.alloc ?_ ?_ _ | with_reducible refine Below.drew ?_ | with_reducible exact Below.refl _ _ | with_reducible exact Nat.le_refl _ | with_reducible exact HBz.out.size | (have := HBz.out.size; simp; omega) | (simp; done))
  obtain ⟨rfl, hb5⟩ := hcut
  clear PRc0 PRc1 PAc0 PAc1 PAc2 PXc0 PXc1 PYc0 PYc1
  replace K := hid (K.out.trans (hb5.out.mono K.out.size))
  replace PR := hid (PR.out.below hb5.out PR.out.lt)
  replace HX := hid ((HX.out.below hb5.out).mono hb5.out.size)
  replace hX2 := hid ((hX2.out.below hb5.out).mono hb5.out.size)
  replace hM2 := hid ((hM2.out.below hb5.out).mono hb5.out.size)
  replace PA := hid (PA.out.below hb5.out PA.out.lt)
  replace PX := hid (PX.out.below hb5.out PX.out.lt)
  replace PY := hid (PY.out.below hb5.out PY.out.lt)
  replace HY4 := hid ((HY4.out.below hb5.out).mono hb5.out.size)
  have PRc0 := PR.out.c0
  have PRc1 := PR.out.c1
  have PAc0 := PA.out.c0
  have PAc1 := PA.out.c1
  have PAc2 := PA.out.c2
  have PXc0 := PX.out.c0
  have PXc1 := PX.out.c1
  have PYc0 := PY.out.c0
  have PYc1 := PY.out.c1
  clear hb5 HE5
  have ha := hid ((Below.refl wc.heap.size wc).drew)
  go_upto_region 9 with fail
  clear PRc0 PRc1 PAc0 PAc1 PAc2 PXc0 PXc1 PYc0 PYc1
  replace K := hid (K.out.trans (ha.out.mono K.out.size))
  replace PR := hid (PR.out.below ha.out PR.out.lt)
  replace HX := hid ((HX.out.below ha.out).mono ha.out.size)
  replace hX2 := hid ((hX2.out.below ha.out).mono ha.out.size)
  replace hM2 := hid ((hM2.out.below ha.out).mono ha.out.size)
  replace PA := hid (PA.out.below ha.out PA.out.lt)
  replace PX := hid (PX.out.below ha.out PX.out.lt)
  replace PY := hid (PY.out.below ha.out PY.out.lt)
  replace HY4 := hid ((HY4.out.below ha.out).mono ha.out.size)
  have PRc0 := PR.out.c0
  have PRc1 := PR.out.c1
  have PAc0 := PA.out.c0
  have PAc1 := PA.out.c1
  have PAc2 := PA.out.c2
  have PXc0 := PX.out.c0
  have PXc1 := PX.out.c1
  have PYc0 := PY.out.c0
  have PYc1 := PY.out.c1
  clear ha
  have cvA := conv_any HY4.out
  have cvB := conv_any (HX.out.first P hPn)
  have hle : ¬ (P : Int) ≤ (q : Int) := by omega
  have hle2 : (P : Int) ≤ (c : Int) := by omega
  have hP0 : (0 : Int) ≤ (P : Int) := by omega
  generalize str (xs.take P) = sx at *
  rw [if_pos rfl] at hX2
  go_still_tail 31, (by kernel_rfl)
  go_wp2_with fail
  refine (frsame_any hX2.out HX.out).mono ?_
  rw [bool_of_dec ⟨rfl, rfl⟩]
  rintro e w7 ⟨rfl, hb7⟩
  clear PRc0 PRc1 PAc0 PAc1 PAc2 PXc0 PXc1 PYc0 PYc1
  replace K := hid (K.out.trans (hb7.out.mono K.out.size))
  replace PR := hid (PR.out.below hb7.out PR.out.lt)
  replace HX := hid ((HX.out.below hb7.out).mono hb7.out.size)
  replace hX2 := hid ((hX2.out.below hb7.out).mono hb7.out.size)
  replace hM2 := hid ((hM2.out.below hb7.out).mono hb7.out.size)
  replace PA := hid (PA.out.below hb7.out PA.out.lt)
  replace PX := hid (PX.out.below hb7.out PX.out.lt)
  replace PY := hid (PY.out.below hb7.out PY.out.lt)
  replace HY4 := hid ((HY4.out.below hb7.out).mono hb7.out.size)
  have PRc0 := PR.out.c0
  have PRc1 := PR.out.c1
  have PAc0 := PA.out.c0
  have PAc1 := PA.out.c1
  have PAc2 := PA.out.c2
  have PXc0 := PX.out.c0
  have PXc1 := PX.out.c1
  have PYc0 := PY.out.c0
  have PYc1 := PY.out.c1
  clear hb7 cvA cvB hle hle2 hP0
  by_cases h3 : e3 = 0
  case neg =>
    have hne : (e3 == 0) = false := by simpa using h3
    have hV0 : V3 = 0 := by rw [hV3.out, if_neg h3]
    have hp0 : p3 = 0 := by rw [hp3.out, if_neg h3]
    subst hV0 hp0
    clear h3
    go_wp2
    go_ret
    exact ⟨rfl, K.out⟩
  subst h3
  rw [if_pos rfl] at hp3 hV3
  have hE3 := he3.out
  have hzk : 1 ≤ z ∧ z ≤ 8 ∧ (q : Int) + z ≤ n := by
    unfold nE at hE3
    rw [if_neg (fun h => h ⟨by omega, by omega⟩)] at hE3
    split at hE3
    · cases hE3
    · rename_i h1
      split at hE3
      · cases hE3
      · exact ⟨by omega, by omega, by omega⟩
  obtain ⟨k, rfl⟩ : ∃ k : Nat, z = k := ⟨z.toNat, by omega⟩
  rw [Int.toNat_natCast, Int.toNat_natCast] at hV3
  obtain ⟨T, hT⟩ : ∃ T : Nat, T = q + k := ⟨_, rfl⟩
  have hpT : p3 = (T : Int) := by rw [hp3.out, hT]; omega
  subst hpT
  have hVl : V3 < 256 ^ k := by rw [hV3.out]; exact part_lt HX.out.lt (Nat.le_refl _)
  have hV64 : V3 ≤ 18446744073709551615 := by
    have h1 : (256 : Nat) ^ k ≤ 256 ^ 8 := Nat.pow_le_pow_right (by omega) (by omega)
    have h2 : (256 : Nat) ^ 8 = 18446744073709551616 := by decide
    omega
  have HE6 : Hid (pnE q V3 (k : Int) = 0) := hid (by unfold pnE; rw [if_neg (fun h => h ⟨by omega, by omega, by rw [Int.toNat_natCast]; exact hVl⟩), if_neg (by omega)])
  have HTT : Hid (xs.take q ++ be V3 k = xs.take T) := hid (by
    have e := be_bn (xs := (xs.drop q).take k) (fun x hx => take_mem HX.out.lt hx)
    rw [List.length_take, List.length_drop, hlen, Nat.min_eq_left (by omega), ← hV3.out] at e
    rw [e, ← List.take_add, hT])
  have HT := hid hT
  have hTn : T ≤ n := by omega
  have hq0 : (0 : Int) ≤ (q : Int) := by omega
  have hqc : (q : Int) ≤ (c : Int) := by omega
  clear hp3 hE3 he3 hVl hT
  go_wp2_with fail
  refine (PutNumber_any (HX.out.first q (by omega)) hV64 (k : Int)).mono ?_
  rintro e w6 ⟨A6, n6, c6, e6, rfl, he6, hO6, hn6, hb6⟩
  obtain rfl : e6 = 0 := he6.out.trans HE6.out
  have h6 := hO6.out.by_.2
  have hl6 := hn6.out
  rw [if_pos rfl, Int.toNat_natCast, HTT.out] at h6 hl6
  rw [List.length_take, hlen, Nat.min_eq_left hTn] at hl6
  subst hl6
  clear PRc0 PRc1 PAc0 PAc1 PAc2 PXc0 PXc1 PYc0 PYc1
  replace K := hid (K.out.trans (hb6.out.mono K.out.size))
  replace PR := hid (PR.out.below hb6.out PR.out.lt)
  replace HX := hid ((HX.out.below hb6.out).mono hb6.out.size)
  replace hX2 := hid ((hX2.out.below hb6.out).mono hb6.out.size)
  replace hM2 := hid ((hM2.out.below hb6.out).mono hb6.out.size)
  replace PA := hid (PA.out.below hb6.out PA.out.lt)
  replace PX := hid (PX.out.below hb6.out PX.out.lt)
  replace PY := hid (PY.out.below hb6.out PY.out.lt)
  replace HY4 := hid ((HY4.out.below hb6.out).mono hb6.out.size)
  have PRc0 := PR.out.c0
  have PRc1 := PR.out.c1
  have PAc0 := PA.out.c0
  have PAc1 := PA.out.c1
  have PAc2 := PA.out.c2
  have PXc0 := PX.out.c0
  have PXc1 := PX.out.c1
  have PYc0 := PY.out.c0
  have PYc1 := PY.out.c1
  replace h6 := hid h6
  clear hb6 hn6 hO6 he6
  go_upto_region 13 with fail
  have ha := hid ((Below.refl w6.heap.size w6).drew)
  clear PRc0 PRc1 PAc0 PAc1 PAc2 PXc0 PXc1 PYc0 PYc1
  replace K := hid (K.out.trans (ha.out.mono K.out.size))
  replace PR := hid (PR.out.below ha.out PR.out.lt)
  replace HX := hid ((HX.out.below ha.out).mono ha.out.size)
  replace hX2 := hid ((hX2.out.below ha.out).mono ha.out.size)
  replace hM2 := hid ((hM2.out.below ha.out).mono ha.out.size)
  replace PA := hid (PA.out.below ha.out PA.out.lt)
  replace PX := hid (PX.out.below ha.out PX.out.lt)
  replace PY := hid (PY.out.below ha.out PY.out.lt)
  replace HY4 := hid ((HY4.out.below ha.out).mono ha.out.size)
  replace h6 := hid ((h6.out.below ha.out).mono ha.out.size)
  have PRc0 := PR.out.c0
  have PRc1 := PR.out.c1
  have PAc0 := PA.out.c0
  have PAc1 := PA.out.c1
  have PAc2 := PA.out.c2
  have PXc0 := PX.out.c0
  have PXc1 := PX.out.c1
  have PYc0 := PY.out.c0
  have PYc1 := PY.out.c1
  clear ha
  have cvC := conv_any h6.out
  have cvD := conv_any (HX.out.first n6 hTn)
  have hT0 : (0 : Int) ≤ (n6 : Int) := by omega
  have hTc : (n6 : Int) ≤ (c : Int) := by omega
  have hadd : IntKind.i64.wrap ((q : Int) + (k : Int)) = (n6 : Int) := by rw [IntWalk.i64_in _ (by omega)]; have := HT.out; omega
  have hadd2 : (q : Int) + (k : Int) = (n6 : Int) := by have := HT.out; omega
  have hwr : IntKind.i64.wrap (n6 : Int) = (n6 : Int) := IntWalk.i64_in _ (by omega)
  generalize str (xs.take n6) = sx2 at *
  clear hq0 hqc hzk
  go_still_tail 25, (by kernel_rfl)
  go_wp2
  go_ret
  exact ⟨rfl, K.out⟩

end Go.Proofs.Ytndehapggbmndaa
