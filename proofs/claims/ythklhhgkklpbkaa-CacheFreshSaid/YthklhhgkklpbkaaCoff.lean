/- CacheOffers, walked, over the contracts of the program's Offer, Merge, Same, Check. -/
import Derived.Test.YthklhhgkklpbkaaConce
namespace Go.Proofs.Ythklhhgkklpbkaa
open Go.RowKit Go.Shelf Go.Lib

def OfferOk : Prop := ∀ (w : World) (o p now : Int) (B n c : Nat) (A : Option Addr) (l : List De), Ds w B A n c l → B ≤ w.heap.size →
    Calls Try.prog 10 #[cav o p (.slice A n c), .int .i64 now] w fun e w' => ∃ A' n' c', e = .returned (.tuple #[.slice A' n' c', .int .i64 (ofE o p now l)]) ∧ Hid (Ds w' w'.heap.size A' n' c' (ofL o p now l) ∧ Below w.heap.size w w' ∧ ∀ a, A' = some a → w.heap.size ≤ a.block)
def CheckOk : Prop := ∀ (w : World) (o p : Int) (B n c : Nat) (A : Option Addr) (l : List De), Ds w B A n c l → B ≤ w.heap.size →
    Calls Try.prog 13 #[cav o p (.slice A n c)] w fun e w' => e = .returned (.int .i64 (cchk o p l)) ∧ Hid (Below w.heap.size w w')

theorem off_bad {o p now x : Int} {l : List De} (h : ofE o p now l = x) (hx : x ≠ 0) : ofL o p now l = [] := by
  unfold ofL
  rw [h, if_neg hx]
theorem off_good {o p now : Int} {l : List De} (h : ofE o p now l = 0) : CMay o p l ∧ 0 ≤ now ∧ now ≤ 2147483647 ∧ ofL o p now l = tld o now l := by
  have hL : ofL o p now l = tld o now l := by unfold ofL; rw [if_pos h]
  unfold ofE at h
  split at h
  · next h1 =>
    split at h
    · omega
    · next h2 => exact ⟨h1, by omega, by omega, hL⟩
  · omega
/-- One that has been told is known, as fresh, by whoever keeps any of its node. -/
theorem kept_fresh {o o' : Int} {cap : Nat} {l m : List De} {now : Int} (hd : (o, now) ∈ m) (hne : o ≠ o') {x : De} (hx : x ∈ tkn o' cap l m) (hi : x.1 = o) : now ≤ x.2 :=
  (mem_top.1 (mem_kp.1 hx).1).2 (o, now) (mem_oth.2 ⟨List.mem_append_right _ hd, hne⟩) hi.symm
theorem may_len {o p : Int} {l : List De} (h : CMay o p l) : l.length ≤ 6 := by
  obtain ⟨_, _, _, h4, h5, _⟩ := h
  omega

set_option maxHeartbeats 12800000 in
set_option maxRecDepth 100000 in
theorem offers_walk (CA : AliveOk) (DF : OfferOk) (DM : MergeOk) (DS : SameOk) (DK : CheckOk) {w : World} {nc cc nd cd : Nat} {Ac Ad : Option Addr} {k k' : List De} (o p o' p' now : Int) (hc : Ds w w.heap.size Ac nc cc k) (hd : Ds w w.heap.size Ad nd cd k') :
    Calls Try.prog 7 #[cav o p (.slice Ac nc cc), cav o' p' (.slice Ad nd cd), .int .i64 now] w fun e w' => e = .returned (.bool true) ∧ Below w.heap.size w w' := by
  have mixed : Try.prog.follows .mixedOrders = true := by kernel_rfl
  have HL := hid hc.len
  have HM := hid hd.len
  have hcap := hc.cap
  have hcap2 := hd.cap
  obtain ⟨W0, hW⟩ : ∃ W, W = (w.alloc (.cells #[.int .i64 o, .int .i64 p, .slice Ac nc cc] 24)).alloc (.cells #[.int .i64 o', .int .i64 p', .slice Ad nd cd] 24) := ⟨_, rfl⟩
  have B0 := hid (show Below w.heap.size w W0 from hW ▸ ((Below.refl _ w).alloc (Nat.le_refl _) _).alloc (by simp) _)
  have X0 := hid (show Cbox W0 w.heap.size o p (.slice Ac nc cc) from hW ▸ heap2_0 w _ _)
  have Y0 := hid (show Cbox W0 (w.heap.size + 1) o' p' (.slice Ad nd cd) from hW ▸ heap2_1 w _ _)
  have D0 := hid ((hc.below B0.out).mono B0.out.size)
  have E0 := hid ((hd.below B0.out).mono B0.out.size)
  have HW := hid hW
  clear hW hc hd
  unfold cav
  obtain ⟨x, hx⟩ : ∃ x, x = ofE o p now k := ⟨_, rfl⟩
  by_cases hx0 : x = 0
  case neg =>
    have e1 := off_bad hx.symm hx0
    have He := hid (And.intro hx.symm e1)
    clear hx e1
    go_enter Try.func7, Try.ntmps7
    go_upto_region 1 with fail
    rw [← HW.out]
    clear HW
    go_wp2_with fail
    refine (CA _).mono ?_
    rintro e w1 ⟨rfl, Bn⟩
    have X0' := hid (X0.out.below Bn.out X0.out.lt)
    clear X0
    have X0 := X0'
    clear X0'
    have Y0' := hid (Y0.out.below Bn.out Y0.out.lt)
    clear Y0
    have Y0 := Y0'
    clear Y0'
    have D0' := hid ((D0.out.below Bn.out).mono Bn.out.size)
    clear D0
    have D0 := D0'
    clear D0'
    have E0' := hid ((E0.out.below Bn.out).mono Bn.out.size)
    clear E0
    have E0 := E0'
    clear E0'
    have B1 := hid (B0.out.trans (Bn.out.mono B0.out.size))
    clear B0
    clear Bn
    have x3_0 := X0.out.c0
    have x3_1 := X0.out.c1
    have x3_2 := X0.out.c2
    have hM2 := hid (DF w1 o p now _ _ _ _ _ D0.out (Nat.le_refl _))
    rw [He.out.1, He.out.2] at hM2
    unfold cav at hM2
    go_wp2_with fail
    refine hM2.out.mono ?_
    rintro e w2 ⟨A2, n2, c2, rfl, hv2⟩
    clear hM2 x3_0 x3_1 x3_2
    have DL := hid hv2.out.1
    have Bn2 := hid hv2.out.2.1
    clear hv2
    have X0' := hid (X0.out.below Bn2.out X0.out.lt)
    clear X0
    have X0 := X0'
    clear X0'
    have Y0' := hid (Y0.out.below Bn2.out Y0.out.lt)
    clear Y0
    have Y0 := Y0'
    clear Y0'
    have D0' := hid ((D0.out.below Bn2.out).mono Bn2.out.size)
    clear D0
    have D0 := D0'
    clear D0'
    have E0' := hid ((E0.out.below Bn2.out).mono Bn2.out.size)
    clear E0
    have E0 := E0'
    clear E0'
    have B3 := hid (B1.out.trans (Bn2.out.mono B1.out.size))
    clear B1
    clear Bn2
    have hn0 := DL.out.len
    obtain rfl : n2 = 0 := by simpa using hn0.symm
    clear hn0
    go_wp2_with fail
    go_ret
    exact ⟨rfl, B3.out⟩
  subst hx0
  obtain ⟨z1, z2, z3, z4⟩ := off_good hx.symm
  have hk6 := may_len z1
  have zc := chk_tld z1 z2 z3
  have zl := tld_length o now k
  have zt := tkn_tld (now := now) z1
  obtain ⟨a1, a2, a3, a4⟩ := mg_good z1 zc (by omega)
  rw [zt] at a4
  have hmem : (o, now) ∈ tld o now k := mem_tld.2 (.inl rfl)
  obtain ⟨L, hL⟩ : ∃ L, L = tld o now k := ⟨_, rfl⟩
  rw [← hL] at z4 zc zl zt a1 a2 a3 a4 hmem
  have hL7 : Hid (L.length = nc + 1) := hid (by rw [zl, HL.out])
  have hs1 : IntKind.i64.wrap ((nc : Int) + 1) = ((nc + 1 : Nat) : Int) := by have := HL.out; rw [IntKind.wrap_i64]; omega
  have He := hid (And.intro hx.symm z4)
  have Hf := hid (And.intro a1 (And.intro a2 (And.intro a3 a4)))
  have CK := hid (fun (X : World) (A : Option Addr) (c : Nat) (hb : Ds X X.heap.size A (nc + 1) c L) => check_any hb (Nat.le_refl _))
  rw [zc] at CK
  obtain ⟨y, hy⟩ : ∃ y, y = mgE o' p' k' L := ⟨_, rfl⟩
  by_cases hy0 : y = 0
  case neg =>
    obtain ⟨b2, b3, b4⟩ := mg_bad hy.symm hy0
    have hnm : ¬ CMay o' p' k' := fun h => hy0 (hy.trans (mg_good h zc (by have := may_len h; omega)).1)
    have hy8 : y = 8 := by rw [hy]; unfold mgE; rw [if_neg hnm]
    have hk8 : cchk o' p' k' = 8 := by unfold cchk; rw [if_neg hnm]
    subst hy8
    have Hg := hid (And.intro hy.symm (And.intro b2 (And.intro b3 b4)))
    have Hk := hid hk8
    clear hx z1 z2 z3 z4 hk6 zc zl zt a1 a2 a3 a4 hmem hL hy hy0 b2 b3 b4 hnm hk8
    go_enter Try.func7, Try.ntmps7
    go_upto_region 1 with fail
    rw [← HW.out]
    clear HW
    go_wp2_with fail
    refine (CA _).mono ?_
    rintro e w1 ⟨rfl, Bn⟩
    have X0' := hid (X0.out.below Bn.out X0.out.lt)
    clear X0
    have X0 := X0'
    clear X0'
    have Y0' := hid (Y0.out.below Bn.out Y0.out.lt)
    clear Y0
    have Y0 := Y0'
    clear Y0'
    have D0' := hid ((D0.out.below Bn.out).mono Bn.out.size)
    clear D0
    have D0 := D0'
    clear D0'
    have E0' := hid ((E0.out.below Bn.out).mono Bn.out.size)
    clear E0
    have E0 := E0'
    clear E0'
    have B4 := hid (B0.out.trans (Bn.out.mono B0.out.size))
    clear B0
    clear Bn
    have x3_0 := X0.out.c0
    have x3_1 := X0.out.c1
    have x3_2 := X0.out.c2
    have hM5 := hid (DF w1 o p now _ _ _ _ _ D0.out (Nat.le_refl _))
    rw [He.out.1, He.out.2] at hM5
    unfold cav at hM5
    go_wp2_with fail
    refine hM5.out.mono ?_
    rintro e w5 ⟨A5, n5, c5, rfl, hv5⟩
    clear hM5 x3_0 x3_1 x3_2
    have DL := hid hv5.out.1
    have Bn5 := hid hv5.out.2.1
    clear hv5
    have X0' := hid (X0.out.below Bn5.out X0.out.lt)
    clear X0
    have X0 := X0'
    clear X0'
    have Y0' := hid (Y0.out.below Bn5.out Y0.out.lt)
    clear Y0
    have Y0 := Y0'
    clear Y0'
    have D0' := hid ((D0.out.below Bn5.out).mono Bn5.out.size)
    clear D0
    have D0 := D0'
    clear D0'
    have E0' := hid ((E0.out.below Bn5.out).mono Bn5.out.size)
    clear E0
    have E0 := E0'
    clear E0'
    have B6 := hid (B4.out.trans (Bn5.out.mono B4.out.size))
    clear B4
    clear Bn5
    have hn0 := DL.out.len
    rw [hL7.out] at hn0
    obtain rfl : n5 = nc + 1 := hn0.symm
    clear hn0
    have x3_0 := X0.out.c0
    have x3_1 := X0.out.c1
    have x3_2 := X0.out.c2
    go_wp2_with fail
    refine (CK.out _ _ _ DL.out).mono ?_
    rintro e w99 ⟨rfl, Bz⟩
    clear x3_0 x3_1 x3_2
    have X0' := hid (X0.out.below Bz.out X0.out.lt)
    clear X0
    have X0 := X0'
    clear X0'
    have Y0' := hid (Y0.out.below Bz.out Y0.out.lt)
    clear Y0
    have Y0 := Y0'
    clear Y0'
    have D0' := hid ((D0.out.below Bz.out).mono Bz.out.size)
    clear D0
    have D0 := D0'
    clear D0'
    have E0' := hid ((E0.out.below Bz.out).mono Bz.out.size)
    clear E0
    have E0 := E0'
    clear E0'
    have DL' := hid ((DL.out.below Bz.out).mono Bz.out.size)
    clear DL
    have DL := DL'
    clear DL'
    have B7 := hid (B6.out.trans (Bz.out.mono B6.out.size))
    clear B6
    clear Bz
    have x3_0 := X0.out.c0
    have x3_1 := X0.out.c1
    have x3_2 := X0.out.c2
    have hM8 := hid (DM w99 o p _ _ _ _ _ _ _ _ _ _ D0.out DL.out (Nat.le_refl _) (Nat.le_refl _))
    rw [Hf.out.1, Hf.out.2.1, Hf.out.2.2.1, Hf.out.2.2.2] at hM8
    unfold cav at hM8
    go_wp2_with fail
    refine hM8.out.mono ?_
    rintro e w8 ⟨A8, n8, c8, rfl, hv8⟩
    clear hM8 x3_0 x3_1 x3_2
    go_upto_region 8 with fail
    have Bn8 := hid (hv8.out.2.1.alloc hv8.out.2.1.size (.cells #[.int .i64 o, .int .i64 p, .slice A8 n8 c8] 24))
    have X8 := hid (show Cbox (w8.alloc (.cells #[.int .i64 o, .int .i64 p, .slice A8 n8 c8] 24)) w8.heap.size o p (.slice A8 n8 c8) from heap_alloc_new w8 _)
    have D8 := hid ((hv8.out.1.below ((Below.refl w8.heap.size w8).alloc (Nat.le_refl _) (.cells #[.int .i64 o, .int .i64 p, .slice A8 n8 c8] 24))).mono (by simp : w8.heap.size ≤ (w8.alloc (.cells #[.int .i64 o, .int .i64 p, .slice A8 n8 c8] 24)).heap.size))
    clear hv8
    generalize w8.alloc (.cells #[.int .i64 o, .int .i64 p, .slice A8 n8 c8] 24) = W8 at Bn8 X8 D8 ⊢
    have X0' := hid (X0.out.below Bn8.out X0.out.lt)
    clear X0
    have X0 := X0'
    clear X0'
    have Y0' := hid (Y0.out.below Bn8.out Y0.out.lt)
    clear Y0
    have Y0 := Y0'
    clear Y0'
    have D0' := hid ((D0.out.below Bn8.out).mono Bn8.out.size)
    clear D0
    have D0 := D0'
    clear D0'
    have E0' := hid ((E0.out.below Bn8.out).mono Bn8.out.size)
    clear E0
    have E0 := E0'
    clear E0'
    have DL' := hid ((DL.out.below Bn8.out).mono Bn8.out.size)
    clear DL
    have DL := DL'
    clear DL'
    have B9 := hid (B7.out.trans (Bn8.out.mono B7.out.size))
    clear B7
    clear Bn8
    have x10_0 := X8.out.c0
    have x10_1 := X8.out.c1
    have x10_2 := X8.out.c2
    have x3_0 := X0.out.c0
    have x3_1 := X0.out.c1
    have x3_2 := X0.out.c2
    have hS10 := hid (DS W8 o p o p _ _ _ _ _ _ _ _ _ _ D8.out D0.out (Nat.le_refl _) (Nat.le_refl _))
    rw [show decide (o = o ∧ p = p ∧ k = k) = true from decide_eq_true ⟨rfl, rfl, rfl⟩] at hS10
    unfold cav at hS10
    go_wp2_with fail
    refine hS10.out.mono ?_
    rintro e w10 ⟨rfl, Bn10⟩
    clear hS10 x10_0 x10_1 x10_2 x3_0 x3_1 x3_2
    have X0' := hid (X0.out.below Bn10.out X0.out.lt)
    clear X0
    have X0 := X0'
    clear X0'
    have Y0' := hid (Y0.out.below Bn10.out Y0.out.lt)
    clear Y0
    have Y0 := Y0'
    clear Y0'
    have X8' := hid (X8.out.below Bn10.out X8.out.lt)
    clear X8
    have X8 := X8'
    clear X8'
    have D0' := hid ((D0.out.below Bn10.out).mono Bn10.out.size)
    clear D0
    have D0 := D0'
    clear D0'
    have E0' := hid ((E0.out.below Bn10.out).mono Bn10.out.size)
    clear E0
    have E0 := E0'
    clear E0'
    have D8' := hid ((D8.out.below Bn10.out).mono Bn10.out.size)
    clear D8
    have D8 := D8'
    clear D8'
    have DL' := hid ((DL.out.below Bn10.out).mono Bn10.out.size)
    clear DL
    have DL := DL'
    clear DL'
    have B11 := hid (B9.out.trans (Bn10.out.mono B9.out.size))
    clear B9
    clear Bn10
    have x4_0 := Y0.out.c0
    have x4_1 := Y0.out.c1
    have x4_2 := Y0.out.c2
    have hM12 := hid (DM w10 o' p' _ _ _ _ _ _ _ _ _ _ E0.out DL.out (Nat.le_refl _) (Nat.le_refl _))
    rw [Hg.out.1, Hg.out.2.1, Hg.out.2.2.1, Hg.out.2.2.2] at hM12
    unfold cav at hM12
    go_wp2_with fail
    refine hM12.out.mono ?_
    rintro e w12 ⟨A12, n12, c12, rfl, hv12⟩
    clear hM12 x4_0 x4_1 x4_2
    go_upto_region 11 with fail
    have Bn12 := hid (hv12.out.2.1.alloc hv12.out.2.1.size (.cells #[.int .i64 0, .int .i64 0, .slice A12 n12 c12] 24))
    have X12 := hid (show Cbox (w12.alloc (.cells #[.int .i64 0, .int .i64 0, .slice A12 n12 c12] 24)) w12.heap.size 0 0 (.slice A12 n12 c12) from heap_alloc_new w12 _)
    have D12 := hid ((hv12.out.1.below ((Below.refl w12.heap.size w12).alloc (Nat.le_refl _) (.cells #[.int .i64 0, .int .i64 0, .slice A12 n12 c12] 24))).mono (by simp : w12.heap.size ≤ (w12.alloc (.cells #[.int .i64 0, .int .i64 0, .slice A12 n12 c12] 24)).heap.size))
    clear hv12
    generalize w12.alloc (.cells #[.int .i64 0, .int .i64 0, .slice A12 n12 c12] 24) = W12 at Bn12 X12 D12 ⊢
    have X0' := hid (X0.out.below Bn12.out X0.out.lt)
    clear X0
    have X0 := X0'
    clear X0'
    have Y0' := hid (Y0.out.below Bn12.out Y0.out.lt)
    clear Y0
    have Y0 := Y0'
    clear Y0'
    have X8' := hid (X8.out.below Bn12.out X8.out.lt)
    clear X8
    have X8 := X8'
    clear X8'
    have D0' := hid ((D0.out.below Bn12.out).mono Bn12.out.size)
    clear D0
    have D0 := D0'
    clear D0'
    have E0' := hid ((E0.out.below Bn12.out).mono Bn12.out.size)
    clear E0
    have E0 := E0'
    clear E0'
    have D8' := hid ((D8.out.below Bn12.out).mono Bn12.out.size)
    clear D8
    have D8 := D8'
    clear D8'
    have DL' := hid ((DL.out.below Bn12.out).mono Bn12.out.size)
    clear DL
    have DL := DL'
    clear DL'
    have B13 := hid (B11.out.trans (Bn12.out.mono B11.out.size))
    clear B11
    clear Bn12
    have x4_0 := Y0.out.c0
    have x4_1 := Y0.out.c1
    have x4_2 := Y0.out.c2
    have hK := hid (DK W12 o' p' _ _ _ _ _ E0.out (Nat.le_refl _))
    rw [Hk.out] at hK
    unfold cav at hK
    go_wp2_with fail
    refine hK.out.mono ?_
    rintro e w98 ⟨rfl, By⟩
    go_wp2_with fail
    go_ret
    exact ⟨rfl, B13.out.trans (By.out.mono B13.out.size)⟩
  subst hy0
  obtain ⟨v1, _, _⟩ := mg_zero hy.symm
  obtain ⟨_, b2, b3, b4⟩ := mg_good v1 zc (by have := may_len v1; omega)
  obtain ⟨r, hr⟩ : ∃ r, r = tkn o' p'.toNat k' L := ⟨_, rfl⟩
  have hr6 : r.length ≤ 6 := by rw [hr]; exact tkn_len v1
  have HF := hid (fun (hne : o ≠ o') {x : De} (hx : x ∈ r) (hi : x.1 = o) => kept_fresh (o' := o') (cap := p'.toNat) (l := k') hmem hne (hr ▸ hx) hi)
  have HT : Hid (o ≠ o' → (∀ x, x ∈ r → x.1 ≠ o) → (r.length : Int) = p') := hid (fun hne hn => by
    have h1 := (tkn_out (own := o') (cap := p'.toNat) (l := k') (m := L) (List.mem_append_right _ hmem) hne (fun x hx hi => absurd hi (hn x (hr ▸ hx)))).1
    obtain ⟨_, _, h3, _⟩ := v1
    rw [← hr] at h1
    omega)
  rw [← hr] at b4
  have Hg := hid (And.intro hy.symm (And.intro b2 (And.intro b3 b4)))
  clear hx z1 z2 z3 z4 hk6 zc zl zt a1 a2 a3 a4 hmem hL hy b2 b3 b4 v1 hr
  by_cases hoo : o = o'
  case pos =>
    subst hoo
    go_enter Try.func7, Try.ntmps7
    go_upto_region 1 with fail
    rw [← HW.out]
    clear HW
    go_wp2_with fail
    refine (CA _).mono ?_
    rintro e w1 ⟨rfl, Bn⟩
    have X0' := hid (X0.out.below Bn.out X0.out.lt)
    clear X0
    have X0 := X0'
    clear X0'
    have Y0' := hid (Y0.out.below Bn.out Y0.out.lt)
    clear Y0
    have Y0 := Y0'
    clear Y0'
    have D0' := hid ((D0.out.below Bn.out).mono Bn.out.size)
    clear D0
    have D0 := D0'
    clear D0'
    have E0' := hid ((E0.out.below Bn.out).mono Bn.out.size)
    clear E0
    have E0 := E0'
    clear E0'
    have B14 := hid (B0.out.trans (Bn.out.mono B0.out.size))
    clear B0
    clear Bn
    have x3_0 := X0.out.c0
    have x3_1 := X0.out.c1
    have x3_2 := X0.out.c2
    have hM15 := hid (DF w1 o p now _ _ _ _ _ D0.out (Nat.le_refl _))
    rw [He.out.1, He.out.2] at hM15
    unfold cav at hM15
    go_wp2_with fail
    refine hM15.out.mono ?_
    rintro e w15 ⟨A15, n15, c15, rfl, hv15⟩
    clear hM15 x3_0 x3_1 x3_2
    have DL := hid hv15.out.1
    have Bn15 := hid hv15.out.2.1
    clear hv15
    have X0' := hid (X0.out.below Bn15.out X0.out.lt)
    clear X0
    have X0 := X0'
    clear X0'
    have Y0' := hid (Y0.out.below Bn15.out Y0.out.lt)
    clear Y0
    have Y0 := Y0'
    clear Y0'
    have D0' := hid ((D0.out.below Bn15.out).mono Bn15.out.size)
    clear D0
    have D0 := D0'
    clear D0'
    have E0' := hid ((E0.out.below Bn15.out).mono Bn15.out.size)
    clear E0
    have E0 := E0'
    clear E0'
    have B16 := hid (B14.out.trans (Bn15.out.mono B14.out.size))
    clear B14
    clear Bn15
    have hn0 := DL.out.len
    rw [hL7.out] at hn0
    obtain rfl : n15 = nc + 1 := hn0.symm
    clear hn0
    have x3_0 := X0.out.c0
    have x3_1 := X0.out.c1
    have x3_2 := X0.out.c2
    go_wp2_with fail
    refine (CK.out _ _ _ DL.out).mono ?_
    rintro e w99 ⟨rfl, Bz⟩
    clear x3_0 x3_1 x3_2
    have X0' := hid (X0.out.below Bz.out X0.out.lt)
    clear X0
    have X0 := X0'
    clear X0'
    have Y0' := hid (Y0.out.below Bz.out Y0.out.lt)
    clear Y0
    have Y0 := Y0'
    clear Y0'
    have D0' := hid ((D0.out.below Bz.out).mono Bz.out.size)
    clear D0
    have D0 := D0'
    clear D0'
    have E0' := hid ((E0.out.below Bz.out).mono Bz.out.size)
    clear E0
    have E0 := E0'
    clear E0'
    have DL' := hid ((DL.out.below Bz.out).mono Bz.out.size)
    clear DL
    have DL := DL'
    clear DL'
    have B17 := hid (B16.out.trans (Bz.out.mono B16.out.size))
    clear B16
    clear Bz
    have x3_0 := X0.out.c0
    have x3_1 := X0.out.c1
    have x3_2 := X0.out.c2
    have hM18 := hid (DM w99 o p _ _ _ _ _ _ _ _ _ _ D0.out DL.out (Nat.le_refl _) (Nat.le_refl _))
    rw [Hf.out.1, Hf.out.2.1, Hf.out.2.2.1, Hf.out.2.2.2] at hM18
    unfold cav at hM18
    go_wp2_with fail
    refine hM18.out.mono ?_
    rintro e w18 ⟨A18, n18, c18, rfl, hv18⟩
    clear hM18 x3_0 x3_1 x3_2
    go_upto_region 8 with fail
    have Bn18 := hid (hv18.out.2.1.alloc hv18.out.2.1.size (.cells #[.int .i64 o, .int .i64 p, .slice A18 n18 c18] 24))
    have X18 := hid (show Cbox (w18.alloc (.cells #[.int .i64 o, .int .i64 p, .slice A18 n18 c18] 24)) w18.heap.size o p (.slice A18 n18 c18) from heap_alloc_new w18 _)
    have D18 := hid ((hv18.out.1.below ((Below.refl w18.heap.size w18).alloc (Nat.le_refl _) (.cells #[.int .i64 o, .int .i64 p, .slice A18 n18 c18] 24))).mono (by simp : w18.heap.size ≤ (w18.alloc (.cells #[.int .i64 o, .int .i64 p, .slice A18 n18 c18] 24)).heap.size))
    clear hv18
    generalize w18.alloc (.cells #[.int .i64 o, .int .i64 p, .slice A18 n18 c18] 24) = W18 at Bn18 X18 D18 ⊢
    have X0' := hid (X0.out.below Bn18.out X0.out.lt)
    clear X0
    have X0 := X0'
    clear X0'
    have Y0' := hid (Y0.out.below Bn18.out Y0.out.lt)
    clear Y0
    have Y0 := Y0'
    clear Y0'
    have D0' := hid ((D0.out.below Bn18.out).mono Bn18.out.size)
    clear D0
    have D0 := D0'
    clear D0'
    have E0' := hid ((E0.out.below Bn18.out).mono Bn18.out.size)
    clear E0
    have E0 := E0'
    clear E0'
    have DL' := hid ((DL.out.below Bn18.out).mono Bn18.out.size)
    clear DL
    have DL := DL'
    clear DL'
    have B19 := hid (B17.out.trans (Bn18.out.mono B17.out.size))
    clear B17
    clear Bn18
    have x10_0 := X18.out.c0
    have x10_1 := X18.out.c1
    have x10_2 := X18.out.c2
    have x3_0 := X0.out.c0
    have x3_1 := X0.out.c1
    have x3_2 := X0.out.c2
    have hS20 := hid (DS W18 o p o p _ _ _ _ _ _ _ _ _ _ D18.out D0.out (Nat.le_refl _) (Nat.le_refl _))
    rw [show decide (o = o ∧ p = p ∧ k = k) = true from decide_eq_true ⟨rfl, rfl, rfl⟩] at hS20
    unfold cav at hS20
    go_wp2_with fail
    refine hS20.out.mono ?_
    rintro e w20 ⟨rfl, Bn20⟩
    clear hS20 x10_0 x10_1 x10_2 x3_0 x3_1 x3_2
    have X0' := hid (X0.out.below Bn20.out X0.out.lt)
    clear X0
    have X0 := X0'
    clear X0'
    have Y0' := hid (Y0.out.below Bn20.out Y0.out.lt)
    clear Y0
    have Y0 := Y0'
    clear Y0'
    have X18' := hid (X18.out.below Bn20.out X18.out.lt)
    clear X18
    have X18 := X18'
    clear X18'
    have D0' := hid ((D0.out.below Bn20.out).mono Bn20.out.size)
    clear D0
    have D0 := D0'
    clear D0'
    have E0' := hid ((E0.out.below Bn20.out).mono Bn20.out.size)
    clear E0
    have E0 := E0'
    clear E0'
    have D18' := hid ((D18.out.below Bn20.out).mono Bn20.out.size)
    clear D18
    have D18 := D18'
    clear D18'
    have DL' := hid ((DL.out.below Bn20.out).mono Bn20.out.size)
    clear DL
    have DL := DL'
    clear DL'
    have B21 := hid (B19.out.trans (Bn20.out.mono B19.out.size))
    clear B19
    clear Bn20
    have x4_0 := Y0.out.c0
    have x4_1 := Y0.out.c1
    have x4_2 := Y0.out.c2
    have hM22 := hid (DM w20 o p' _ _ _ _ _ _ _ _ _ _ E0.out DL.out (Nat.le_refl _) (Nat.le_refl _))
    rw [Hg.out.1, Hg.out.2.1, Hg.out.2.2.1, Hg.out.2.2.2] at hM22
    unfold cav at hM22
    go_wp2_with fail
    refine hM22.out.mono ?_
    rintro e w22 ⟨A22, n22, c22, rfl, hv22⟩
    clear hM22 x4_0 x4_1 x4_2
    go_upto_region 11 with fail
    have Bn22 := hid (hv22.out.2.1.alloc hv22.out.2.1.size (.cells #[.int .i64 o, .int .i64 p', .slice A22 n22 c22] 24))
    have X22 := hid (show Cbox (w22.alloc (.cells #[.int .i64 o, .int .i64 p', .slice A22 n22 c22] 24)) w22.heap.size o p' (.slice A22 n22 c22) from heap_alloc_new w22 _)
    have D22 := hid ((hv22.out.1.below ((Below.refl w22.heap.size w22).alloc (Nat.le_refl _) (.cells #[.int .i64 o, .int .i64 p', .slice A22 n22 c22] 24))).mono (by simp : w22.heap.size ≤ (w22.alloc (.cells #[.int .i64 o, .int .i64 p', .slice A22 n22 c22] 24)).heap.size))
    clear hv22
    generalize w22.alloc (.cells #[.int .i64 o, .int .i64 p', .slice A22 n22 c22] 24) = W22 at Bn22 X22 D22 ⊢
    have X0' := hid (X0.out.below Bn22.out X0.out.lt)
    clear X0
    have X0 := X0'
    clear X0'
    have Y0' := hid (Y0.out.below Bn22.out Y0.out.lt)
    clear Y0
    have Y0 := Y0'
    clear Y0'
    have X18' := hid (X18.out.below Bn22.out X18.out.lt)
    clear X18
    have X18 := X18'
    clear X18'
    have D0' := hid ((D0.out.below Bn22.out).mono Bn22.out.size)
    clear D0
    have D0 := D0'
    clear D0'
    have E0' := hid ((E0.out.below Bn22.out).mono Bn22.out.size)
    clear E0
    have E0 := E0'
    clear E0'
    have D18' := hid ((D18.out.below Bn22.out).mono Bn22.out.size)
    clear D18
    have D18 := D18'
    clear D18'
    have DL' := hid ((DL.out.below Bn22.out).mono Bn22.out.size)
    clear DL
    have DL := DL'
    clear DL'
    have B23 := hid (B21.out.trans (Bn22.out.mono B21.out.size))
    clear B21
    clear Bn22
    have x3_0 := X0.out.c0
    have x3_1 := X0.out.c1
    have x3_2 := X0.out.c2
    have x4_0 := Y0.out.c0
    have x4_1 := Y0.out.c1
    have x4_2 := Y0.out.c2
    go_wp2_with fail
    go_ret
    exact ⟨rfl, B23.out⟩
  have hoob : (o == o') = false := by simpa using hoo
  go_enter Try.func7, Try.ntmps7
  go_upto_region 1 with fail
  rw [← HW.out]
  clear HW
  go_wp2_with fail
  refine (CA _).mono ?_
  rintro e w1 ⟨rfl, Bn⟩
  have X0' := hid (X0.out.below Bn.out X0.out.lt)
  clear X0
  have X0 := X0'
  clear X0'
  have Y0' := hid (Y0.out.below Bn.out Y0.out.lt)
  clear Y0
  have Y0 := Y0'
  clear Y0'
  have D0' := hid ((D0.out.below Bn.out).mono Bn.out.size)
  clear D0
  have D0 := D0'
  clear D0'
  have E0' := hid ((E0.out.below Bn.out).mono Bn.out.size)
  clear E0
  have E0 := E0'
  clear E0'
  have B24 := hid (B0.out.trans (Bn.out.mono B0.out.size))
  clear B0
  clear Bn
  have x3_0 := X0.out.c0
  have x3_1 := X0.out.c1
  have x3_2 := X0.out.c2
  have hM25 := hid (DF w1 o p now _ _ _ _ _ D0.out (Nat.le_refl _))
  rw [He.out.1, He.out.2] at hM25
  unfold cav at hM25
  go_wp2_with fail
  refine hM25.out.mono ?_
  rintro e w25 ⟨A25, n25, c25, rfl, hv25⟩
  clear hM25 x3_0 x3_1 x3_2
  have DL := hid hv25.out.1
  have Bn25 := hid hv25.out.2.1
  clear hv25
  have X0' := hid (X0.out.below Bn25.out X0.out.lt)
  clear X0
  have X0 := X0'
  clear X0'
  have Y0' := hid (Y0.out.below Bn25.out Y0.out.lt)
  clear Y0
  have Y0 := Y0'
  clear Y0'
  have D0' := hid ((D0.out.below Bn25.out).mono Bn25.out.size)
  clear D0
  have D0 := D0'
  clear D0'
  have E0' := hid ((E0.out.below Bn25.out).mono Bn25.out.size)
  clear E0
  have E0 := E0'
  clear E0'
  have B26 := hid (B24.out.trans (Bn25.out.mono B24.out.size))
  clear B24
  clear Bn25
  have hn0 := DL.out.len
  rw [hL7.out] at hn0
  obtain rfl : n25 = nc + 1 := hn0.symm
  clear hn0
  have x3_0 := X0.out.c0
  have x3_1 := X0.out.c1
  have x3_2 := X0.out.c2
  go_wp2_with fail
  refine (CK.out _ _ _ DL.out).mono ?_
  rintro e w99 ⟨rfl, Bz⟩
  clear x3_0 x3_1 x3_2
  have X0' := hid (X0.out.below Bz.out X0.out.lt)
  clear X0
  have X0 := X0'
  clear X0'
  have Y0' := hid (Y0.out.below Bz.out Y0.out.lt)
  clear Y0
  have Y0 := Y0'
  clear Y0'
  have D0' := hid ((D0.out.below Bz.out).mono Bz.out.size)
  clear D0
  have D0 := D0'
  clear D0'
  have E0' := hid ((E0.out.below Bz.out).mono Bz.out.size)
  clear E0
  have E0 := E0'
  clear E0'
  have DL' := hid ((DL.out.below Bz.out).mono Bz.out.size)
  clear DL
  have DL := DL'
  clear DL'
  have B27 := hid (B26.out.trans (Bz.out.mono B26.out.size))
  clear B26
  clear Bz
  have x3_0 := X0.out.c0
  have x3_1 := X0.out.c1
  have x3_2 := X0.out.c2
  have hM28 := hid (DM w99 o p _ _ _ _ _ _ _ _ _ _ D0.out DL.out (Nat.le_refl _) (Nat.le_refl _))
  rw [Hf.out.1, Hf.out.2.1, Hf.out.2.2.1, Hf.out.2.2.2] at hM28
  unfold cav at hM28
  go_wp2_with fail
  refine hM28.out.mono ?_
  rintro e w28 ⟨A28, n28, c28, rfl, hv28⟩
  clear hM28 x3_0 x3_1 x3_2
  go_upto_region 8 with fail
  have Bn28 := hid (hv28.out.2.1.alloc hv28.out.2.1.size (.cells #[.int .i64 o, .int .i64 p, .slice A28 n28 c28] 24))
  have X28 := hid (show Cbox (w28.alloc (.cells #[.int .i64 o, .int .i64 p, .slice A28 n28 c28] 24)) w28.heap.size o p (.slice A28 n28 c28) from heap_alloc_new w28 _)
  have D28 := hid ((hv28.out.1.below ((Below.refl w28.heap.size w28).alloc (Nat.le_refl _) (.cells #[.int .i64 o, .int .i64 p, .slice A28 n28 c28] 24))).mono (by simp : w28.heap.size ≤ (w28.alloc (.cells #[.int .i64 o, .int .i64 p, .slice A28 n28 c28] 24)).heap.size))
  clear hv28
  generalize w28.alloc (.cells #[.int .i64 o, .int .i64 p, .slice A28 n28 c28] 24) = W28 at Bn28 X28 D28 ⊢
  have X0' := hid (X0.out.below Bn28.out X0.out.lt)
  clear X0
  have X0 := X0'
  clear X0'
  have Y0' := hid (Y0.out.below Bn28.out Y0.out.lt)
  clear Y0
  have Y0 := Y0'
  clear Y0'
  have D0' := hid ((D0.out.below Bn28.out).mono Bn28.out.size)
  clear D0
  have D0 := D0'
  clear D0'
  have E0' := hid ((E0.out.below Bn28.out).mono Bn28.out.size)
  clear E0
  have E0 := E0'
  clear E0'
  have DL' := hid ((DL.out.below Bn28.out).mono Bn28.out.size)
  clear DL
  have DL := DL'
  clear DL'
  have B29 := hid (B27.out.trans (Bn28.out.mono B27.out.size))
  clear B27
  clear Bn28
  have x10_0 := X28.out.c0
  have x10_1 := X28.out.c1
  have x10_2 := X28.out.c2
  have x3_0 := X0.out.c0
  have x3_1 := X0.out.c1
  have x3_2 := X0.out.c2
  have hS30 := hid (DS W28 o p o p _ _ _ _ _ _ _ _ _ _ D28.out D0.out (Nat.le_refl _) (Nat.le_refl _))
  rw [show decide (o = o ∧ p = p ∧ k = k) = true from decide_eq_true ⟨rfl, rfl, rfl⟩] at hS30
  unfold cav at hS30
  go_wp2_with fail
  refine hS30.out.mono ?_
  rintro e w30 ⟨rfl, Bn30⟩
  clear hS30 x10_0 x10_1 x10_2 x3_0 x3_1 x3_2
  have X0' := hid (X0.out.below Bn30.out X0.out.lt)
  clear X0
  have X0 := X0'
  clear X0'
  have Y0' := hid (Y0.out.below Bn30.out Y0.out.lt)
  clear Y0
  have Y0 := Y0'
  clear Y0'
  have X28' := hid (X28.out.below Bn30.out X28.out.lt)
  clear X28
  have X28 := X28'
  clear X28'
  have D0' := hid ((D0.out.below Bn30.out).mono Bn30.out.size)
  clear D0
  have D0 := D0'
  clear D0'
  have E0' := hid ((E0.out.below Bn30.out).mono Bn30.out.size)
  clear E0
  have E0 := E0'
  clear E0'
  have D28' := hid ((D28.out.below Bn30.out).mono Bn30.out.size)
  clear D28
  have D28 := D28'
  clear D28'
  have DL' := hid ((DL.out.below Bn30.out).mono Bn30.out.size)
  clear DL
  have DL := DL'
  clear DL'
  have B31 := hid (B29.out.trans (Bn30.out.mono B29.out.size))
  clear B29
  clear Bn30
  have x4_0 := Y0.out.c0
  have x4_1 := Y0.out.c1
  have x4_2 := Y0.out.c2
  have hM32 := hid (DM w30 o' p' _ _ _ _ _ _ _ _ _ _ E0.out DL.out (Nat.le_refl _) (Nat.le_refl _))
  rw [Hg.out.1, Hg.out.2.1, Hg.out.2.2.1, Hg.out.2.2.2] at hM32
  unfold cav at hM32
  go_wp2_with fail
  refine hM32.out.mono ?_
  rintro e w32 ⟨A32, n32, c32, rfl, hv32⟩
  clear hM32 x4_0 x4_1 x4_2
  go_upto_region 11 with fail
  have Bn32 := hid (hv32.out.2.1.alloc hv32.out.2.1.size (.cells #[.int .i64 o', .int .i64 p', .slice A32 n32 c32] 24))
  have X32 := hid (show Cbox (w32.alloc (.cells #[.int .i64 o', .int .i64 p', .slice A32 n32 c32] 24)) w32.heap.size o' p' (.slice A32 n32 c32) from heap_alloc_new w32 _)
  have D32 := hid ((hv32.out.1.below ((Below.refl w32.heap.size w32).alloc (Nat.le_refl _) (.cells #[.int .i64 o', .int .i64 p', .slice A32 n32 c32] 24))).mono (by simp : w32.heap.size ≤ (w32.alloc (.cells #[.int .i64 o', .int .i64 p', .slice A32 n32 c32] 24)).heap.size))
  clear hv32
  generalize w32.alloc (.cells #[.int .i64 o', .int .i64 p', .slice A32 n32 c32] 24) = W32 at Bn32 X32 D32 ⊢
  have X0' := hid (X0.out.below Bn32.out X0.out.lt)
  clear X0
  have X0 := X0'
  clear X0'
  have Y0' := hid (Y0.out.below Bn32.out Y0.out.lt)
  clear Y0
  have Y0 := Y0'
  clear Y0'
  have X28' := hid (X28.out.below Bn32.out X28.out.lt)
  clear X28
  have X28 := X28'
  clear X28'
  have D0' := hid ((D0.out.below Bn32.out).mono Bn32.out.size)
  clear D0
  have D0 := D0'
  clear D0'
  have E0' := hid ((E0.out.below Bn32.out).mono Bn32.out.size)
  clear E0
  have E0 := E0'
  clear E0'
  have D28' := hid ((D28.out.below Bn32.out).mono Bn32.out.size)
  clear D28
  have D28 := D28'
  clear D28'
  have DL' := hid ((DL.out.below Bn32.out).mono Bn32.out.size)
  clear DL
  have DL := DL'
  clear DL'
  have B33 := hid (B31.out.trans (Bn32.out.mono B31.out.size))
  clear B31
  clear Bn32
  have hnr := D32.out.len
  have hcapr := D32.out.cap
  obtain ⟨n, hn⟩ : ∃ n, n = n32 := ⟨_, rfl⟩
  have HNR := hid hnr
  have hr6' : n32 ≤ 6 := by omega
  clear hnr hn
  have x3_0 := X0.out.c0
  have x4_0 := Y0.out.c0
  have x12_2 := X32.out.c2
  go_wp2_with fail
  go_loopg [14] n32 (fun gg s14 wr => ∃ j : Nat, j ≤ n32 ∧ n32 - j ≤ gg ∧ s14 = .int .i64 j ∧ Hid (Below W32.heap.size W32 wr) ∧ Hid (∀ i x, i < j → r[i]? = some x → x.1 ≠ o))
  case atStart => exact ⟨0, Nat.zero_le _, by omega, rfl, hid (Below.refl _ _), hid (fun i _ hi => absurd hi (Nat.not_lt_zero _))⟩
  case round =>
    obtain ⟨j, hj, hg, rfl, BW, HA⟩ := hrel
    clear x3_0 x4_0 x12_2
    have x3_0 := (X0.out.below BW.out X0.out.lt).c0
    have x4_0 := (Y0.out.below BW.out Y0.out.lt).c0
    have x4_1 := (Y0.out.below BW.out Y0.out.lt).c1
    have x12_2 := (X32.out.below BW.out X32.out.lt).c2
    by_cases hlt : j < n32
    case neg =>
      have hltz : ¬ (j : Int) < (n32 : Int) := by omega
      obtain rfl : j = n32 := by omega
      have hp : ((j : Nat) : Int) = p' := by
        rw [← HNR.out]
        refine HT.out hoo fun x hx => ?_
        obtain ⟨i, hi⟩ := List.mem_iff_getElem?.1 hx
        exact HA.out i x (by have := (List.getElem?_eq_some_iff.1 hi).1; rw [HNR.out] at this; exact this) hi
      subst hp
      go_wp2
      go_ret
      exact ⟨rfl, B33.out.trans (BW.out.mono B33.out.size)⟩
    have hltz : (j : Int) < (n32 : Int) := by omega
    obtain ⟨x, hx⟩ := D32.out.get hlt
    obtain ⟨b, off, hAb, hbB, hcc⟩ := (D32.out.below BW.out).at_ (by omega)
    subst hAb
    obtain ⟨c1, c2⟩ := hcc j x hx
    have HX := hid hx
    have HFx := hid (fun hi => HF.out hoo (List.mem_of_getElem? hx) hi)
    clear hcc hx
    obtain ⟨x1, x2⟩ := x
    change wr.cell? ⟨b, off + j * 2, none⟩ = some (.int .i64 x1) at c1
    change wr.cell? ⟨b, off + j * 2 + 1, none⟩ = some (.int .i64 x2) at c2
    by_cases hxo : x1 = o
    · have hge : x2 ≥ now := HFx.out hxo
      subst hxo
      go_wp2_with fail
      go_quiet (fail)
      go_wp2
      go_ret
      exact ⟨rfl, B33.out.trans ((below_drewN BW.out _).mono B33.out.size)⟩
    · go_wp2_with fail
      go_quiet (fail)
      go_wp2
      go_roundg (n32 - (j + 1))
      case measure => omega
      case rel =>
        refine ⟨j + 1, by omega, by omega, by go_num, hid (below_drewN BW.out _), hid (fun i e hi he => ?_)⟩
        by_cases hij : i = j
        · subst hij
          rw [HX.out] at he
          injection he with he
          rw [← he]
          exact hxo
        · exact HA.out i e (by omega) he
end Go.Proofs.Ythklhhgkklpbkaa
