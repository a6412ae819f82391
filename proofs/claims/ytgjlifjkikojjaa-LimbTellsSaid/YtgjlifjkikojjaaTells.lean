/- The law LimbTells, walked: for any two slices and any number it returns true, and turns no memory that was there. -/
import Derived.Test.YtgjlifjkikojjaaRadd
import Derived.Test.YtgjlifjkikojjaaAdd
import Derived.Test.YtgjlifjkikojjaaGreat
import Derived.Test.YtgjlifjkikojjaaCopy
namespace Go.Proofs.Ytgjlifjkikojjaa
open Go.RowKit

set_option maxHeartbeats 12800000 in
set_option maxRecDepth 1000000 in
theorem tells_walk {A D : Option Addr} {n c m d : Nat} {x0 : Int} {f h : Nat → Nat} {w : World} (ha : Rd w w.heap.size A n c f) (hnil : A = none → n = 0 ∧ c = 0) (hb : Rd w w.heap.size D m d h) (hnil2 : D = none → m = 0 ∧ d = 0) (hxw : (Lit.int .u64 x0).wf = true) :
    Calls Try.prog 3 #[.slice A n c, .slice D m d, .int .u64 x0] w fun e w' => e = .returned (.bool true) ∧ Below w.heap.size w w' := by
  have hx : 0 ≤ x0 ∧ x0 ≤ 18446744073709551615 := by
    have hmax : IntKind.u64.max = 18446744073709551615 := rfl
    have hmin : IntKind.u64.min = 0 := rfl
    simp only [Lit.wf, Bool.and_eq_true, decide_eq_true_eq] at hxw
    omega
  obtain ⟨x, rfl⟩ := Int.eq_ofNat_of_zero_le hx.1
  have hx2 : x ≤ 18446744073709551615 := by omega
  have hac := ha.cap
  have ham := ha.max
  have hbc := hb.cap
  have hbm := hb.max
  have Ha := hid ha
  have Hb := hid hb
  have Hnil := hid hnil
  have Hnil2 := hid hnil2
  have Hx := hid hx2
  clear ha hb hnil hnil2 hxw hx hx2
  have Cg := hid (great_any A n c w (by omega))
  have Cg2 := hid (great_any D m d w (by omega))
  by_cases hn : (42 : Int) < (n : Int)
  · rw [decide_eq_true hn] at Cg
    go_enter Try.func3, Try.ntmps3
    go_wp2_with fail
    refine Cg.out.mono ?_
    rintro e w' ⟨rfl, rfl⟩
    go_wp2_with fail
    go_ret
    exact ⟨rfl, Below.refl _ _⟩
  rw [decide_eq_false hn] at Cg
  by_cases hm : (42 : Int) < (m : Int)
  · rw [decide_eq_true hm] at Cg2
    go_enter Try.func3, Try.ntmps3
    go_wp2_with fail
    refine Cg.out.mono ?_
    rintro e w' ⟨rfl, rfl⟩
    go_wp2_with fail
    refine Cg2.out.mono ?_
    rintro e w' ⟨rfl, rfl⟩
    go_wp2_with fail
    go_ret
    exact ⟨rfl, Below.refl _ _⟩
  rw [decide_eq_false hm] at Cg2
  have hn42 : n ≤ 42 := by omega
  have hm42 : m ≤ 42 := by omega
  have Hcells := hid (cells_of_rd Ha.out)
  go_enter Try.func3, Try.ntmps3
  go_wp2_with fail
  refine Cg.out.mono ?_
  rintro e w' ⟨rfl, rfl⟩
  go_wp2_with fail
  refine Cg2.out.mono ?_
  rintro e w' ⟨rfl, rfl⟩
  go_wp2_with (first | (at_builtin; refine wpList_append_copy rfl (.tmp 29) (.tmp 30) 22 rfl 51 (.int .u32 0) 4 Try.underlying22 info_u32 rfl (by decide) rfl rfl (by simp) Hnil.out Hcells.out (by simp; intros; subst_vars; rfl) (by omega) ?_; intro v1 w1 hown1 hbel1; have Hcells2 := hid (cells_of_rd (Hb.out.below hbel1.out))) | (at_builtin; refine wpList_append_copy rfl (.tmp 32) (.tmp 33) 22 rfl 51 (.int .u32 0) 4 Try.underlying22 info_u32 rfl (by decide) rfl rfl (by simp) Hnil2.out Hcells2.out (by simp; intros; subst_vars; rfl) (by omega) ?_; intro v2 w2 hown2 hbel2) | fail)
  obtain ⟨A1, c1, rfl, hr1⟩ := rd_of_row hown1.out ham Ha.out.lt Ha.out.out
  obtain ⟨D1, d1, rfl, hr2⟩ := rd_of_row hown2.out hbm Hb.out.lt Hb.out.out
  have W2 := hid (hbel1.out.trans (hbel2.out.mono hbel1.out.size))
  have Ho := hid ((hr1.below hbel2.out).mono hbel2.out.size)
  have Hp := hid hr2
  have Ha2 := hid ((Ha.out.below W2.out).mono W2.out.size)
  have Hb2 := hid ((Hb.out.below W2.out).mono W2.out.size)
  clear hown1 hown2 hr1 hr2 Hcells Hcells2 Cg Cg2 Hnil Hnil2 Ha Hb hbel1 hbel2
  -- limb.Cmp, headcountref01.Cmp
  have C3 := hid (cmp_any Ho.out Hp.out)
  refine C3.out.mono ?_
  rintro e w3 ⟨rfl, b3⟩
  have B3 := hid b3
  clear C3 b3
  have C4 := hid (rCmp_any ((Ha2.out.below B3.out).mono B3.out.size) ((Hb2.out.below B3.out).mono B3.out.size) hn42 hm42)
  go_wp2_with fail
  refine C4.out.mono ?_
  rintro e w4 ⟨rfl, b4⟩
  have B4 := hid (B3.out.trans (b4.mono B3.out.size))
  clear C4 b4 B3
  -- limb.Add, headcountref01.Add
  have C5 := hid (add_any ((Ho.out.below B4.out).mono B4.out.size) ((Hp.out.below B4.out).mono B4.out.size))
  go_wp2_with fail
  refine C5.out.mono ?_
  rintro e w5 h5
  obtain ⟨b5, x1, rfl, gx⟩ := h5.got
  have B45 := hid b5
  have B5 := hid (B4.out.trans (b5.mono B4.out.size))
  have Gx := hid gx
  clear h5 b5 gx C5
  have C6 := hid (rAdd_any ((Ha2.out.below B5.out).mono B5.out.size) ((Hb2.out.below B5.out).mono B5.out.size) hn42 hm42)
  go_wp2_with fail
  refine C6.out.mono ?_
  rintro e w6 ⟨y1, _, rfl, ⟨rfl⟩, Vy, b6⟩
  have B6 := hid (B5.out.trans (b6.out.mono B5.out.size))
  have B56 := hid b6.out
  clear C6 b6
  -- limb.Sub, headcountref01.Sub
  have C7 := hid (sub_any ((Ho.out.below B6.out).mono B6.out.size) ((Hp.out.below B6.out).mono B6.out.size))
  go_wp2_with fail
  refine C7.out.mono ?_
  rintro e w7 h7
  obtain ⟨b7, z1, rfl, gz⟩ := h7.got
  have B67 := hid b7
  have B7 := hid (B6.out.trans (b7.mono B6.out.size))
  have Gz := hid gz
  clear h7 b7 gz C7
  have C8 := hid (rSub_any ((Ha2.out.below B7.out).mono B7.out.size) ((Hb2.out.below B7.out).mono B7.out.size) hn42 hm42)
  go_wp2_with fail
  refine C8.out.mono ?_
  rintro e w8 ⟨y2, _, rfl, ⟨rfl⟩, Vy2, b8⟩
  have B8 := hid (B7.out.trans (b8.out.mono B7.out.size))
  have B78 := hid b8.out
  clear C8 b8
  generalize addErr n f m h = e1 at *
  generalize subErr n f m h = e2 at *
  generalize cmpErr n f m h = e3 at *
  generalize cmpRes n f m h = r3 at *
  have B68 := hid (B67.out.trans (B78.out.mono B67.out.size))
  have B58 := hid (B56.out.trans (B68.out.mono B56.out.size))
  -- Check, Check
  have C9 := hid (check_any (Ho.out.below B8.out))
  go_wp2_with fail
  refine C9.out.mono ?_
  rintro e w' ⟨rfl, rfl⟩
  have C10 := hid (rCheck_any (Ha2.out.below B8.out))
  go_wp2_with fail
  refine C10.out.mono ?_
  rintro e w' ⟨rfl, rfl⟩
  clear C9 C10
  generalize chk n f = e4 at *
  -- Of, Of, Same
  have C11 := hid (of_any x Hx.out w8)
  go_wp2_with fail
  refine C11.out.mono ?_
  rintro e w9 ⟨v9, rfl, n9, b9⟩
  have B89 := hid b9
  have V9 := hid n9.val.lm
  clear C11 b9 n9
  have C12 := hid (rOf_any x Hx.out w9)
  go_wp2_with fail
  refine C12.out.mono ?_
  rintro e w10 ⟨v10, rfl, b10, l10⟩
  have C13 := hid (rsame_lm (V9.out.below b10) l10)
  have B8a := hid (B89.out.trans (b10.mono B89.out.size))
  clear C12 b10 l10
  go_wp2_with fail
  refine C13.out.mono ?_
  rintro e w11 ⟨rfl, q1, hq1⟩
  have B8b : Hid (Below w8.heap.size w8 w11) := by subst hq1; exact below_drewN B8a.out q1
  clear hq1 C13 B8a V9 B89
  have B11 := hid (B8.out.trans (B8b.out.mono B8.out.size))
  -- limb.Same(own, other), Same(a, b)
  have C14 := hid (same_any (Ho.out.below B11.out) (Hp.out.below B11.out))
  go_wp2_with fail
  refine C14.out.mono ?_
  rintro e w12 ⟨s1, rfl, hs1, q2, hq2⟩
  have B8c : Hid (Below w8.heap.size w8 w12) := by subst hq2; exact below_drewN B8b.out q2
  have Hs1 := hid hs1
  clear hq2 C14 hs1 B8b B11
  have B12 := hid (B8.out.trans (B8c.out.mono B8.out.size))
  have C15 := hid (rsame_any (Ha2.out.below B12.out) (Hb2.out.below B12.out))
  go_wp2_with fail
  refine C15.out.mono ?_
  rintro e w13 ⟨s2, rfl, hs2, q3, hq3⟩
  have B8d : Hid (Below w8.heap.size w8 w13) := by subst hq3; exact below_drewN B8c.out q3
  obtain rfl : s1 = s2 := by
    have h1 := Hs1.out
    cases s1 <;> cases s2 <;> simp_all
  clear hq3 C15 hs2 B8c B12 Hs1
  have B13 := hid (B8.out.trans (B8d.out.mono B8.out.size))
  -- limb.Same(own, a)
  have C16 := hid (same_any (Ho.out.below B13.out) (Ha2.out.below B13.out))
  go_wp2_with fail
  refine C16.out.mono ?_
  rintro e w14 ⟨s3, rfl, hs3, q4, hq4⟩
  have B8e : Hid (Below w8.heap.size w8 w14) := by subst hq4; exact below_drewN B8d.out q4
  obtain rfl : s3 = true := by simpa using hs3
  clear hq4 C16 hs3 B8d B13
  have B5e := hid (B58.out.trans (B8e.out.mono B58.out.size))
  have B7e := hid (B78.out.trans (B8e.out.mono B78.out.size))
  have B14 := hid (B8.out.trans (B8e.out.mono B8.out.size))
  have Vx := hid (Gx.out.val.below B5e.out)
  have Vy9 := hid (Vy.out.below (B68.out.trans (B8e.out.mono B68.out.size)))
  have Vz := hid (Gz.out.val.below B7e.out)
  have Vy29 := hid (Vy2.out.below B8e.out)
  -- Same(x, y)
  have D1 := hid (rsame_val Vx.out Vy9.out)
  go_wp2_with fail
  refine D1.out.mono ?_
  rintro e w15 ⟨rfl, q5, hq5⟩
  have Q15 : Hid (Below w14.heap.size w14 w15) := by subst hq5; exact below_drewN (Below.refl _ _) q5
  have H15 : Hid (w15.heap = w14.heap) := by subst hq5; rfl
  clear D1 hq5
  -- Same(z, w)
  have D2 := hid (rsame_val (Vz.out.below Q15.out) (Vy29.out.below Q15.out))
  go_wp2_with fail
  refine D2.out.mono ?_
  rintro e w16 ⟨rfl, q6, hq6⟩
  have Q16 : Hid (Below w14.heap.size w14 w16) := by subst hq6; exact below_drewN Q15.out q6
  have H16 : Hid (w16.heap = w14.heap) := by subst hq6; exact H15.out
  clear D2 hq6 Vx Vy9 Vz Vy29 H15 Q15
  have Hgx : Hid (∀ i, i < w5.heap.size → w4.heap.size ≤ i → w16.heap[i]? = w5.heap[i]?) := hid (fun i hi _ => by rw [H16.out]; exact B5e.out.block i hi)
  have Gz10 := hid ((Gz.out.below B7e.out (Nat.le_refl _)).above (w' := w16) (fun i _ => by rw [H16.out]))
  have B16 := hid (B14.out.trans (Q16.out.mono B14.out.size))
  have k45 := B45.out.size
  have k56 := B56.out.size
  have k67 := B67.out.size
  have k2 := B4.out.size
  have B4 := hid B4.out
  clear Gz B5e B7e B14 B8e B8 B58 B68 B78 B7 B67 B6 B56 B5 B45 Vy Vy2 H16 Q16
  -- spoil(x)
  have D3 := hid (spoil_got Gx.out Hgx.out)
  go_wp2_with fail
  refine D3.out.mono ?_
  rintro e w17 ⟨rfl, b17, o17⟩
  have B17 := hid (B16.out.trans (b17.mono (by omega)))
  have Gz11 := hid (Gz10.out.above (fun i hi => o17 i (by omega)))
  clear D3 b17 o17 Gz10 Gx Hgx B16
  -- spoil(z)
  have D4 := hid (spoil_got (w := w17) Gz11.out (fun i _ _ => rfl))
  go_wp2_with fail
  refine D4.out.mono ?_
  rintro e w18 ⟨rfl, b18, _⟩
  have B18 := hid (B17.out.trans (b18.mono (by omega)))
  clear D4 b18 B17 Gz11
  -- Same(own, a), Same(other, b)
  have D5 := hid (rsame_any (Ho.out.below B18.out) (Ha2.out.below B18.out))
  go_wp2_with fail
  refine D5.out.mono ?_
  rintro e w19 ⟨r1, rfl, hr1, q7, hq7⟩
  obtain rfl : r1 = true := by simpa using hr1
  have B19 : Hid (Below w2.heap.size w2 w19) := by subst hq7; exact below_drewN B18.out q7
  clear hr1 D5 hq7 B18
  have D6 := hid (rsame_any (Hp.out.below B19.out) (Hb2.out.below B19.out))
  go_wp2_with fail
  refine D6.out.mono ?_
  rintro e w20 ⟨r2, rfl, hr2, q8, hq8⟩
  obtain rfl : r2 = true := by simpa using hr2
  have B20 : Hid (Below w2.heap.size w2 w20) := by subst hq8; exact below_drewN B19.out q8
  clear hr2 D6 hq8 B19
  go_wp2_with fail
  go_ret
  exact ⟨rfl, W2.out.trans (B20.out.mono W2.out.size)⟩
end Go.Proofs.Ytgjlifjkikojjaa
