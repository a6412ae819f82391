/- Package mass: Seed; words for the laws of masses. -/
import Derived.Test.YtelalanhalbicaaDoorMsplit
namespace Go.Proofs.YtelalanhalbicaaDoor
open Go.RowKit Go.Shelf

/-- A dyad that is handed back. -/
def DOne (w : World) (M : Int) (e : Ending) (w' : World) : Prop := ∃ d : Dy, e = .returned (dyv d) ∧ Hid (Owd w.heap.size w' M d) ∧ Hid (Below w.heap.size w w')
theorem of_own (n : Int) {T : Int} (hT : (tp 4000 : Int) = T) (hn : -9223372036854775808 ≤ n ∧ n ≤ 9223372036854775807) (w : World) : Calls Tryd.prog 34 #[.int .i64 n] w (DOne w (n * T)) := by
  subst hT
  refine (dof_dn n hn w).mono ?_
  rintro e w' ⟨v, rfl, HD, HB⟩
  obtain ⟨d, rfl, hO⟩ := HD.out.own
  exact ⟨d, rfl, hO, HB⟩
theorem ret_dy {fn : Func} {R : Ending → World → Prop} {a : Act} {w : World} {p : Tmp} {g : Nat} {d : Dy} (h : fn.results = #[.cell p 24]) (hp : a.tmps.getD p undef = .pointer (some ⟨g, 0, none⟩))
    (hd : a.defers = []) (hg : Dbox w g d.s (.slice d.A d.n d.c) d.x) (hR : R (.returned (dyv d)) w) : bodyPost Tryd.prog fn R .ret a w := ret_one h hp hd hg hR

/-- A mass in a variable of its own. -/
theorem new_mass (w : World) (D : Nat → Dy) : Mbox (mstore (w.alloc (.cells #[.bool false, .slice none 0 0, .int .i64 0, .bool false, .slice none 0 0, .int .i64 0, .bool false, .slice none 0 0, .int .i64 0, .bool false, .slice none 0 0, .int .i64 0] 26)) w.heap.size D) w.heap.size D ∧ Below w.heap.size w (mstore (w.alloc (.cells #[.bool false, .slice none 0 0, .int .i64 0, .bool false, .slice none 0 0, .int .i64 0, .bool false, .slice none 0 0, .int .i64 0, .bool false, .slice none 0 0, .int .i64 0] 26)) w.heap.size D) := by
  have h1 : Mbox (w.alloc (.cells #[.bool false, .slice none 0 0, .int .i64 0, .bool false, .slice none 0 0, .int .i64 0, .bool false, .slice none 0 0, .int .i64 0, .bool false, .slice none 0 0, .int .i64 0] 26)) w.heap.size D0 := heap_alloc_new w _
  exact ⟨h1.store D, below_row ((Below.refl _ w).alloc (Nat.le_refl _) _) (grown_mstore _ _ D) (by simp) (Nat.le_refl _)⟩
theorem fresh_mass (w : World) : Mbox (w.alloc (.cells #[.bool false, .slice none 0 0, .int .i64 0, .bool false, .slice none 0 0, .int .i64 0, .bool false, .slice none 0 0, .int .i64 0, .bool false, .slice none 0 0, .int .i64 0] 26)) w.heap.size D0 := heap_alloc_new w _
theorem msame_val {w : World} {q p : Nat → Prop} {M N : Nat → Int} {D E : Nat → Dy} (h : Mar w q M D) (h2 : Mar w p N E) (hq : All4 q) (hp : All4 p) :
    Calls Tryd.prog 19 #[.agg (mcells D), .agg (mcells E)] w (Says w (∀ k, k < 4 → M k = N k)) := by
  refine msame_raw h.mrd h2.mrd (hid ?_)
  have key : ∀ k, k < 4 → (M k = N k ↔ Dsm (D k) (E k)) := fun k hk => by
    have a := h k hk
    have b := h2 k hk
    obtain ⟨X, hX, hM⟩ := a.val (hq k hk)
    obtain ⟨Y, hY, hN⟩ := b.val (hp k hk)
    have m1 := a.may.1 (hq k hk)
    have m2 := b.may.1 (hp k hk)
    obtain ⟨X', e1, c1, l1⟩ := may_canon m1 a.rd.out
    obtain ⟨Y', e2, c2, l2⟩ := may_canon m2 b.rd.out
    obtain rfl : X = X' := by omega
    obtain rfl : Y = Y' := by omega
    constructor
    · intro he
      rw [hM, hN] at he
      obtain ⟨hs, hV, hXY⟩ := canon_uniq c1 c2 (by omega) (by omega) he
      have hf := a.rd.same b.rd m1.1.2 m2.1.2 hV
      exact ⟨hs, by rw [hX, hY, hXY], hf.1, hf.2⟩
    · rintro ⟨hs, hx, hn, hf⟩
      obtain rfl : X = Y := by omega
      rw [hM, hN, hs, hn, vl_congr (fun j _ => hf j)]
  exact ⟨fun h0 k hk => (key k hk).1 (h0 k hk), fun h0 k hk => (key k hk).2 (h0 k hk)⟩
theorem msame_true {w : World} {q p : Nat → Prop} {M N : Nat → Int} {D E : Nat → Dy} (h : Mar w q M D) (h2 : Mar w p N E) (hq : All4 q) (hp : All4 p) (he : ∀ k, k < 4 → M k = N k) :
    Calls Tryd.prog 19 #[.agg (mcells D), .agg (mcells E)] w fun e w' => e = .returned (.bool true) ∧ Hid (Below w.heap.size w w') := by
  refine (msame_val h h2 hq hp).mono ?_
  rintro e w' ⟨r, rfl, Hr, hb⟩
  obtain rfl : r = true := Hr.out.2 he
  exact ⟨rfl, hb⟩
theorem mar4 {w : World} {q0 q1 q2 q3 : Prop} {M0 M1 M2 M3 : Int} {a b c d : Dy} (h0 : Dyr w q0 M0 a) (h1 : Dyr w q1 M1 b) (h2 : Dyr w q2 M2 c) (h3 : Dyr w q3 M3 d) : Mar w (of4 q0 q1 q2 q3) (of4 M0 M1 M2 M3) (of4 a b c d) :=
  all_of4 (P := fun k => Dyr w (of4 q0 q1 q2 q3 k) (of4 M0 M1 M2 M3 k) (of4 a b c d k)) h0 h1 h2 h3
theorem all_true : All4 (of4 True True True True) := all_of4 (P := fun k => of4 True True True True k) trivial trivial trivial trivial
theorem mow4 {B : Nat} {w : World} {M0 M1 M2 M3 : Int} {a b c d : Dy} (h0 : Owd B w M0 a) (h1 : Owd B w M1 b) (h2 : Owd B w M2 c) (h3 : Owd B w M3 d) : Mow B w (of4 M0 M1 M2 M3) (of4 a b c d) :=
  all_of4 (P := fun k => Owd B w (of4 M0 M1 M2 M3 k) (of4 a b c d k)) h0 h1 h2 h3
/-- A mass of the call's own, and OK. -/
def MGood (w : World) (M : Nat → Int) (e : Ending) (w' : World) : Prop := ∃ D, e = .returned (.tuple #[.agg (mcells D), .int .i64 0]) ∧ Hid (Mow w.heap.size w' M D) ∧ Hid (Below w.heap.size w w')
theorem MRes.good {w w' : World} {E : Int → Prop} {M : Nat → Int} {e : Ending} (h : MRes w E M e w') (h0 : ∀ er, E er → er = 0) : MGood w M e w' := by
  obtain ⟨D, er, rfl, HE, HM, HB⟩ := h
  obtain rfl := h0 _ HE.out
  have hm := HM.out
  rw [resM_ok rfl] at hm
  exact ⟨D, rfl, hm, HB⟩

set_option maxHeartbeats 1600000 in
theorem mseed_first {x T : Int} (hT : (tp 4000 : Int) = T) (hx : -2147483647 ≤ x ∧ x ≤ 2147483647) (w : World) :
    Calls Tryd.prog 13 #[.int .i64 x, .bool true] w (MGood w (of4 (x * T) T T (x * T))) := by
  have HT := hid hT
  clear hT
  have F0 := hid (fresh_mass w)
  obtain ⟨W, hW⟩ : ∃ W, W = w.alloc (.cells #[.bool false, .slice none 0 0, .int .i64 0, .bool false, .slice none 0 0, .int .i64 0, .bool false, .slice none 0 0, .int .i64 0, .bool false, .slice none 0 0, .int .i64 0] 26) := ⟨_, rfl⟩
  have HW := hid hW
  rw [← hW] at F0
  have K := hid (show Below w.heap.size w W from hW ▸ (Below.refl _ w).alloc (Nat.le_refl _) _)
  have BZ := hid (show w.heap.size + 1 ≤ W.heap.size by rw [hW]; simp)
  have c1 : ¬ x < -2147483647 := by omega
  have c2 : ¬ 2147483647 < x := by omega
  have hwx : IntKind.i64.wrap x = x := IntWalk.i64_in _ (by omega)
  clear hW
  go_enter Tryd.func13, Tryd.ntmps13
  go_upto_region 1 with fail
  rw [← HW.out]
  go_wp2_with fail
  refine (of_own x HT.out (by omega) _).mono ?_
  rintro e w0 ⟨a, rfl, Ha, hb⟩
  replace K := hid (K.out.trans (hb.out.mono K.out.size))
  replace F0 := hid (F0.out.below hb.out F0.out.lt)
  replace Ha := hid (Ha.out.mono (B' := W.heap.size) (Nat.le_refl _))
  have S0 := hid (hb.out.size)
  obtain ⟨sa, Aa, na, ca, xa, fa⟩ := a
  clear hb
  go_wp2_with fail
  refine (of_own 1 HT.out (by omega) _).mono ?_
  rintro e w1 ⟨b, rfl, Hb, hb⟩
  replace K := hid (K.out.trans (hb.out.mono K.out.size))
  replace F0 := hid (F0.out.below hb.out F0.out.lt)
  replace Ha := hid (Ha.out.below hb.out)
  replace Hb := hid (Hb.out.mono (B' := W.heap.size) S0.out)
  have S1 := hid (Nat.le_trans S0.out hb.out.size)
  obtain ⟨sb, Ab, nb, cb, xb, fb⟩ := b
  clear hb
  go_wp2_with fail
  refine (of_own x HT.out (by omega) _).mono ?_
  rintro e w2 ⟨c, rfl, Hc, hb⟩
  replace K := hid (K.out.trans (hb.out.mono K.out.size))
  replace F0 := hid (F0.out.below hb.out F0.out.lt)
  replace Ha := hid (Ha.out.below hb.out)
  replace Hb := hid (Hb.out.below hb.out)
  replace Hc := hid (Hc.out.mono (B' := W.heap.size) S1.out)
  have S2 := hid (Nat.le_trans S1.out hb.out.size)
  obtain ⟨sc, Ac, nc, cc, xc, fc⟩ := c
  clear hb
  have HM : Hid (Mow W.heap.size w2 (of4 (x * T) (1 * T) 0 (x * T)) (of4 ⟨sa, Aa, na, ca, xa, fa⟩ ⟨sb, Ab, nb, cb, xb, fb⟩ d0 ⟨sc, Ac, nc, cc, xc, fc⟩)) := hid (mow4 Ha.out Hb.out (Owd.zero _ _) Hc.out)
  clear Ha Hb Hc
  have G0 := hid (fresh_mass w2)
  have hbld : #[.bool sa, .slice Aa na ca, .int .i64 xa, .bool sb, .slice Ab nb cb, .int .i64 xb, .bool false, .slice none 0 0, .int .i64 0, .bool sc, .slice Ac nc cc, .int .i64 xc] = mcells (of4 ⟨sa, Aa, na, ca, xa, fa⟩ ⟨sb, Ab, nb, cb, xb, fb⟩ d0 ⟨sc, Ac, nc, cc, xc, fc⟩) := rfl
  have Hbld := hid hbld
  clear hbld
  go_upto_region 5 with (first
    | (with_reducible refine wp_mstore_ rfl (.tmp 7) (.tmp 21) rfl w2.heap.size D0 (of4 ⟨sa, Aa, na, ca, xa, fa⟩ ⟨sb, Ab, nb, cb, xb, fb⟩ d0 ⟨sc, Ac, nc, cc, xc, fc⟩) _ rfl rfl Hbld.out G0.out ?_)
    | fail)
  obtain ⟨W3, hW3⟩ : ∃ W, W = mstore (w2.alloc (.cells #[.bool false, .slice none 0 0, .int .i64 0, .bool false, .slice none 0 0, .int .i64 0, .bool false, .slice none 0 0, .int .i64 0, .bool false, .slice none 0 0, .int .i64 0] 26)) w2.heap.size (of4 ⟨sa, Aa, na, ca, xa, fa⟩ ⟨sb, Ab, nb, cb, xb, fb⟩ d0 ⟨sc, Ac, nc, cc, xc, fc⟩) := ⟨_, rfl⟩
  rw [← hW3]
  have P3 : Hid (Mbox W3 w2.heap.size (of4 ⟨sa, Aa, na, ca, xa, fa⟩ ⟨sb, Ab, nb, cb, xb, fb⟩ d0 ⟨sc, Ac, nc, cc, xc, fc⟩)) := hid (hW3 ▸ (new_mass w2 _).1)
  have hn : Hid (Below w2.heap.size w2 W3) := hid (hW3 ▸ (new_mass w2 _).2)
  clear hW3 G0
  replace K := hid (K.out.trans (hn.out.mono K.out.size))
  replace F0 := hid (F0.out.below hn.out F0.out.lt)
  replace HM := hid (HM.out.below hn.out)
  have S3 := hid (Nat.le_trans S2.out hn.out.size)
  clear hn Hbld
  go_wp2_with fail
  refine (of_own 1 HT.out (by omega) _).mono ?_
  rintro e w4 ⟨d, rfl, Hd, hb⟩
  replace K := hid (K.out.trans (hb.out.mono K.out.size))
  replace F0 := hid (F0.out.below hb.out F0.out.lt)
  replace HM := hid (HM.out.below hb.out)
  replace P3 := hid (P3.out.below hb.out P3.out.lt)
  replace Hd := hid (Hd.out.mono (B' := W.heap.size) S3.out)
  obtain ⟨sd, Ad, nd, cd, xd, fd⟩ := d
  clear hb
  have b6 := P3.out.at_ 6 _ rfl
  have b7 := P3.out.at_ 7 _ rfl
  have b8 := P3.out.at_ 8 _ rfl
  have g6 := P3.out.frozen 6
  have g7 := P3.out.frozen 7
  have g8 := P3.out.frozen 8
  have P5 := hid (P3.out.put (k := 2) (by omega) ⟨sd, Ad, nd, cd, xd, fd⟩)
  have hlt := F0.out.lt
  have F5 := hid (F0.out.mput_far (g := w2.heap.size) (k := 2) (d := ⟨sd, Ad, nd, cd, xd, fd⟩) (by have := S2.out; have := BZ.out; omega))
  have K5 := hid (below_mput (g := w2.heap.size) (k := 2) (d := ⟨sd, Ad, nd, cd, xd, fd⟩) K.out (by have := S2.out; have := BZ.out; omega))
  have HM5 : Hid (∀ k, k < 4 → Owd W.heap.size (mput w4 w2.heap.size 2 ⟨sd, Ad, nd, cd, xd, fd⟩) (of4 (x * T) T T (x * T) k) (updD (of4 ⟨sa, Aa, na, ca, xa, fa⟩ ⟨sb, Ab, nb, cb, xb, fb⟩ d0 ⟨sc, Ac, nc, cc, xc, fc⟩) 2 ⟨sd, Ad, nd, cd, xd, fd⟩ k)) := hid (by
    have hM := HM.out
    have hd := Hd.out
    have gm := grown_mput w4 w2.heap.size 2 ⟨sd, Ad, nd, cd, xd, fd⟩
    have h0 := (hM 0 (by omega)).grown_box P3.out gm
    have h1 := (hM 1 (by omega)).grown_box P3.out gm
    have h3 := (hM 3 (by omega)).grown_box P3.out gm
    have h2 := hd.grown_box P3.out gm
    rw [Int.one_mul] at h2
    have h1 : Owd W.heap.size (mput w4 w2.heap.size 2 ⟨sd, Ad, nd, cd, xd, fd⟩) (1 * T) _ := h1
    rw [Int.one_mul] at h1
    exact all_of4 (P := fun k => Owd W.heap.size (mput w4 w2.heap.size 2 ⟨sd, Ad, nd, cd, xd, fd⟩) (of4 (x * T) T T (x * T) k) (updD (of4 ⟨sa, Aa, na, ca, xa, fa⟩ ⟨sb, Ab, nb, cb, xb, fb⟩ d0 ⟨sc, Ac, nc, cc, xc, fc⟩) 2 ⟨sd, Ad, nd, cd, xd, fd⟩ k)) h0 h1 h2 h3)
  clear hlt
  go_upto_region 7 with fail
  change Code.wp _ _ _ _ (mput w4 w2.heap.size 2 ⟨sd, Ad, nd, cd, xd, fd⟩)
  generalize mput w4 w2.heap.size 2 ⟨sd, Ad, nd, cd, xd, fd⟩ = W5 at *
  clear b6 b7 b8 g6 g7 g8
  go_wp2_with (first
    | (with_reducible refine wp_mload rfl (.tmp 7) rfl w2.heap.size (updD (of4 ⟨sa, Aa, na, ca, xa, fa⟩ ⟨sb, Ab, nb, cb, xb, fb⟩ d0 ⟨sc, Ac, nc, cc, xc, fc⟩) 2 ⟨sd, Ad, nd, cd, xd, fd⟩) rfl P5.out ?_)
    | (with_reducible refine wp_mstore rfl (.tmp 4) (.tmp 25) rfl w.heap.size D0 (updD (of4 ⟨sa, Aa, na, ca, xa, fa⟩ ⟨sb, Ab, nb, cb, xb, fb⟩ d0 ⟨sc, Ac, nc, cc, xc, fc⟩) 2 ⟨sd, Ad, nd, cd, xd, fd⟩) rfl rfl F5.out ?_)
    | fail)
  have g9 := grown_mstore W5 w.heap.size (updD (of4 ⟨sa, Aa, na, ca, xa, fa⟩ ⟨sb, Ab, nb, cb, xb, fb⟩ d0 ⟨sc, Ac, nc, cc, xc, fc⟩) 2 ⟨sd, Ad, nd, cd, xd, fd⟩)
  exact ret_mass rfl rfl rfl rfl (F5.out.store _) ⟨_, rfl, (fun k hk => ((HM5.out k hk).grown g9 BZ.out).mono (by have := BZ.out; omega)), below_row K5.out g9 K5.out.size (Nat.le_refl _)⟩

set_option maxHeartbeats 1600000 in
theorem mseed_later {x T : Int} (hT : (tp 4000 : Int) = T) (hx : -2147483647 ≤ x ∧ x ≤ 2147483647) (w : World) :
    Calls Tryd.prog 13 #[.int .i64 x, .bool false] w (MGood w (of4 (x * T) T 0 (x * T))) := by
  have HT := hid hT
  clear hT
  have F0 := hid (fresh_mass w)
  obtain ⟨W, hW⟩ : ∃ W, W = w.alloc (.cells #[.bool false, .slice none 0 0, .int .i64 0, .bool false, .slice none 0 0, .int .i64 0, .bool false, .slice none 0 0, .int .i64 0, .bool false, .slice none 0 0, .int .i64 0] 26) := ⟨_, rfl⟩
  have HW := hid hW
  rw [← hW] at F0
  have K := hid (show Below w.heap.size w W from hW ▸ (Below.refl _ w).alloc (Nat.le_refl _) _)
  have BZ := hid (show w.heap.size + 1 ≤ W.heap.size by rw [hW]; simp)
  have c1 : ¬ x < -2147483647 := by omega
  have c2 : ¬ 2147483647 < x := by omega
  have hwx : IntKind.i64.wrap x = x := IntWalk.i64_in _ (by omega)
  clear hW
  go_enter Tryd.func13, Tryd.ntmps13
  go_upto_region 1 with fail
  rw [← HW.out]
  go_wp2_with fail
  refine (of_own x HT.out (by omega) _).mono ?_
  rintro e w0 ⟨a, rfl, Ha, hb⟩
  replace K := hid (K.out.trans (hb.out.mono K.out.size))
  replace F0 := hid (F0.out.below hb.out F0.out.lt)
  replace Ha := hid (Ha.out.mono (B' := W.heap.size) (Nat.le_refl _))
  have S0 := hid (hb.out.size)
  obtain ⟨sa, Aa, na, ca, xa, fa⟩ := a
  clear hb
  go_wp2_with fail
  refine (of_own 1 HT.out (by omega) _).mono ?_
  rintro e w1 ⟨b, rfl, Hb, hb⟩
  replace K := hid (K.out.trans (hb.out.mono K.out.size))
  replace F0 := hid (F0.out.below hb.out F0.out.lt)
  replace Ha := hid (Ha.out.below hb.out)
  replace Hb := hid (Hb.out.mono (B' := W.heap.size) S0.out)
  have S1 := hid (Nat.le_trans S0.out hb.out.size)
  obtain ⟨sb, Ab, nb, cb, xb, fb⟩ := b
  clear hb
  go_wp2_with fail
  refine (of_own x HT.out (by omega) _).mono ?_
  rintro e w2 ⟨c, rfl, Hc, hb⟩
  replace K := hid (K.out.trans (hb.out.mono K.out.size))
  replace F0 := hid (F0.out.below hb.out F0.out.lt)
  replace Ha := hid (Ha.out.below hb.out)
  replace Hb := hid (Hb.out.below hb.out)
  replace Hc := hid (Hc.out.mono (B' := W.heap.size) S1.out)
  have S2 := hid (Nat.le_trans S1.out hb.out.size)
  obtain ⟨sc, Ac, nc, cc, xc, fc⟩ := c
  clear hb
  have HM : Hid (Mow W.heap.size w2 (of4 (x * T) (1 * T) 0 (x * T)) (of4 ⟨sa, Aa, na, ca, xa, fa⟩ ⟨sb, Ab, nb, cb, xb, fb⟩ d0 ⟨sc, Ac, nc, cc, xc, fc⟩)) := hid (mow4 Ha.out Hb.out (Owd.zero _ _) Hc.out)
  clear Ha Hb Hc
  have G0 := hid (fresh_mass w2)
  have hbld : #[.bool sa, .slice Aa na ca, .int .i64 xa, .bool sb, .slice Ab nb cb, .int .i64 xb, .bool false, .slice none 0 0, .int .i64 0, .bool sc, .slice Ac nc cc, .int .i64 xc] = mcells (of4 ⟨sa, Aa, na, ca, xa, fa⟩ ⟨sb, Ab, nb, cb, xb, fb⟩ d0 ⟨sc, Ac, nc, cc, xc, fc⟩) := rfl
  have Hbld := hid hbld
  clear hbld
  go_upto_region 5 with (first
    | (with_reducible refine wp_mstore_ rfl (.tmp 7) (.tmp 21) rfl w2.heap.size D0 (of4 ⟨sa, Aa, na, ca, xa, fa⟩ ⟨sb, Ab, nb, cb, xb, fb⟩ d0 ⟨sc, Ac, nc, cc, xc, fc⟩) _ rfl rfl Hbld.out G0.out ?_)
    | fail)
  obtain ⟨W3, hW3⟩ : ∃ W, W = mstore (w2.alloc (.cells #[.bool false, .slice none 0 0, .int .i64 0, .bool false, .slice none 0 0, .int .i64 0, .bool false, .slice none 0 0, .int .i64 0, .bool false, .slice none 0 0, .int .i64 0] 26)) w2.heap.size (of4 ⟨sa, Aa, na, ca, xa, fa⟩ ⟨sb, Ab, nb, cb, xb, fb⟩ d0 ⟨sc, Ac, nc, cc, xc, fc⟩) := ⟨_, rfl⟩
  rw [← hW3]
  have P3 : Hid (Mbox W3 w2.heap.size (of4 ⟨sa, Aa, na, ca, xa, fa⟩ ⟨sb, Ab, nb, cb, xb, fb⟩ d0 ⟨sc, Ac, nc, cc, xc, fc⟩)) := hid (hW3 ▸ (new_mass w2 _).1)
  have hn : Hid (Below w2.heap.size w2 W3) := hid (hW3 ▸ (new_mass w2 _).2)
  clear hW3 G0
  replace K := hid (K.out.trans (hn.out.mono K.out.size))
  replace F0 := hid (F0.out.below hn.out F0.out.lt)
  replace HM := hid (HM.out.below hn.out)
  have S3 := hid (Nat.le_trans S2.out hn.out.size)
  clear hn Hbld
  have HM5 : Hid (∀ k, k < 4 → Owd W.heap.size W3 (of4 (x * T) T 0 (x * T) k) ((of4 ⟨sa, Aa, na, ca, xa, fa⟩ ⟨sb, Ab, nb, cb, xb, fb⟩ d0 ⟨sc, Ac, nc, cc, xc, fc⟩) k)) := hid (by
    have hM := HM.out
    rw [Int.one_mul] at hM
    exact hM)
  go_wp2_with (first
    | (with_reducible refine wp_mload rfl (.tmp 7) rfl w2.heap.size (of4 ⟨sa, Aa, na, ca, xa, fa⟩ ⟨sb, Ab, nb, cb, xb, fb⟩ d0 ⟨sc, Ac, nc, cc, xc, fc⟩) rfl P3.out ?_)
    | (with_reducible refine wp_mstore rfl (.tmp 4) (.tmp 25) rfl w.heap.size D0 (of4 ⟨sa, Aa, na, ca, xa, fa⟩ ⟨sb, Ab, nb, cb, xb, fb⟩ d0 ⟨sc, Ac, nc, cc, xc, fc⟩) rfl rfl F0.out ?_)
    | fail)
  have g9 := grown_mstore W3 w.heap.size (of4 ⟨sa, Aa, na, ca, xa, fa⟩ ⟨sb, Ab, nb, cb, xb, fb⟩ d0 ⟨sc, Ac, nc, cc, xc, fc⟩)
  exact ret_mass rfl rfl rfl rfl (F0.out.store _) ⟨_, rfl, (fun k hk => ((HM5.out k hk).grown g9 BZ.out).mono (by have := BZ.out; omega)), below_row K.out g9 K.out.size (Nat.le_refl _)⟩

set_option maxHeartbeats 1600000 in
theorem mseed_bad {x : Int} (hx : ¬ (-2147483647 ≤ x ∧ x ≤ 2147483647)) (b : Bool) (w : World) :
    Calls Tryd.prog 13 #[.int .i64 x, .bool b] w fun e w' => e = .returned (.tuple #[.agg (mcells D0), .int .i64 2]) ∧ Hid (Below w.heap.size w w') := by
  have F0 := hid (fresh_mass w)
  have hcase : x < -2147483647 ∨ (¬ x < -2147483647 ∧ 2147483647 < x) := by omega
  rcases hcase with h | ⟨h, h2⟩
  all_goals
    go_enter Tryd.func13, Tryd.ntmps13
    go_wp2_with (first
      | (with_reducible refine wp_mzero rfl (.tmp 4) (.tmp 14) rfl w.heap.size D0 rfl rfl F0.out ?_)
      | fail)
    exact ret_mass rfl rfl rfl rfl (F0.out.store D0) ⟨rfl, (new_mass w D0).2⟩

end Go.Proofs.YtelalanhalbicaaDoor
