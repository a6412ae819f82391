/- The law's own helper of package ratio: alive. -/
import Derived.Test.YtmaggpigodkhhaaDoorRn
namespace Go.Proofs.YtmaggpigodkhhaaDoor
open Go.RowKit

/-- Whatever is small enough may be. -/
theorem okay_any (s : Bool) : ∀ (k V : Nat), k ≤ 1024 → V < pw 40 → Okay (num s (V * tp (4000 - k)))
  | 0, V, _, hV => by
    rcases Nat.eq_zero_or_pos V with h0 | h0
    · subst h0
      rw [Nat.zero_mul, num_zero]
      exact okay_zero
    · exact ⟨s, V, 0, ⟨fun h => by omega, fun h => absurd h (by omega)⟩, hV, by omega, rfl⟩
  | k + 1, V, hk, hV => by
    by_cases h : V % 2 = 1
    · exact ⟨s, V, k + 1, ⟨fun h => by omega, fun _ => h⟩, hV, hk, rfl⟩
    · obtain ⟨U, rfl⟩ : ∃ U, V = 2 * U := ⟨V / 2, by omega⟩
      have e : 2 * U * tp (4000 - (k + 1)) = U * tp (4000 - k) := by
        rw [show 4000 - k = 4000 - (k + 1) + 1 by omega, tp_succ, Nat.mul_comm 2 U, Nat.mul_assoc, Nat.mul_comm 2]
      rw [e]
      exact okay_any s k U (by omega) (by omega)
theorem okay_int {Q : Int} {k : Nat} (hk : k ≤ 1024) (hq : -18446744073709551616 ≤ Q ∧ Q ≤ 18446744073709551616) : Okay (Q * (tp (4000 - k) : Int)) := by
  have h64 : (18446744073709551616 : Nat) < pw 40 := Nat.lt_of_lt_of_le (m := pw 3) (by decide) (pw_mono (by omega))
  rcases Int.lt_or_le Q 0 with h | h
  · have e : Q * (tp (4000 - k) : Int) = num true (Q.natAbs * tp (4000 - k)) := by
      rw [num_mul]
      congr 1
      simp [num]
      omega
    rw [e]
    exact okay_any _ _ _ hk (by omega)
  · have e : Q * (tp (4000 - k) : Int) = num false (Q.natAbs * tp (4000 - k)) := by
      rw [num_mul]
      congr 1
      simp [num]
      omega
    rw [e]
    exact okay_any _ _ _ hk (by omega)

theorem Qerrs.zero_ {p q : Prop} {N k R er : Int} (h : Qerrs p q N k R er) (hp : p) (hq : q) (hN : 0 < N) (hk : 0 ≤ k ∧ k ≤ 64) (ho : Okay R) : er = 0 := (h.2.2 ⟨hp, hq⟩ ⟨hN, hk.1, hk.2⟩).uniq (.inl ⟨ho, rfl⟩)
theorem DRes.goodq {w w' : World} {E : Int → Prop} {M : Int} {e : Ending} (h : DRes w E M e w') (h0 : ∀ er, E er → er = 0) : Good w M e w' := by
  obtain ⟨d, er, rfl, HE, HD, HB⟩ := h
  obtain rfl : er = 0 := h0 _ HE.out
  have hd := HD.out
  rw [resD_ok rfl] at hd
  obtain ⟨s, A, n, c, x, rfl⟩ := hd.parts
  exact ⟨s, A, n, c, x, rfl, hd.arg, HB⟩
theorem tp_posi : (0 : Int) < (tp 4000 : Int) := by have := tp_pos 4000; omega
theorem scale_div (m n P : Int) : m * (tp 4000 : Int) * P / (n * (tp 4000 : Int)) = m * P / n := by
  rw [Int.mul_right_comm, Int.mul_ediv_mul_of_pos_left _ _ tp_posi]

theorem scale_near (m n T : Int) (hT : 0 < T) : (2 * (m * T) + n * T) / (2 * (n * T)) = (2 * m + n) / (2 * n) := by
  rw [← Int.mul_assoc, ← Int.mul_assoc, ← Int.add_mul, Int.mul_ediv_mul_of_pos_left _ _ hT]

section
variable {w : World} {m n Q : Int} {v u : Value}
theorem floor_good {k : Nat} (h1 : DArg w True (m * (tp 4000 : Int)) v) (h2 : DArg w True (n * (tp 4000 : Int)) u) (hn : 0 < n) (hk : k ≤ 64) (hT : Tab w) (hT64 : Tab64 w) (hQ : m * 2 ^ k / n = Q) (hq : -18446744073709551616 ≤ Q ∧ Q ≤ 18446744073709551616) :
    Calls Tryd.prog 12 #[v, u, .int .i64 (k : Int)] w (Good w (Q * (tp (4000 - k) : Int))) := by
  have h := rfloor_any (k := (k : Int)) h1 h2 hT hT64
  rw [Int.toNat_natCast, scale_div, hQ] at h
  exact h.mono fun e w' h => h.goodq fun er he => he.zero_ trivial trivial (Int.mul_pos hn tp_posi) (by omega) (okay_int (by omega) hq)
theorem ceil_good {k : Nat} (h1 : DArg w True (m * (tp 4000 : Int)) v) (h2 : DArg w True (n * (tp 4000 : Int)) u) (hn : 0 < n) (hk : k ≤ 64) (hT : Tab w) (hT64 : Tab64 w) (hQ : -(-(m * 2 ^ k) / n) = Q) (hq : -18446744073709551616 ≤ Q ∧ Q ≤ 18446744073709551616) :
    Calls Tryd.prog 14 #[v, u, .int .i64 (k : Int)] w (Good w (Q * (tp (4000 - k) : Int))) := by
  have h := rceil_any (k := (k : Int)) h1 h2 hT hT64
  have e : -(m * (tp 4000 : Int) * 2 ^ k) = -m * (tp 4000 : Int) * 2 ^ k := by simp [Int.neg_mul]
  have hQ2 : -(-m * 2 ^ k / n) = Q := by rw [Int.neg_mul]; exact hQ
  rw [Int.toNat_natCast, e, scale_div, hQ2] at h
  exact h.mono fun e w' h => h.goodq fun er he => he.zero_ trivial trivial (Int.mul_pos hn tp_posi) (by omega) (okay_int (by omega) hq)
theorem near_good (h1 : DArg w True (m * (tp 4000 : Int)) v) (h2 : DArg w True (n * (tp 4000 : Int)) u) (hn : 0 < n) (hT : Tab w) (hT64 : Tab64 w) (hQ : (2 * m + n) / (2 * n) = Q) (hq : -18446744073709551616 ≤ Q ∧ Q ≤ 18446744073709551616) :
    Calls Tryd.prog 16 #[v, u] w (Good w (Q * (tp 4000 : Int))) := by
  have h := rnear_any h1 h2 hT hT64
  have e := (scale_near m n _ tp_posi).trans hQ
  rw [e] at h
  have ho := okay_int (k := 0) (by omega) hq
  rw [Nat.sub_zero] at ho
  exact h.mono fun e w' h => h.goodq fun er he => he.zero_ trivial trivial (Int.mul_pos hn tp_posi) (by omega) ho
theorem is_true {M a : Int} {x : Nat} (h1 : DArg w True M v) (hn : -9223372036854775808 ≤ a ∧ a ≤ 9223372036854775807) (hx : x ≤ 1024) (hx2 : x = 0 ∨ a % 2 = 1) (hM : M = a * (tp (4000 - x) : Int)) :
    Calls Tryd.prog 56 #[v, .int .i64 0, .int .i64 a, .int .i64 (x : Int)] w fun e w' => e = .returned (.bool true) ∧ Hid (Below w.heap.size w w') := by
  have h := ris_any h1 hn hx hx2
  rwa [bool_of_dec hM] at h
theorem is_true0 {a : Int} (h1 : DArg w True (a * (tp 4000 : Int)) v) (hn : -9223372036854775808 ≤ a ∧ a ≤ 9223372036854775807) :
    Calls Tryd.prog 56 #[v, .int .i64 0, .int .i64 a, .int .i64 0] w fun e w' => e = .returned (.bool true) ∧ Hid (Below w.heap.size w w') :=
  is_true (x := 0) h1 hn (by omega) (.inl rfl) (by rw [Nat.sub_zero])
theorem of_arg (m : Int) (hm : -9223372036854775808 ≤ m ∧ m ≤ 9223372036854775807) : Calls Tryd.prog 20 #[.int .i64 m] w (One w (m * (tp 4000 : Int))) := by
  refine (dof_dn m hm w).mono ?_
  rintro e w' ⟨d, rfl, HD, HB⟩
  obtain ⟨s, A, m, c, x, rfl⟩ := HD.out.parts
  exact ⟨s, A, m, c, x, rfl, HD.out.arg, HB⟩
end
theorem two_tp : (2 : Int) * (tp (4000 - 2) : Int) = 1 * (tp (4000 - 1) : Int) := by
  have e : tp 3999 = tp 3998 * 2 := tp_succ 3998
  show (2 : Int) * (tp 3998 : Int) = 1 * (tp 3999 : Int)
  rw [e]
  generalize tp 3998 = T
  omega

set_option maxRecDepth 100000 in
set_option maxHeartbeats 12800000 in
theorem ralive_any (w : World) (hT : Tab w) (hT64 : Tab64 w) :
    Calls Tryd.prog 19 #[] w fun e w' => e = .returned (.bool true) ∧ Hid (Below w.heap.size w w') := by
  have HT := hid hT
  have HU := hid hT64
  clear hT hT64
  have K := hid (Below.refl w.heap.size w)
  go_enter Tryd.func19, Tryd.ntmps19
  go_wp2_with fail
  refine (of_arg 1 (by omega)).mono ?_
  rintro e waa ⟨sx, Ax, nx, cx, xx, rfl, D1, hb⟩
  replace K := hid (K.out.trans (hb.out.mono K.out.size))
  clear hb
  go_wp2_with fail
  refine (of_arg 3 (by omega)).mono ?_
  rintro e wba ⟨sy, Ay, ny, cy, xy, rfl, D2, hb⟩
  replace K := hid (K.out.trans (hb.out.mono K.out.size))
  replace D1 := hid (D1.out.below hb.out)
  clear hb
  go_wp2_with fail
  refine (floor_good (k := 2) D1.out D2.out (by omega) (by omega) (HT.out.below K.out HT.out.lt) (HU.out.below K.out HU.out.lt) (Q := 1) (by decide) (by omega)).mono ?_
  rintro e wca ⟨sa, Aa, na, ca, xa, rfl, Ga, hb⟩
  replace K := hid (K.out.trans (hb.out.mono K.out.size))
  clear hb D1 D2
  go_upto_region 2 with fail
  obtain ⟨Ua, hU⟩ : ∃ U, U = wca.alloc (.cells #[.bool sa, .slice Aa na ca, .int .i64 xa] 24) := ⟨_, rfl⟩
  rw [← hU]
  have Pa : Hid (Dbox Ua wca.heap.size sa (.slice Aa na ca) xa) := hid (hU ▸ heap_alloc_new _ _)
  have ha : Hid (Below wca.heap.size wca Ua) := hid (hU ▸ (Below.refl _ wca).alloc (Nat.le_refl _) _)
  clear hU
  replace K := hid (K.out.trans (ha.out.mono K.out.size))
  replace Ga := hid (Ga.out.below ha.out)
  clear ha
  go_wp2_with fail
  refine (of_arg 1 (by omega)).mono ?_
  rintro e wab ⟨sx, Ax, nx, cx, xx, rfl, D1, hb⟩
  replace K := hid (K.out.trans (hb.out.mono K.out.size))
  replace Ga := hid (Ga.out.below hb.out)
  replace Pa := hid (Pa.out.below hb.out Pa.out.lt)
  clear hb
  go_wp2_with fail
  refine (of_arg 3 (by omega)).mono ?_
  rintro e wbb ⟨sy, Ay, ny, cy, xy, rfl, D2, hb⟩
  replace K := hid (K.out.trans (hb.out.mono K.out.size))
  replace Ga := hid (Ga.out.below hb.out)
  replace Pa := hid (Pa.out.below hb.out Pa.out.lt)
  replace D1 := hid (D1.out.below hb.out)
  clear hb
  go_wp2_with fail
  refine (ceil_good (k := 2) D1.out D2.out (by omega) (by omega) (HT.out.below K.out HT.out.lt) (HU.out.below K.out HU.out.lt) (Q := 2) (by decide) (by omega)).mono ?_
  rintro e wcb ⟨sb, Ab, nb, cb, xb, rfl, Gb, hb⟩
  replace K := hid (K.out.trans (hb.out.mono K.out.size))
  replace Ga := hid (Ga.out.below hb.out)
  replace Pa := hid (Pa.out.below hb.out Pa.out.lt)
  clear hb D1 D2
  go_upto_region 3 with fail
  obtain ⟨Ub, hU⟩ : ∃ U, U = wcb.alloc (.cells #[.bool sb, .slice Ab nb cb, .int .i64 xb] 24) := ⟨_, rfl⟩
  rw [← hU]
  have Pb : Hid (Dbox Ub wcb.heap.size sb (.slice Ab nb cb) xb) := hid (hU ▸ heap_alloc_new _ _)
  have ha : Hid (Below wcb.heap.size wcb Ub) := hid (hU ▸ (Below.refl _ wcb).alloc (Nat.le_refl _) _)
  clear hU
  replace K := hid (K.out.trans (ha.out.mono K.out.size))
  replace Ga := hid (Ga.out.below ha.out)
  replace Pa := hid (Pa.out.below ha.out Pa.out.lt)
  replace Gb := hid (Gb.out.below ha.out)
  clear ha
  go_wp2_with fail
  refine (of_arg (-1) (by omega)).mono ?_
  rintro e wac ⟨sx, Ax, nx, cx, xx, rfl, D1, hb⟩
  replace K := hid (K.out.trans (hb.out.mono K.out.size))
  replace Ga := hid (Ga.out.below hb.out)
  replace Pa := hid (Pa.out.below hb.out Pa.out.lt)
  replace Gb := hid (Gb.out.below hb.out)
  replace Pb := hid (Pb.out.below hb.out Pb.out.lt)
  clear hb
  go_wp2_with fail
  refine (of_arg 3 (by omega)).mono ?_
  rintro e wbc ⟨sy, Ay, ny, cy, xy, rfl, D2, hb⟩
  replace K := hid (K.out.trans (hb.out.mono K.out.size))
  replace Ga := hid (Ga.out.below hb.out)
  replace Pa := hid (Pa.out.below hb.out Pa.out.lt)
  replace Gb := hid (Gb.out.below hb.out)
  replace Pb := hid (Pb.out.below hb.out Pb.out.lt)
  replace D1 := hid (D1.out.below hb.out)
  clear hb
  go_wp2_with fail
  refine (floor_good (k := 0) D1.out D2.out (by omega) (by omega) (HT.out.below K.out HT.out.lt) (HU.out.below K.out HU.out.lt) (Q := (-1)) (by decide) (by omega)).mono ?_
  rintro e wcc ⟨sc, Ac, nc, cc, xc, rfl, Gc, hb⟩
  replace K := hid (K.out.trans (hb.out.mono K.out.size))
  replace Ga := hid (Ga.out.below hb.out)
  replace Pa := hid (Pa.out.below hb.out Pa.out.lt)
  replace Gb := hid (Gb.out.below hb.out)
  replace Pb := hid (Pb.out.below hb.out Pb.out.lt)
  clear hb D1 D2
  go_upto_region 4 with fail
  obtain ⟨Uc, hU⟩ : ∃ U, U = wcc.alloc (.cells #[.bool sc, .slice Ac nc cc, .int .i64 xc] 24) := ⟨_, rfl⟩
  rw [← hU]
  have Pc : Hid (Dbox Uc wcc.heap.size sc (.slice Ac nc cc) xc) := hid (hU ▸ heap_alloc_new _ _)
  have ha : Hid (Below wcc.heap.size wcc Uc) := hid (hU ▸ (Below.refl _ wcc).alloc (Nat.le_refl _) _)
  clear hU
  replace K := hid (K.out.trans (ha.out.mono K.out.size))
  replace Ga := hid (Ga.out.below ha.out)
  replace Pa := hid (Pa.out.below ha.out Pa.out.lt)
  replace Gb := hid (Gb.out.below ha.out)
  replace Pb := hid (Pb.out.below ha.out Pb.out.lt)
  replace Gc := hid (Gc.out.below ha.out)
  clear ha
  go_wp2_with fail
  refine (of_arg (-1) (by omega)).mono ?_
  rintro e wad ⟨sx, Ax, nx, cx, xx, rfl, D1, hb⟩
  replace K := hid (K.out.trans (hb.out.mono K.out.size))
  replace Ga := hid (Ga.out.below hb.out)
  replace Pa := hid (Pa.out.below hb.out Pa.out.lt)
  replace Gb := hid (Gb.out.below hb.out)
  replace Pb := hid (Pb.out.below hb.out Pb.out.lt)
  replace Gc := hid (Gc.out.below hb.out)
  replace Pc := hid (Pc.out.below hb.out Pc.out.lt)
  clear hb
  go_wp2_with fail
  refine (of_arg 3 (by omega)).mono ?_
  rintro e wbd ⟨sy, Ay, ny, cy, xy, rfl, D2, hb⟩
  replace K := hid (K.out.trans (hb.out.mono K.out.size))
  replace Ga := hid (Ga.out.below hb.out)
  replace Pa := hid (Pa.out.below hb.out Pa.out.lt)
  replace Gb := hid (Gb.out.below hb.out)
  replace Pb := hid (Pb.out.below hb.out Pb.out.lt)
  replace Gc := hid (Gc.out.below hb.out)
  replace Pc := hid (Pc.out.below hb.out Pc.out.lt)
  replace D1 := hid (D1.out.below hb.out)
  clear hb
  go_wp2_with fail
  refine (ceil_good (k := 0) D1.out D2.out (by omega) (by omega) (HT.out.below K.out HT.out.lt) (HU.out.below K.out HU.out.lt) (Q := 0) (by decide) (by omega)).mono ?_
  rintro e wcd ⟨sd, Ad, nd, cd, xd, rfl, Gd, hb⟩
  replace K := hid (K.out.trans (hb.out.mono K.out.size))
  replace Ga := hid (Ga.out.below hb.out)
  replace Pa := hid (Pa.out.below hb.out Pa.out.lt)
  replace Gb := hid (Gb.out.below hb.out)
  replace Pb := hid (Pb.out.below hb.out Pb.out.lt)
  replace Gc := hid (Gc.out.below hb.out)
  replace Pc := hid (Pc.out.below hb.out Pc.out.lt)
  clear hb D1 D2
  go_upto_region 5 with fail
  obtain ⟨Ud, hU⟩ : ∃ U, U = wcd.alloc (.cells #[.bool sd, .slice Ad nd cd, .int .i64 xd] 24) := ⟨_, rfl⟩
  rw [← hU]
  have Pd : Hid (Dbox Ud wcd.heap.size sd (.slice Ad nd cd) xd) := hid (hU ▸ heap_alloc_new _ _)
  have ha : Hid (Below wcd.heap.size wcd Ud) := hid (hU ▸ (Below.refl _ wcd).alloc (Nat.le_refl _) _)
  clear hU
  replace K := hid (K.out.trans (ha.out.mono K.out.size))
  replace Ga := hid (Ga.out.below ha.out)
  replace Pa := hid (Pa.out.below ha.out Pa.out.lt)
  replace Gb := hid (Gb.out.below ha.out)
  replace Pb := hid (Pb.out.below ha.out Pb.out.lt)
  replace Gc := hid (Gc.out.below ha.out)
  replace Pc := hid (Pc.out.below ha.out Pc.out.lt)
  replace Gd := hid (Gd.out.below ha.out)
  clear ha
  go_wp2_with fail
  refine (of_arg 5 (by omega)).mono ?_
  rintro e wae ⟨sx, Ax, nx, cx, xx, rfl, D1, hb⟩
  replace K := hid (K.out.trans (hb.out.mono K.out.size))
  replace Ga := hid (Ga.out.below hb.out)
  replace Pa := hid (Pa.out.below hb.out Pa.out.lt)
  replace Gb := hid (Gb.out.below hb.out)
  replace Pb := hid (Pb.out.below hb.out Pb.out.lt)
  replace Gc := hid (Gc.out.below hb.out)
  replace Pc := hid (Pc.out.below hb.out Pc.out.lt)
  replace Gd := hid (Gd.out.below hb.out)
  replace Pd := hid (Pd.out.below hb.out Pd.out.lt)
  clear hb
  go_wp2_with fail
  refine (of_arg 2 (by omega)).mono ?_
  rintro e wbe ⟨sy, Ay, ny, cy, xy, rfl, D2, hb⟩
  replace K := hid (K.out.trans (hb.out.mono K.out.size))
  replace Ga := hid (Ga.out.below hb.out)
  replace Pa := hid (Pa.out.below hb.out Pa.out.lt)
  replace Gb := hid (Gb.out.below hb.out)
  replace Pb := hid (Pb.out.below hb.out Pb.out.lt)
  replace Gc := hid (Gc.out.below hb.out)
  replace Pc := hid (Pc.out.below hb.out Pc.out.lt)
  replace Gd := hid (Gd.out.below hb.out)
  replace Pd := hid (Pd.out.below hb.out Pd.out.lt)
  replace D1 := hid (D1.out.below hb.out)
  clear hb
  go_wp2_with fail
  refine (near_good D1.out D2.out (by omega) (HT.out.below K.out HT.out.lt) (HU.out.below K.out HU.out.lt) (Q := 3) (by decide) (by omega)).mono ?_
  rintro e wce ⟨se, Ae, ne, ce, xe, rfl, Ge, hb⟩
  replace K := hid (K.out.trans (hb.out.mono K.out.size))
  replace Ga := hid (Ga.out.below hb.out)
  replace Pa := hid (Pa.out.below hb.out Pa.out.lt)
  replace Gb := hid (Gb.out.below hb.out)
  replace Pb := hid (Pb.out.below hb.out Pb.out.lt)
  replace Gc := hid (Gc.out.below hb.out)
  replace Pc := hid (Pc.out.below hb.out Pc.out.lt)
  replace Gd := hid (Gd.out.below hb.out)
  replace Pd := hid (Pd.out.below hb.out Pd.out.lt)
  clear hb D1 D2
  go_upto_region 6 with fail
  obtain ⟨Ue, hU⟩ : ∃ U, U = wce.alloc (.cells #[.bool se, .slice Ae ne ce, .int .i64 xe] 24) := ⟨_, rfl⟩
  rw [← hU]
  have Pe : Hid (Dbox Ue wce.heap.size se (.slice Ae ne ce) xe) := hid (hU ▸ heap_alloc_new _ _)
  have ha : Hid (Below wce.heap.size wce Ue) := hid (hU ▸ (Below.refl _ wce).alloc (Nat.le_refl _) _)
  clear hU
  replace K := hid (K.out.trans (ha.out.mono K.out.size))
  replace Ga := hid (Ga.out.below ha.out)
  replace Pa := hid (Pa.out.below ha.out Pa.out.lt)
  replace Gb := hid (Gb.out.below ha.out)
  replace Pb := hid (Pb.out.below ha.out Pb.out.lt)
  replace Gc := hid (Gc.out.below ha.out)
  replace Pc := hid (Pc.out.below ha.out Pc.out.lt)
  replace Gd := hid (Gd.out.below ha.out)
  replace Pd := hid (Pd.out.below ha.out Pd.out.lt)
  replace Ge := hid (Ge.out.below ha.out)
  clear ha
  go_wp2_with fail
  refine (of_arg 7 (by omega)).mono ?_
  rintro e waf ⟨sx, Ax, nx, cx, xx, rfl, D1, hb⟩
  replace K := hid (K.out.trans (hb.out.mono K.out.size))
  replace Ga := hid (Ga.out.below hb.out)
  replace Pa := hid (Pa.out.below hb.out Pa.out.lt)
  replace Gb := hid (Gb.out.below hb.out)
  replace Pb := hid (Pb.out.below hb.out Pb.out.lt)
  replace Gc := hid (Gc.out.below hb.out)
  replace Pc := hid (Pc.out.below hb.out Pc.out.lt)
  replace Gd := hid (Gd.out.below hb.out)
  replace Pd := hid (Pd.out.below hb.out Pd.out.lt)
  replace Ge := hid (Ge.out.below hb.out)
  replace Pe := hid (Pe.out.below hb.out Pe.out.lt)
  clear hb
  go_wp2_with fail
  refine (of_arg 3 (by omega)).mono ?_
  rintro e wbf ⟨sy, Ay, ny, cy, xy, rfl, D2, hb⟩
  replace K := hid (K.out.trans (hb.out.mono K.out.size))
  replace Ga := hid (Ga.out.below hb.out)
  replace Pa := hid (Pa.out.below hb.out Pa.out.lt)
  replace Gb := hid (Gb.out.below hb.out)
  replace Pb := hid (Pb.out.below hb.out Pb.out.lt)
  replace Gc := hid (Gc.out.below hb.out)
  replace Pc := hid (Pc.out.below hb.out Pc.out.lt)
  replace Gd := hid (Gd.out.below hb.out)
  replace Pd := hid (Pd.out.below hb.out Pd.out.lt)
  replace Ge := hid (Ge.out.below hb.out)
  replace Pe := hid (Pe.out.below hb.out Pe.out.lt)
  replace D1 := hid (D1.out.below hb.out)
  clear hb
  go_wp2_with fail
  refine (near_good D1.out D2.out (by omega) (HT.out.below K.out HT.out.lt) (HU.out.below K.out HU.out.lt) (Q := 2) (by decide) (by omega)).mono ?_
  rintro e wcf ⟨sf, Af, nf, cf, xf, rfl, Gf, hb⟩
  replace K := hid (K.out.trans (hb.out.mono K.out.size))
  replace Ga := hid (Ga.out.below hb.out)
  replace Pa := hid (Pa.out.below hb.out Pa.out.lt)
  replace Gb := hid (Gb.out.below hb.out)
  replace Pb := hid (Pb.out.below hb.out Pb.out.lt)
  replace Gc := hid (Gc.out.below hb.out)
  replace Pc := hid (Pc.out.below hb.out Pc.out.lt)
  replace Gd := hid (Gd.out.below hb.out)
  replace Pd := hid (Pd.out.below hb.out Pd.out.lt)
  replace Ge := hid (Ge.out.below hb.out)
  replace Pe := hid (Pe.out.below hb.out Pe.out.lt)
  clear hb D1 D2
  go_upto_region 7 with fail
  obtain ⟨Uf, hU⟩ : ∃ U, U = wcf.alloc (.cells #[.bool sf, .slice Af nf cf, .int .i64 xf] 24) := ⟨_, rfl⟩
  rw [← hU]
  have Pf : Hid (Dbox Uf wcf.heap.size sf (.slice Af nf cf) xf) := hid (hU ▸ heap_alloc_new _ _)
  have ha : Hid (Below wcf.heap.size wcf Uf) := hid (hU ▸ (Below.refl _ wcf).alloc (Nat.le_refl _) _)
  clear hU
  replace K := hid (K.out.trans (ha.out.mono K.out.size))
  replace Ga := hid (Ga.out.below ha.out)
  replace Pa := hid (Pa.out.below ha.out Pa.out.lt)
  replace Gb := hid (Gb.out.below ha.out)
  replace Pb := hid (Pb.out.below ha.out Pb.out.lt)
  replace Gc := hid (Gc.out.below ha.out)
  replace Pc := hid (Pc.out.below ha.out Pc.out.lt)
  replace Gd := hid (Gd.out.below ha.out)
  replace Pd := hid (Pd.out.below ha.out Pd.out.lt)
  replace Ge := hid (Ge.out.below ha.out)
  replace Pe := hid (Pe.out.below ha.out Pe.out.lt)
  replace Gf := hid (Gf.out.below ha.out)
  clear ha
  have Pac0 := Pa.out.c0
  have Pac1 := Pa.out.c1
  have Pac2 := Pa.out.c2
  have Pbc0 := Pb.out.c0
  have Pbc1 := Pb.out.c1
  have Pbc2 := Pb.out.c2
  have Pcc0 := Pc.out.c0
  have Pcc1 := Pc.out.c1
  have Pcc2 := Pc.out.c2
  have Pdc0 := Pd.out.c0
  have Pdc1 := Pd.out.c1
  have Pdc2 := Pd.out.c2
  have Pec0 := Pe.out.c0
  have Pec1 := Pe.out.c1
  have Pec2 := Pe.out.c2
  have Pfc0 := Pf.out.c0
  have Pfc1 := Pf.out.c1
  have Pfc2 := Pf.out.c2
  go_wp2_with fail
  refine (is_true (x := 2) Ga.out (by omega) (by omega) (by first | exact .inl rfl | exact .inr rfl) rfl).mono ?_
  rintro e wia ⟨rfl, hb⟩
  clear Pac0 Pac1 Pac2 Pbc0 Pbc1 Pbc2 Pcc0 Pcc1 Pcc2 Pdc0 Pdc1 Pdc2 Pec0 Pec1 Pec2 Pfc0 Pfc1 Pfc2
  replace K := hid (K.out.trans (hb.out.mono K.out.size))
  replace Ga := hid (Ga.out.below hb.out)
  replace Pa := hid (Pa.out.below hb.out Pa.out.lt)
  replace Gb := hid (Gb.out.below hb.out)
  replace Pb := hid (Pb.out.below hb.out Pb.out.lt)
  replace Gc := hid (Gc.out.below hb.out)
  replace Pc := hid (Pc.out.below hb.out Pc.out.lt)
  replace Gd := hid (Gd.out.below hb.out)
  replace Pd := hid (Pd.out.below hb.out Pd.out.lt)
  replace Ge := hid (Ge.out.below hb.out)
  replace Pe := hid (Pe.out.below hb.out Pe.out.lt)
  replace Gf := hid (Gf.out.below hb.out)
  replace Pf := hid (Pf.out.below hb.out Pf.out.lt)
  have Pac0 := Pa.out.c0
  have Pac1 := Pa.out.c1
  have Pac2 := Pa.out.c2
  have Pbc0 := Pb.out.c0
  have Pbc1 := Pb.out.c1
  have Pbc2 := Pb.out.c2
  have Pcc0 := Pc.out.c0
  have Pcc1 := Pc.out.c1
  have Pcc2 := Pc.out.c2
  have Pdc0 := Pd.out.c0
  have Pdc1 := Pd.out.c1
  have Pdc2 := Pd.out.c2
  have Pec0 := Pe.out.c0
  have Pec1 := Pe.out.c1
  have Pec2 := Pe.out.c2
  have Pfc0 := Pf.out.c0
  have Pfc1 := Pf.out.c1
  have Pfc2 := Pf.out.c2
  clear hb
  go_wp2_with fail
  refine (is_true (x := 1) Gb.out (by omega) (by omega) (by first | exact .inl rfl | exact .inr rfl) two_tp).mono ?_
  rintro e wib ⟨rfl, hb⟩
  clear Pac0 Pac1 Pac2 Pbc0 Pbc1 Pbc2 Pcc0 Pcc1 Pcc2 Pdc0 Pdc1 Pdc2 Pec0 Pec1 Pec2 Pfc0 Pfc1 Pfc2
  replace K := hid (K.out.trans (hb.out.mono K.out.size))
  replace Ga := hid (Ga.out.below hb.out)
  replace Pa := hid (Pa.out.below hb.out Pa.out.lt)
  replace Gb := hid (Gb.out.below hb.out)
  replace Pb := hid (Pb.out.below hb.out Pb.out.lt)
  replace Gc := hid (Gc.out.below hb.out)
  replace Pc := hid (Pc.out.below hb.out Pc.out.lt)
  replace Gd := hid (Gd.out.below hb.out)
  replace Pd := hid (Pd.out.below hb.out Pd.out.lt)
  replace Ge := hid (Ge.out.below hb.out)
  replace Pe := hid (Pe.out.below hb.out Pe.out.lt)
  replace Gf := hid (Gf.out.below hb.out)
  replace Pf := hid (Pf.out.below hb.out Pf.out.lt)
  have Pac0 := Pa.out.c0
  have Pac1 := Pa.out.c1
  have Pac2 := Pa.out.c2
  have Pbc0 := Pb.out.c0
  have Pbc1 := Pb.out.c1
  have Pbc2 := Pb.out.c2
  have Pcc0 := Pc.out.c0
  have Pcc1 := Pc.out.c1
  have Pcc2 := Pc.out.c2
  have Pdc0 := Pd.out.c0
  have Pdc1 := Pd.out.c1
  have Pdc2 := Pd.out.c2
  have Pec0 := Pe.out.c0
  have Pec1 := Pe.out.c1
  have Pec2 := Pe.out.c2
  have Pfc0 := Pf.out.c0
  have Pfc1 := Pf.out.c1
  have Pfc2 := Pf.out.c2
  clear hb
  go_wp2_with fail
  refine (is_true (x := 0) Gc.out (by omega) (by omega) (by first | exact .inl rfl | exact .inr rfl) rfl).mono ?_
  rintro e wic ⟨rfl, hb⟩
  clear Pac0 Pac1 Pac2 Pbc0 Pbc1 Pbc2 Pcc0 Pcc1 Pcc2 Pdc0 Pdc1 Pdc2 Pec0 Pec1 Pec2 Pfc0 Pfc1 Pfc2
  replace K := hid (K.out.trans (hb.out.mono K.out.size))
  replace Ga := hid (Ga.out.below hb.out)
  replace Pa := hid (Pa.out.below hb.out Pa.out.lt)
  replace Gb := hid (Gb.out.below hb.out)
  replace Pb := hid (Pb.out.below hb.out Pb.out.lt)
  replace Gc := hid (Gc.out.below hb.out)
  replace Pc := hid (Pc.out.below hb.out Pc.out.lt)
  replace Gd := hid (Gd.out.below hb.out)
  replace Pd := hid (Pd.out.below hb.out Pd.out.lt)
  replace Ge := hid (Ge.out.below hb.out)
  replace Pe := hid (Pe.out.below hb.out Pe.out.lt)
  replace Gf := hid (Gf.out.below hb.out)
  replace Pf := hid (Pf.out.below hb.out Pf.out.lt)
  have Pac0 := Pa.out.c0
  have Pac1 := Pa.out.c1
  have Pac2 := Pa.out.c2
  have Pbc0 := Pb.out.c0
  have Pbc1 := Pb.out.c1
  have Pbc2 := Pb.out.c2
  have Pcc0 := Pc.out.c0
  have Pcc1 := Pc.out.c1
  have Pcc2 := Pc.out.c2
  have Pdc0 := Pd.out.c0
  have Pdc1 := Pd.out.c1
  have Pdc2 := Pd.out.c2
  have Pec0 := Pe.out.c0
  have Pec1 := Pe.out.c1
  have Pec2 := Pe.out.c2
  have Pfc0 := Pf.out.c0
  have Pfc1 := Pf.out.c1
  have Pfc2 := Pf.out.c2
  clear hb
  go_wp2_with fail
  refine (is_true (x := 0) Gd.out (by omega) (by omega) (by first | exact .inl rfl | exact .inr rfl) rfl).mono ?_
  rintro e wid ⟨rfl, hb⟩
  clear Pac0 Pac1 Pac2 Pbc0 Pbc1 Pbc2 Pcc0 Pcc1 Pcc2 Pdc0 Pdc1 Pdc2 Pec0 Pec1 Pec2 Pfc0 Pfc1 Pfc2
  replace K := hid (K.out.trans (hb.out.mono K.out.size))
  replace Ga := hid (Ga.out.below hb.out)
  replace Pa := hid (Pa.out.below hb.out Pa.out.lt)
  replace Gb := hid (Gb.out.below hb.out)
  replace Pb := hid (Pb.out.below hb.out Pb.out.lt)
  replace Gc := hid (Gc.out.below hb.out)
  replace Pc := hid (Pc.out.below hb.out Pc.out.lt)
  replace Gd := hid (Gd.out.below hb.out)
  replace Pd := hid (Pd.out.below hb.out Pd.out.lt)
  replace Ge := hid (Ge.out.below hb.out)
  replace Pe := hid (Pe.out.below hb.out Pe.out.lt)
  replace Gf := hid (Gf.out.below hb.out)
  replace Pf := hid (Pf.out.below hb.out Pf.out.lt)
  have Pac0 := Pa.out.c0
  have Pac1 := Pa.out.c1
  have Pac2 := Pa.out.c2
  have Pbc0 := Pb.out.c0
  have Pbc1 := Pb.out.c1
  have Pbc2 := Pb.out.c2
  have Pcc0 := Pc.out.c0
  have Pcc1 := Pc.out.c1
  have Pcc2 := Pc.out.c2
  have Pdc0 := Pd.out.c0
  have Pdc1 := Pd.out.c1
  have Pdc2 := Pd.out.c2
  have Pec0 := Pe.out.c0
  have Pec1 := Pe.out.c1
  have Pec2 := Pe.out.c2
  have Pfc0 := Pf.out.c0
  have Pfc1 := Pf.out.c1
  have Pfc2 := Pf.out.c2
  clear hb
  go_wp2_with fail
  refine (is_true (x := 0) Ge.out (by omega) (by omega) (by first | exact .inl rfl | exact .inr rfl) (by rw [Nat.sub_zero])).mono ?_
  rintro e wie ⟨rfl, hb⟩
  clear Pac0 Pac1 Pac2 Pbc0 Pbc1 Pbc2 Pcc0 Pcc1 Pcc2 Pdc0 Pdc1 Pdc2 Pec0 Pec1 Pec2 Pfc0 Pfc1 Pfc2
  replace K := hid (K.out.trans (hb.out.mono K.out.size))
  replace Ga := hid (Ga.out.below hb.out)
  replace Pa := hid (Pa.out.below hb.out Pa.out.lt)
  replace Gb := hid (Gb.out.below hb.out)
  replace Pb := hid (Pb.out.below hb.out Pb.out.lt)
  replace Gc := hid (Gc.out.below hb.out)
  replace Pc := hid (Pc.out.below hb.out Pc.out.lt)
  replace Gd := hid (Gd.out.below hb.out)
  replace Pd := hid (Pd.out.below hb.out Pd.out.lt)
  replace Ge := hid (Ge.out.below hb.out)
  replace Pe := hid (Pe.out.below hb.out Pe.out.lt)
  replace Gf := hid (Gf.out.below hb.out)
  replace Pf := hid (Pf.out.below hb.out Pf.out.lt)
  have Pac0 := Pa.out.c0
  have Pac1 := Pa.out.c1
  have Pac2 := Pa.out.c2
  have Pbc0 := Pb.out.c0
  have Pbc1 := Pb.out.c1
  have Pbc2 := Pb.out.c2
  have Pcc0 := Pc.out.c0
  have Pcc1 := Pc.out.c1
  have Pcc2 := Pc.out.c2
  have Pdc0 := Pd.out.c0
  have Pdc1 := Pd.out.c1
  have Pdc2 := Pd.out.c2
  have Pec0 := Pe.out.c0
  have Pec1 := Pe.out.c1
  have Pec2 := Pe.out.c2
  have Pfc0 := Pf.out.c0
  have Pfc1 := Pf.out.c1
  have Pfc2 := Pf.out.c2
  clear hb
  go_wp2_with fail
  refine (is_true (x := 0) Gf.out (by omega) (by omega) (by first | exact .inl rfl | exact .inr rfl) (by rw [Nat.sub_zero])).mono ?_
  rintro e wif ⟨rfl, hb⟩
  clear Pac0 Pac1 Pac2 Pbc0 Pbc1 Pbc2 Pcc0 Pcc1 Pcc2 Pdc0 Pdc1 Pdc2 Pec0 Pec1 Pec2 Pfc0 Pfc1 Pfc2
  replace K := hid (K.out.trans (hb.out.mono K.out.size))
  replace Ga := hid (Ga.out.below hb.out)
  replace Pa := hid (Pa.out.below hb.out Pa.out.lt)
  replace Gb := hid (Gb.out.below hb.out)
  replace Pb := hid (Pb.out.below hb.out Pb.out.lt)
  replace Gc := hid (Gc.out.below hb.out)
  replace Pc := hid (Pc.out.below hb.out Pc.out.lt)
  replace Gd := hid (Gd.out.below hb.out)
  replace Pd := hid (Pd.out.below hb.out Pd.out.lt)
  replace Ge := hid (Ge.out.below hb.out)
  replace Pe := hid (Pe.out.below hb.out Pe.out.lt)
  replace Gf := hid (Gf.out.below hb.out)
  replace Pf := hid (Pf.out.below hb.out Pf.out.lt)
  have Pac0 := Pa.out.c0
  have Pac1 := Pa.out.c1
  have Pac2 := Pa.out.c2
  have Pbc0 := Pb.out.c0
  have Pbc1 := Pb.out.c1
  have Pbc2 := Pb.out.c2
  have Pcc0 := Pc.out.c0
  have Pcc1 := Pc.out.c1
  have Pcc2 := Pc.out.c2
  have Pdc0 := Pd.out.c0
  have Pdc1 := Pd.out.c1
  have Pdc2 := Pd.out.c2
  have Pec0 := Pe.out.c0
  have Pec1 := Pe.out.c1
  have Pec2 := Pe.out.c2
  have Pfc0 := Pf.out.c0
  have Pfc1 := Pf.out.c1
  have Pfc2 := Pf.out.c2
  clear hb
  go_wp2
  go_ret
  exact ⟨rfl, K⟩

end Go.Proofs.YtmaggpigodkhhaaDoor
