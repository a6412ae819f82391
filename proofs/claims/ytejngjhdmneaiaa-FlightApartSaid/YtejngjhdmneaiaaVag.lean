/- Package dyad: Same, Of; the law's own helper part. -/
/- The law's own helpers of package dyad: part, alive. -/
/- Laws' walks: what is too great to be gone through; a dyad that came in. -/
/- Dyads: what the laws' walks have in common. -/
/- A region that draws its order, within a round of a range over a function: the walk that takes loads first (of Derived/OrdersHeld) serves there too. No program is named here. -/
import Derived.Test.YtejngjhdmneaiaaVae
import Derived.Deep.RegionHeld3
import Derived.RangeFuncCalls
import Derived.RangeFuncNested
import Derived.TacticsIn
import Derived.OrdersIn

namespace Go.Proofs.Ytejngjhdmneaiaa
set_option maxRecDepth 100000
open Go.RowKit

set_option maxHeartbeats 3200000 in
theorem dof_any (n : Int) (hn : -9223372036854775808 ≤ n ∧ n ≤ 9223372036854775807) (w : World) :
    Calls Try.prog 64 #[.int .i64 n] w fun e w' => ∃ s v V, e = .returned (.agg #[.bool s, v, .int .i64 0]) ∧ Hid (Num 75 w.heap.size w' V v ∧ (n < 0 ↔ s = true) ∧ num s V = n) ∧ Hid (Below w.heap.size w w') := by
  have B0 := hid ((Below.refl w.heap.size w).alloc (Nat.le_refl _) (.cells #[.bool false, .slice none 0 0, .int .i64 0] 25))
  have D0 : Hid (Dbox _ w.heap.size false (.slice none 0 0) 0) := heap_alloc_new w (.cells #[.bool false, .slice none 0 0, .int .i64 0] 25)
  by_cases h0 : n < 0
  · obtain ⟨m, hm, hm2⟩ : ∃ m : Nat, n = -(m : Int) ∧ m ≤ 9223372036854775808 := ⟨(-n).toNat, by omega, by omega⟩
    have C1 := hid (of_val m (by omega) (w.alloc (.cells #[.bool false, .slice none 0 0, .int .i64 0] 25)))
    have hw : IntKind.u64.wrap (wrap64 (-n)) = (m : Int) := by
      rw [IntKind.wrap_u64]
      unfold wrap64
      omega
    have Hm := hid hm
    clear hm
    go_enter Try.func64, Try.ntmps64
    go_wp2_with fail
    refine C1.out.mono ?_
    rintro e w1 ⟨v, rfl, Hn, Hb⟩
    obtain ⟨A1, n1, d1, rfl⟩ := Hn.out.shape
    have P1 := hid (D0.out.below Hb.out D0.out.lt)
    have g0 := P1.out.frozen 0
    have g1 := P1.out.frozen 1
    have g2 := P1.out.frozen 2
    have b0 := P1.out.c0
    have b1 := P1.out.c1
    have b2 := P1.out.c2
    have B1 := hid (B0.out.trans (Hb.out.mono B0.out.size))
    clear C1 B0 D0 Hb
    go_wp2
    refine ret_one rfl rfl rfl (P1.out.store (t := true) (u := .slice A1 n1 d1) (y := 0)) ?_
    exact ⟨true, _, m, rfl, ⟨(Hn.out.put3 (by simp)).mono (by simp), ⟨fun _ => rfl, fun _ => h0⟩, Hm.out.symm⟩, below_put3 B1.out (Nat.le_refl _)⟩
  · obtain ⟨m, rfl⟩ := Int.eq_ofNat_of_zero_le (show 0 ≤ n by omega)
    have C1 := hid (of_val m (by omega) (w.alloc (.cells #[.bool false, .slice none 0 0, .int .i64 0] 25)))
    go_enter Try.func64, Try.ntmps64
    go_wp2_with fail
    refine C1.out.mono ?_
    rintro e w1 ⟨v, rfl, Hn, Hb⟩
    obtain ⟨A1, n1, d1, rfl⟩ := Hn.out.shape
    have P1 := hid (D0.out.below Hb.out D0.out.lt)
    have g0 := P1.out.frozen 0
    have g1 := P1.out.frozen 1
    have g2 := P1.out.frozen 2
    have b0 := P1.out.c0
    have b1 := P1.out.c1
    have b2 := P1.out.c2
    have B1 := hid (B0.out.trans (Hb.out.mono B0.out.size))
    clear C1 B0 D0 Hb
    go_wp2
    refine ret_one rfl rfl rfl (P1.out.store (t := false) (u := .slice A1 n1 d1) (y := 0)) ?_
    exact ⟨false, _, m, rfl, ⟨(Hn.out.put3 (by simp)).mono (by simp), ⟨fun h => by omega, fun h => by cases h⟩, rfl⟩, below_put3 B1.out (Nat.le_refl _)⟩

theorem dof_dn (n : Int) (hn : -9223372036854775808 ≤ n ∧ n ≤ 9223372036854775807) (w : World) :
    Calls Try.prog 64 #[.int .i64 n] w fun e w' => ∃ d, e = .returned d ∧ Hid (Dn w.heap.size w' (n * (tp 4000 : Int)) d) ∧ Hid (Below w.heap.size w w') := by
  refine (dof_any n hn w).mono ?_
  rintro e w' ⟨s, v, V, rfl, ⟨Hn, hs, hV⟩, Hb⟩
  refine ⟨_, rfl, ⟨s, v, 0, V, rfl, Hn, ⟨fun h0 => ⟨?_, rfl⟩, fun h => absurd h (by omega)⟩, by omega, ?_⟩, Hb⟩
  · subst h0
    rw [num_zero] at hV
    cases s with
    | false => rfl
    | true => have := hs.2 rfl; omega
  · unfold dv
    rw [num_mul, hV]

/-- A Boolean that tells whether P, in new memory. -/
def Says (w : World) (P : Prop) (e : Ending) (w' : World) : Prop := ∃ r, e = .returned (.bool r) ∧ Hid (r = true ↔ P) ∧ Hid (Below w.heap.size w w')
set_option maxHeartbeats 3200000 in
theorem dsame_raw {w : World} {A D : Option Addr} {n c k d : Nat} {f h : Nat → Nat} {s t : Bool} {x y : Int} {P : Prop} (ha : Rd w w.heap.size A n c f) (hb : Rd w w.heap.size D k d h) (HP : Hid (P ↔ (s = t ∧ x = y ∧ n = k ∧ ∀ j, f j = h j))) :
    Calls Try.prog 49 #[.agg #[.bool s, .slice A n c, .int .i64 x], .agg #[.bool t, .slice D k d, .int .i64 y]] w (Says w P) := by
  have B0 := hid (((Below.refl w.heap.size w).alloc (Nat.le_refl _) (.cells #[.bool s, .slice A n c, .int .i64 x] 25)).alloc (by simp) (.cells #[.bool t, .slice D k d, .int .i64 y] 25))
  have C1 := hid (same_any (ha.below B0.out) (hb.below B0.out))
  clear ha hb
  by_cases hst : s = t
  · subst hst
    by_cases hxy : x = y
    · subst hxy
      have HP2 : Hid (P ↔ (n = k ∧ ∀ j, f j = h j)) := ⟨fun p => (HP.out.1 p).2.2, fun q => HP.out.2 ⟨rfl, rfl, q⟩⟩
      clear HP
      go_enter Try.func49, Try.ntmps49
      go_wp2_with fail
      refine C1.out.mono ?_
      rintro e w1 ⟨r, rfl, hr, q, rfl⟩
      have Hr := hid hr
      clear hr
      go_wp2
      go_ret
      exact ⟨r, rfl, ⟨fun h => HP2.out.2 (Hr.out.1 h), fun h => Hr.out.2 (HP2.out.1 h)⟩, below_drewN B0.out q⟩
    · have hxy2 : (x == y) = false := by simp [hxy]
      have Hxy := hid hxy
      clear hxy C1
      go_enter Try.func49, Try.ntmps49
      go_wp2
      go_ret
      exact ⟨false, rfl, ⟨fun h => (by cases h), fun h => absurd (HP.out.1 h).2.1 Hxy.out⟩, B0.out⟩
  · have hst2 : (s == t) = false := by simp [hst]
    have Hst := hid hst
    clear hst C1
    go_enter Try.func49, Try.ntmps49
    go_wp2
    go_ret
    exact ⟨false, rfl, ⟨fun h => (by cases h), fun h => absurd (HP.out.1 h).1 Hst.out⟩, B0.out⟩

theorem dsame_any {w : World} {p q : Prop} {M N : Int} {v u : Value} (h1 : DArg w p M v) (h2 : DArg w q N u) (hp : p) (hq : q) :
    Calls Try.prog 49 #[v, u] w fun e w' => e = .returned (.bool (decide (M = N))) ∧ Hid (Below w.heap.size w w') := by
  obtain ⟨s, A, n, c, f, x, rfl, hr, hp1, hM⟩ := h1
  obtain ⟨t, D, k, d, h, y, rfl, hs, hp2, hN⟩ := h2
  obtain ⟨X, rfl, rfl⟩ := hM hp
  obtain ⟨Y, rfl, rfl⟩ := hN hq
  have m1 := hp1.1 hp
  have m2 := hp2.1 hq
  obtain ⟨X', e1, c1, l1⟩ := may_canon m1 hr.out
  obtain ⟨Y', e2, c2, l2⟩ := may_canon m2 hs.out
  obtain rfl : X = X' := by omega
  obtain rfl : Y = Y' := by omega
  refine (dsame_raw hr hs (hid Iff.rfl)).mono ?_
  rintro e w' ⟨r, rfl, Hr, Hb⟩
  refine ⟨?_, Hb⟩
  have hiff : r = true ↔ dv s (vl f n) X = dv t (vl h k) Y := by
    rw [Hr.out]
    constructor
    · rintro ⟨rfl, hx, rfl, hf⟩
      obtain rfl : X = Y := by omega
      rw [vl_congr (fun j _ => hf j)]
    · intro he
      obtain ⟨rfl, hV, rfl⟩ := canon_uniq c1 c2 (by omega) (by omega) he
      exact ⟨rfl, rfl, hr.same hs m1.1.2 m2.1.2 hV⟩
  cases r with
  | true => rw [bool_of_dec (hiff.1 rfl)]
  | false => rw [bool_of_not (fun he => by have := hiff.2 he; cases this)]

end Go.Proofs.Ytejngjhdmneaiaa


namespace Go.Proofs.Ytejngjhdmneaiaa
open Go.RowKit

/-- A dyad that is handed back, and an error that is OK. -/
def Good (w : World) (N : Int) (e : Ending) (w' : World) : Prop := ∃ s A n c x, e = .returned (.tuple #[.agg #[.bool s, .slice A n c, .int .i64 x], .int .i64 0]) ∧ Hid (DArg w' True N (.agg #[.bool s, .slice A n c, .int .i64 x])) ∧ Hid (Below w.heap.size w w')
/-- A dyad that is handed back. -/
def One (w : World) (N : Int) (e : Ending) (w' : World) : Prop := ∃ s A n c x, e = .returned (.agg #[.bool s, .slice A n c, .int .i64 x]) ∧ Hid (DArg w' True N (.agg #[.bool s, .slice A n c, .int .i64 x])) ∧ Hid (Below w.heap.size w w')

theorem Dn.parts {B : Nat} {w : World} {M : Int} {d : Value} (h : Dn B w M d) : ∃ s A n c x, d = .agg #[.bool s, .slice A n c, .int .i64 x] := by
  obtain ⟨s, u, X, V, rfl, hn, _⟩ := h
  obtain ⟨A, n, c, rfl⟩ := hn.shape
  exact ⟨s, A, n, c, _, rfl⟩
theorem DRes.good {w w' : World} {p : Prop} {M : Int} {e : Ending} (h : DRes w (Derrs p M) M e w') (hp : p) (hM : Okay M) : Good w M e w' := by
  obtain ⟨d, er, rfl, HE, HD, HB⟩ := h
  obtain rfl : er = 0 := (HE.out.1 hp).uniq (.inl ⟨hM, rfl⟩)
  have hd := HD.out
  rw [resD_ok rfl] at hd
  obtain ⟨s, A, n, c, x, rfl⟩ := hd.parts
  exact ⟨s, A, n, c, x, rfl, hd.arg, HB⟩
theorem of_one (n : Nat) (hn : n ≤ 9223372036854775807) (w : World) : Calls Try.prog 64 #[.int .i64 (n : Int)] w (One w (dv false n 0)) := by
  refine (dof_dn (n : Int) (by omega) w).mono ?_
  rintro e w' ⟨d, rfl, HD, HB⟩
  obtain ⟨s, A, m, c, x, rfl⟩ := HD.out.parts
  refine ⟨s, A, m, c, x, rfl, ?_, HB⟩
  have h := HD.out.arg
  rwa [show (n : Int) * (tp 4000 : Int) = dv false n 0 by simp [dv, num]] at h
theorem same_true {w : World} {p q : Prop} {M N : Int} {v u : Value} (h1 : DArg w p M v) (h2 : DArg w q N u) (hp : p) (hq : q) (he : M = N) :
    Calls Try.prog 49 #[v, u] w fun e w' => e = .returned (.bool true) ∧ Hid (Below w.heap.size w w') := by
  have h := dsame_any h1 h2 hp hq
  rwa [bool_of_dec he] at h

theorem canon_small {s : Bool} {n x : Nat} (h0 : 0 < n) (hx : 0 < x → n % 2 = 1) : Canon s n x := ⟨fun h => by omega, hx⟩
theorem okay_small {s : Bool} {n x : Nat} (h0 : 0 < n) (hn : n < 4294967296) (hx : 0 < x → n % 2 = 1) (h1 : x ≤ 1024) : Okay (dv s n x) :=
  ⟨s, n, x, canon_small h0 hx, Nat.lt_of_lt_of_le hn (pw_mono (j := 1) (k := 40) (by omega)), h1, rfl⟩

theorem e0 : tp (4000 - 0) = tp 3998 * 4 := by
  show tp (3998 + 1 + 1) = _
  rw [tp_succ, tp_succ, Nat.mul_assoc]
theorem e1 : tp (4000 - 1) = tp 3998 * 2 := by
  show tp (3998 + 1) = _
  rw [tp_succ]
theorem e2 : tp (4000 - 2) = tp 3998 := rfl
theorem half3 : 2 * dv false 3 1 = dv false 3 0 := by
  unfold dv num
  rw [e0, e1]
  generalize tp 3998 = T
  simp <;> omega
theorem half2 : 2 * dv false 1 0 = dv false 2 0 := by
  unfold dv num
  rw [e0]
  generalize tp 3998 = T
  simp <;> omega
theorem add11 : dv false 1 1 + dv false 1 1 = dv false 1 0 := by
  unfold dv num
  rw [e0, e1]
  generalize tp 3998 = T
  simp <;> omega
theorem sub13 : dv false 1 1 - dv false 3 2 = dv true 1 2 := by
  unfold dv num
  rw [e1, e2]
  generalize tp 3998 = T
  simp <;> omega


end Go.Proofs.Ytejngjhdmneaiaa


namespace Go.Proofs.Ytejngjhdmneaiaa
set_option maxRecDepth 100000
open Go.RowKit

set_option maxHeartbeats 800000 in
theorem dgreat_any (s : Bool) (A : Option Addr) (n c : Nat) (x : Int) (w : World) (_hm : n ≤ 140737488355328) :
    Calls Try.prog 29 #[.agg #[.bool s, .slice A n c, .int .i64 x]] w fun e w' => e = .returned (.bool (decide (42 < n ∨ 1100 < x))) ∧ Hid (Below w.heap.size w w') := by
  have B0 := hid ((Below.refl w.heap.size w).alloc (Nat.le_refl _) (.cells #[.bool s, .slice A n c, .int .i64 x] 25))
  by_cases h1 : 42 < n
  · rw [bool_of_dec (.inl h1)]
    go_enter Try.func29, Try.ntmps29
    go_wp2
    go_ret
    exact ⟨rfl, B0.out⟩
  · by_cases h2 : 1100 < x
    · rw [bool_of_dec (.inr h2)]
      go_enter Try.func29, Try.ntmps29
      go_wp2
      go_ret
      exact ⟨rfl, B0.out⟩
    · rw [bool_of_not (fun h => h.elim h1 h2)]
      go_enter Try.func29, Try.ntmps29
      go_wp2
      go_ret
      exact ⟨by simp <;> omega, B0.out⟩

theorem arg_of {w : World} {A : Option Addr} {n c : Nat} {f : Nat → Nat} {s : Bool} {x : Int} (hr : Rd w w.heap.size A n c f) : ∃ (p : Prop) (M : Int), DArg w p M (.agg #[.bool s, .slice A n c, .int .i64 x]) := by
  by_cases hm : DMay s n f x
  · obtain ⟨X, rfl, c1, l1⟩ := may_canon hm hr.out
    exact ⟨True, dv s (vl f n) X, s, A, n, c, f, _, rfl, hr, ⟨fun _ => hm, fun _ => trivial⟩, fun _ => ⟨X, rfl, rfl⟩⟩
  · exact ⟨False, 0, s, A, n, c, f, _, rfl, hr, ⟨fun h => h.elim, fun h => hm h⟩, fun h => h.elim⟩
theorem arg_both {w : World} {A D : Option Addr} {n c d : Nat} {f : Nat → Nat} {s : Bool} {x : Int} (hr : Rd w w.heap.size A n c f) (hs : Rd w w.heap.size D n d f) : ∃ (p : Prop) (M : Int), DArg w p M (.agg #[.bool s, .slice A n c, .int .i64 x]) ∧ DArg w p M (.agg #[.bool s, .slice D n d, .int .i64 x]) := by
  by_cases hm : DMay s n f x
  · obtain ⟨X, rfl, c1, l1⟩ := may_canon hm hr.out
    exact ⟨True, dv s (vl f n) X, ⟨s, A, n, c, f, _, rfl, hr, ⟨fun _ => hm, fun _ => trivial⟩, fun _ => ⟨X, rfl, rfl⟩⟩, ⟨s, D, n, d, f, _, rfl, hs, ⟨fun _ => hm, fun _ => trivial⟩, fun _ => ⟨X, rfl, rfl⟩⟩⟩
  · exact ⟨False, 0, ⟨s, A, n, c, f, _, rfl, hr, ⟨fun h => h.elim, fun h => hm h⟩, fun h => h.elim⟩, ⟨s, D, n, d, f, _, rfl, hs, ⟨fun h => h.elim, fun h => hm h⟩, fun h => h.elim⟩⟩
theorem ret_bool {fn : Func} {R : Ending → World → Prop} {a : Act} {w : World} {p : Tmp} {v : Value} (h : fn.results = #[.tmp p]) (hp : a.tmps[p]?.getD undef = v) (hd : a.defers = []) (hR : R (.returned v) w) : bodyPost Try.prog fn R .ret a w := by
  refine bodyPost_ret (v := v) ?_ hd hR
  rw [results_tmp h]
  simpa using hp

end Go.Proofs.Ytejngjhdmneaiaa


namespace Go.Proofs.Ytejngjhdmneaiaa
open Go.RowKit

theorem DArg.okay {w : World} {p : Prop} {M : Int} {v : Value} (h : DArg w p M v) (hp : p) : Okay M := by
  obtain ⟨s, A, n, c, f, x, _, hr, hpd, hM⟩ := h
  obtain ⟨X, rfl, rfl⟩ := hM hp
  have m1 := hpd.1 hp
  obtain ⟨X', e1, c1, l1⟩ := may_canon m1 hr.out
  obtain rfl : X = X' := by omega
  exact ⟨s, vl f n, X, c1, vl_pw40 hr m1.1, l1, rfl⟩
theorem DArg.check {w : World} {p : Prop} {M : Int} {v : Value} (h : DArg w p M v) : Calls Try.prog 56 #[v] w fun e w' => ∃ er, e = .returned (.int .i64 er) ∧ Hid ((p → er = 0) ∧ (¬ p → er = 8)) ∧ Hid (Below w.heap.size w w') := by
  obtain ⟨s, A, n, c, f, x, rfl, hr, hpd, hM⟩ := h
  refine (dcheck_any hr s x).mono ?_
  rintro e w' ⟨rfl, hb⟩
  exact ⟨_, rfl, ⟨fun hp => if_pos (hpd.1 hp), fun hn => if_neg (fun hm => hn (hpd.2 hm))⟩, hb⟩
theorem Derrs.uniq {p q : Prop} {M N a b : Int} (h : Derrs p M a) (k : Derrs q N b) (hpq : p ↔ q) (hMN : M = N) : a = b := by
  subst hMN
  by_cases hp : p
  · exact (h.1 hp).uniq (k.1 (hpq.1 hp))
  · rw [h.2 hp, k.2 (fun hq => hp (hpq.2 hq))]
theorem Derrs.zero {p : Prop} {M : Int} (h : Derrs p M 0) : p ∧ Okay M := by
  by_cases hp : p
  · rcases h.1 hp with ⟨ho, _⟩ | ⟨_, h0⟩
    · exact ⟨hp, ho⟩
    · cases h0
  · have := h.2 hp
    cases this
theorem Derrs.good {p : Prop} {M er : Int} (h : Derrs p M er) (hp : p) (ho : Okay M) : er = 0 := (h.1 hp).uniq (.inl ⟨ho, rfl⟩)

theorem same_false {w : World} {p q : Prop} {M N : Int} {v u : Value} (h1 : DArg w p M v) (h2 : DArg w q N u) (hp : p) (hq : q) (he : ¬ M = N) :
    Calls Try.prog 49 #[v, u] w fun e w' => e = .returned (.bool false) ∧ Hid (Below w.heap.size w w') := by
  have h := dsame_any h1 h2 hp hq
  rwa [bool_of_not he] at h
theorem DArg.len {w : World} {p : Prop} {M : Int} {s : Bool} {A : Option Addr} {n c : Nat} {x : Int} (h : DArg w p M (.agg #[.bool s, .slice A n c, .int .i64 x])) : n ≤ c ∧ n ≤ 140737488355328 := by
  obtain ⟨s', A', n', c', f, x', hv, hr, _, _⟩ := h
  injection hv with hv
  simp at hv
  obtain ⟨_, ⟨_, rfl, rfl⟩, _⟩ := hv
  exact ⟨hr.cap, hr.max⟩
theorem Dn.sign {B : Nat} {w : World} {M : Int} {d : Value} (h : Dn B w M d) : ∃ s A n c x, d = .agg #[.bool s, .slice A n c, .int .i64 x] ∧ (M < 0 → s = true ∧ ((n : Int) == 0) = false) ∧ (M = 0 → s = false ∧ n = 0) ∧ (0 < M → s = false ∧ ((n : Int) == 0) = false) := by
  obtain ⟨s, u, X, V, rfl, hn, hc, hX, rfl⟩ := h
  obtain ⟨A, n, c, rfl⟩ := hn.shape
  have hl := hn.val.len0
  refine ⟨s, A, n, c, _, rfl, ?_⟩
  rcases Nat.eq_zero_or_pos V with h0 | h0
  · have hz : dv s V X = 0 := by rw [h0]; unfold dv; rw [Nat.zero_mul, num_zero]
    rw [hz]
    exact ⟨fun h => absurd h (by omega), fun _ => ⟨(hc.1 h0).1, hl.2 h0⟩, fun h => absurd h (by omega)⟩
  · have hpos := Nat.mul_pos h0 (tp_pos (4000 - X))
    have hn0 : ((n : Int) == 0) = false := by
      have : n ≠ 0 := fun e => by have := hl.1 e; omega
      simp [this]
    unfold dv
    generalize V * tp (4000 - X) = a at *
    cases s with
    | false => exact ⟨fun h => absurd h (by simp [num]), fun h => absurd h (by simp [num] <;> omega), fun _ => ⟨rfl, hn0⟩⟩
    | true => exact ⟨fun _ => ⟨rfl, hn0⟩, fun h => absurd h (by simp [num] <;> omega), fun h => absurd h (by simp [num] <;> omega)⟩

end Go.Proofs.Ytejngjhdmneaiaa


namespace Go.Proofs.Ytejngjhdmneaiaa

/-- No operation defers. -/
def plainOps (ops : Array Oper) : Bool := ops.all fun o => match o.op with | .defer _ => false | _ => true
theorem plainOps_at {ops : Array Oper} (h : plainOps ops = true) {i : Nat} {o : Oper} (ho : ops[i]? = some o) : ∀ c, o.op ≠ .defer c := by
  intro c e
  have hm := Array.all_eq_true_iff_forall_mem.1 h o (Array.mem_of_getElem? ho)
  rw [e] at hm
  cases hm
theorem oper_in {l n : Nat} {P : Program} {o : Oper} {a : Act} {w : World} {K : Act → World → Prop} {Q : Exit → Act → World → Prop} (hd : ∀ c, o.op ≠ .defer c) (h : o.wp P a w K Q) : o.wpIn (Fence.wide.inRound l) n P a w K Q := by
  refine ⟨fun _ _ => trivial, ?_⟩
  unfold Oper.wp at h
  rw [show (Fence.wide.inRound l).round = some l from rfl, Oper.semAt_some l a.eval o hd]
  generalize (execOp a.eval o).run P w = r at *
  cases r with
  | ok x w' =>
    cases x with
    | value v => exact h
    | skip => exact h
    | defer d => exact h
    | enter f args =>
      refine ⟨(fun h => by cases h), CallsIn.inRound l (callsIn_wide.2 (Calls.mono h fun e w'' he => ?_))⟩
      cases e <;> exact he
    | row row args => exact ⟨(fun h => by cases h), fun c cs _ => let ⟨v, w'', hr, hs⟩ := h c cs; ⟨v, w'', hr, stepsIn_wide.2 hs⟩⟩
    | _ => exact h.elim
  | halt x w' => cases x <;> exact h
theorem wpOp_in {l n : Nat} {P : Program} {ops : Array Oper} {Q : Exit → Act → World → Prop} {i : Nat} {K : Act → World → Prop} {a : Act} {w : World} (hd : plainOps ops = true) (hlo : ¬ LetsOut Q) (h : wpOp P ops Q i K a w) : wpOpIn (Fence.wide.inRound l) n P ops Q i K a w := by
  unfold wpOp at h
  unfold wpOpIn
  cases ho : ops[i]? with
  | none => simpa [ho] using h
  | some o =>
    simp only [ho] at h ⊢
    split
    · rename_i hw
      rw [if_pos hw] at h
      rcases h with h | ⟨_, h⟩
      · exact oper_in (plainOps_at hd ho) h
      · exact absurd h hlo
    · rename_i hw
      rw [if_neg hw] at h
      exact ⟨fun _ _ => trivial, h⟩
theorem wpAny_in {l n : Nat} {P : Program} {md : Region.Mode} {ops : Array Oper} {Q : Exit → Act → World → Prop} (hd : plainOps ops = true) (hlo : ¬ LetsOut Q) :
    ∀ (fuel : Nat) (listed : Array Bool) (a : Act) (w : World), wpAny P md ops Q fuel listed a w → wpAnyIn (Fence.wide.inRound l) n P md ops Q fuel listed a w
  | 0, _, _, _, h => h
  | fuel + 1, _, _, _, h => ⟨h.1, fun i hi => wpOp_in hd hlo (wpOp_mono (fun a' w' h' => wpAny_in hd hlo fuel _ a' w' h') (h.2 i hi))⟩

/-- The beginning of such a region, in a round. -/
theorem region_held {l n id : Nat} {P : Program} {ops : Array Oper} {Q : Exit → Act → World → Prop} {S : World → Prop} {a : Act} {w : World} (hm : P.follows .mixedOrders = true) (hd : plainOps ops = true) (hlo : ¬ LetsOut Q) (hS : S w.drew)
    (h : S w.drew → wpAnyH P .any ops Q S ops.size (Array.replicate ops.size false) a w.drew) : (Code.region id ops true).wpIn (Fence.wide.inRound l) n P Q a w :=
  wpIn_region_any hm (wpAny_in hd hlo _ _ _ _ (wpAny_of_held _ _ _ _ (h hS)))

end Go.Proofs.Ytejngjhdmneaiaa

