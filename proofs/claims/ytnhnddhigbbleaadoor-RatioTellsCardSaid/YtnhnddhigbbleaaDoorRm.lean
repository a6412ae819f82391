/- Package ratio: the sums of divided. No code is walked here. -/
/- Package ratio: divided, where a is not fit, or what it is asked is not. -/
/- Package ratio: divided. -/
import Derived.Test.YtnhnddhigbbleaaDoorRl
import Derived.Test.YtnhnddhigbbleaaDoorRj
import Derived.Deep.RegionHeld3
import Derived.Test.YtnhnddhigbbleaaDoorDivide

namespace Go.Proofs.YtnhnddhigbbleaaDoor
open Go.RowKit

theorem okay_num {s t : Bool} {n : Nat} (h : Okay (num t n)) : Okay (num s n) := by
  obtain ⟨u, V, x, hc, hV, hx, e⟩ := h
  obtain ⟨h1, -⟩ := num_inj e
  rcases Nat.eq_zero_or_pos V with h0 | h0
  · subst h0
    rw [Nat.zero_mul] at h1
    rw [← h1, num_zero]
    exact okay_zero
  · refine ⟨s, V, x, ⟨fun h => by omega, hc.2⟩, hV, hx, ?_⟩
    show num s (V * tp (4000 - x)) = _
    rw [h1]
theorem derr_num {s t : Bool} {n : Nat} {er : Int} (h : Derr (num t n) er) : Derr (num s n) er := by
  rcases h with ⟨h, e⟩ | ⟨h, e⟩
  · exact .inl ⟨okay_num h, e⟩
  · exact .inr ⟨fun k => h (okay_num k), e⟩
theorem tp_upto {j k : Nat} (h : j ≤ k) : tp j ≤ tp k := Nat.pow_le_pow_right (by omega) h
theorem okay_lt {s : Bool} {n : Nat} (h : Okay (num s n)) : n < pw 40 * tp 4000 := by
  obtain ⟨u, V, x, -, hV, -, e⟩ := h
  obtain ⟨h1, -⟩ := num_inj e
  rw [← h1]
  have h2 : tp (4000 - x) ≤ tp 4000 := tp_upto (Nat.sub_le _ _)
  exact Nat.lt_of_le_of_lt (Nat.mul_le_mul_left V h2) (Nat.mul_lt_mul_of_pos_right hV (tp_pos 4000))
theorem tp_at {k : Nat} (hk : k ≤ 64) : tp 4000 = 2 ^ k * tp (4000 - k) := by
  have h : tp (k + (4000 - k)) = tp k * tp (4000 - k) := tp_add k (4000 - k)
  rw [show k + (4000 - k) = 4000 by omega] at h
  rw [h]
  rfl
theorem not_room {s : Bool} {k W Q : Nat} (hk : k ≤ 64) (hW : pw 40 ≤ W) (hQ : W * 2 ^ k ≤ Q) : ¬ Okay (num s (Q * tp (4000 - k))) := by
  intro h
  have h1 := okay_lt h
  rw [tp_at hk, ← Nat.mul_assoc] at h1
  have h2 := Nat.lt_of_mul_lt_mul_right h1
  have h3 := Nat.mul_le_mul_right (2 ^ k) hW
  omega
/-- The parts and the whole are the quotient. -/
theorem whole_parts {A B k T : Nat} (hT : T = A * 2 ^ (k + 1) / B) : T / 2 ^ (k + 1) * 2 ^ k + T / 2 % 2 ^ k = A * 2 ^ k / B := by
  have h1 : T / 2 = A * 2 ^ k / B := by
    rw [hT, Nat.div_div_eq_div_mul, Nat.mul_comm B 2, ← Nat.div_div_eq_div_mul, Nat.pow_succ, ← Nat.mul_assoc, Nat.mul_div_cancel _ (by omega)]
  have h2 : T / 2 ^ (k + 1) = T / 2 / 2 ^ k := by rw [Nat.div_div_eq_div_mul, Nat.pow_succ, Nat.mul_comm 2]
  rw [h2, h1, Nat.mul_comm]
  exact Nat.div_add_mod _ _
theorem sum_parts {k W P : Nat} (hk : k ≤ 64) : num false (W * tp 4000) + num false (P * tp (4000 - k)) = num false ((W * 2 ^ k + P) * tp (4000 - k)) := by
  rw [← num_like, Nat.add_mul, tp_at hk, Nat.mul_assoc]
theorem whole_arg {t : TypeId} {B V : Nat} {w : World} {v : Value} (h : Num t B w V v) : DArg w True (num false (V * tp 4000)) (.agg #[.bool false, v, .int .i64 0]) := by
  obtain ⟨A, n, c, f, rfl, hr, hf, rfl⟩ := h.val
  exact ⟨false, A, n, c, f, 0, rfl, hr, ⟨fun _ => canon_may (X := 0) hf ⟨fun _ => ⟨rfl, rfl⟩, fun h => absurd h (by omega)⟩ (by omega), fun _ => trivial⟩, fun _ => ⟨0, rfl, rfl⟩⟩
/-- A sign set on a number in its one form. -/
theorem Dn.signed {B Y : Nat} {w : World} {u : Bool} {A : Option Addr} {n c : Nat} {x : Int} (s : Bool) (h : Dn B w (num false Y) (.agg #[.bool u, .slice A n c, .int .i64 x])) : Dn B w (num s Y) (.agg #[.bool (s && decide (0 < n)), .slice A n c, .int .i64 x]) := by
  obtain ⟨t, v, X, V, hv, hn, hc, hX, hd⟩ := h
  injection hv with hv
  simp at hv
  obtain ⟨rfl, rfl, rfl⟩ := hv
  obtain ⟨A', n', c', f, hv', hm, hf, hV⟩ := id hn
  injection hv' with e1 e2 e3
  subst e1 e2 e3
  have h0 := vl_zero_iff hf
  rw [hV] at h0
  obtain ⟨h1, -⟩ := num_inj hd
  rcases Nat.eq_zero_or_pos V with hz | hz
  · have hn0 : n = 0 := h0.1 hz
    refine ⟨_, _, X, V, rfl, hn, ?_, hX, ?_⟩
    · rw [hn0]
      exact ⟨fun _ => ⟨by simp, (hc.1 hz).2⟩, hc.2⟩
    · rw [← h1]
      subst hz
      show num _ (0 * _) = num _ (0 * _)
      rw [Nat.zero_mul, num_zero, num_zero]
  · have hn0 : 0 < n := by
      rcases Nat.eq_zero_or_pos n with h | h
      · have := h0.2 h
        omega
      · exact h
    rw [decide_eq_true hn0, Bool.and_true]
    refine ⟨s, _, X, V, rfl, hn, ⟨fun h => by omega, hc.2⟩, hX, ?_⟩
    rw [← h1]
    rfl

end Go.Proofs.YtnhnddhigbbleaaDoor


namespace Go.Proofs.YtnhnddhigbbleaaDoor
open Go.RowKit

theorem heap_laid {w : World} {o : Obj} {g : Nat} (h : g = w.heap.size) : (w.alloc o).heap[g]? = some o := by subst h; exact heap_alloc_new w o
theorem DArg.chk {w : World} {p : Prop} {M : Int} {v : Value} (h : DArg w p M v) : Calls Tryd.prog 25 #[v] w fun e w' => ∃ er, e = .returned (.int .i64 er) ∧ Hid ((p → er = 0) ∧ (¬ p → er = 8)) ∧ Hid (Below w.heap.size w w') := by
  obtain ⟨s, A, n, c, f, x, rfl, hr, hpd, hM⟩ := h
  refine (dcheck_any hr s x).mono ?_
  rintro e w' ⟨rfl, hb⟩
  exact ⟨_, rfl, ⟨fun hp => if_pos (hpd.1 hp), fun hn => if_neg (fun hm => hn (hpd.2 hm))⟩, hb⟩

set_option maxHeartbeats 3200000 in
theorem divided_bad {w : World} {p q : Prop} {M N : Int} {v u : Value} (h1 : DArg w p M v) (h2 : DArg w q N u) (hn : ¬ (p ∧ q)) (k : Int) (fv : Value) :
    Calls Tryd.prog 13 #[v, u, .int .i64 k, fv] w fun e w' => e = .returned (.tuple #[.agg #[.bool false, .slice none 0 0, .int .i64 0], .int .i64 8]) ∧ Hid (Below w.heap.size w w') := by
  have CA := hid (fun (w' : World) (hb : Below w.heap.size w w') => (h1.below hb).chk)
  have CB := hid (fun (w' : World) (hb : Below w.heap.size w w') => (h2.below hb).chk)
  obtain ⟨s, Aa, na, ca, fa, x, rfl, -, -, -⟩ := h1
  obtain ⟨t, Ab, nb, cb, fb, y, rfl, -, -, -⟩ := h2
  obtain ⟨W, hW⟩ : ∃ W, W = (((w.alloc (.cells #[.bool s, .slice Aa na ca, .int .i64 x] 24)).alloc (.cells #[.bool t, .slice Ab nb cb, .int .i64 y] 24)).alloc
    (.cells #[.bool false, .slice none 0 0, .int .i64 0] 24)) := ⟨_, rfl⟩
  have B0 : Below w.heap.size w W := hW ▸ (((Below.refl w.heap.size w).alloc (Nat.le_refl _) _).alloc (by simp) _).alloc (by simp <;> omega) _
  have hsz : W.heap.size = w.heap.size + 3 := by rw [hW]; simp
  have D1 : Dbox W w.heap.size s (.slice Aa na ca) x := by
    rw [hW]
    exact (Below.heap_alloc _ _ _ (by simp <;> omega)).trans ((Below.heap_alloc _ _ _ (by simp)).trans (heap_laid rfl))
  have D2 : Dbox W (w.heap.size + 1) t (.slice Ab nb cb) y := by
    rw [hW]
    exact (Below.heap_alloc _ _ _ (by simp)).trans (heap_laid (by simp))
  have D3 : Dbox W (w.heap.size + 2) false (.slice none 0 0) 0 := by
    rw [hW]
    exact heap_laid (by simp)
  have a0 := D1.c0
  have a1 := D1.c1
  have a2 := D1.c2
  have HW := hid hW
  have HB := hid B0
  have H2 := hid D2
  have H3 := hid D3
  have Hsz := hid hsz
  have Hn := hid hn
  clear hW B0 D1 D2 D3 hsz hn
  go_enter Tryd.func13, Tryd.ntmps13
  go_upto_region 1 with fail
  rw [← HW.out]
  go_wp2_with fail
  with_reducible refine (CA.out _ HB.out).mono ?_
  rintro e w1 ⟨er, rfl, HE, hb1⟩
  have B1 := hid (HB.out.trans (hb1.out.mono (by have := HB.out.size; omega)))
  have P2 := hid (H2.out.below hb1.out H2.out.lt)
  have P3 := hid (H3.out.below hb1.out H3.out.lt)
  by_cases hp : p
  · obtain rfl := HE.out.1 hp
    have hq : ¬ q := fun h => Hn.out ⟨hp, h⟩
    have b0 := P2.out.c0
    have b1 := P2.out.c1
    have b2 := P2.out.c2
    clear a0 a1 a2
    go_wp2_with fail
    with_reducible refine (CB.out _ B1.out).mono ?_
    rintro e w2 ⟨er, rfl, HE2, hb2⟩
    obtain rfl := HE2.out.2 hq
    have B2 := hid (B1.out.trans (hb2.out.mono (by have := B1.out.size; omega)))
    have Q3 := hid (P3.out.below hb2.out P3.out.lt)
    have f0 := Q3.out.frozen 0
    have f1 := Q3.out.frozen 1
    have f2 := Q3.out.frozen 2
    have c0 := Q3.out.c0
    have c1 := Q3.out.c1
    have c2 := Q3.out.c2
    clear b0 b1 b2 hp hq
    go_wp2
    refine ret_dyad rfl rfl rfl rfl (Q3.out.store (t := false) (u := .slice none 0 0) (y := 0)) ⟨rfl, hid (below_put3 B2.out (by omega))⟩
  · obtain rfl := HE.out.2 hp
    have f0 := P3.out.frozen 0
    have f1 := P3.out.frozen 1
    have f2 := P3.out.frozen 2
    have c0 := P3.out.c0
    have c1 := P3.out.c1
    have c2 := P3.out.c2
    clear a0 a1 a2 hp
    go_wp2
    refine ret_dyad rfl rfl rfl rfl (P3.out.store (t := false) (u := .slice none 0 0) (y := 0)) ⟨rfl, hid (below_put3 B1.out (by omega))⟩

set_option maxHeartbeats 3200000 in
theorem divided_arg {w : World} {M N : Int} {v : Value} {t : Bool} {Ab : Option Addr} {nb cb : Nat} {y : Int} (h1 : DArg w True M v) (h2 : DArg w True N (.agg #[.bool t, .slice Ab nb cb, .int .i64 y])) (k : Int) (hn : t = true ∨ nb = 0 ∨ k < 0 ∨ 64 < k) (fv : Value) :
    Calls Tryd.prog 13 #[v, .agg #[.bool t, .slice Ab nb cb, .int .i64 y], .int .i64 k, fv] w fun e w' => e = .returned (.tuple #[.agg #[.bool false, .slice none 0 0, .int .i64 0], .int .i64 2]) ∧ Hid (Below w.heap.size w w') := by
  have CA := hid (fun (w' : World) (hb : Below w.heap.size w w') => (h1.below hb).chk)
  have CB := hid (fun (w' : World) (hb : Below w.heap.size w w') => (h2.below hb).chk)
  obtain ⟨s, Aa, na, ca, fa, x, rfl, -, -, -⟩ := h1
  obtain ⟨W, hW⟩ : ∃ W, W = (((w.alloc (.cells #[.bool s, .slice Aa na ca, .int .i64 x] 24)).alloc (.cells #[.bool t, .slice Ab nb cb, .int .i64 y] 24)).alloc
    (.cells #[.bool false, .slice none 0 0, .int .i64 0] 24)) := ⟨_, rfl⟩
  have B0 : Below w.heap.size w W := hW ▸ (((Below.refl w.heap.size w).alloc (Nat.le_refl _) _).alloc (by simp) _).alloc (by simp <;> omega) _
  have hsz : W.heap.size = w.heap.size + 3 := by rw [hW]; simp
  have D1 : Dbox W w.heap.size s (.slice Aa na ca) x := by
    rw [hW]
    exact (Below.heap_alloc _ _ _ (by simp <;> omega)).trans ((Below.heap_alloc _ _ _ (by simp)).trans (heap_laid rfl))
  have D2 : Dbox W (w.heap.size + 1) t (.slice Ab nb cb) y := by
    rw [hW]
    exact (Below.heap_alloc _ _ _ (by simp)).trans (heap_laid (by simp))
  have D3 : Dbox W (w.heap.size + 2) false (.slice none 0 0) 0 := by
    rw [hW]
    exact heap_laid (by simp)
  have a0 := D1.c0
  have a1 := D1.c1
  have a2 := D1.c2
  have HW := hid hW
  have HB := hid B0
  have H2 := hid D2
  have H3 := hid D3
  have Hsz := hid hsz
  have Hn := hid hn
  clear hW B0 D1 D2 D3 hsz hn
  go_enter Tryd.func13, Tryd.ntmps13
  go_upto_region 1 with fail
  rw [← HW.out]
  go_wp2_with fail
  with_reducible refine (CA.out _ HB.out).mono ?_
  rintro e w1 ⟨er, rfl, HE, hb1⟩
  have B1 := hid (HB.out.trans (hb1.out.mono (by have := HB.out.size; omega)))
  have P2 := hid (H2.out.below hb1.out H2.out.lt)
  have P3 := hid (H3.out.below hb1.out H3.out.lt)
  obtain rfl := HE.out.1 trivial
  have b0 := P2.out.c0
  have b1 := P2.out.c1
  have b2 := P2.out.c2
  clear a0 a1 a2
  go_wp2_with fail
  with_reducible refine (CB.out _ B1.out).mono ?_
  rintro e w2 ⟨er, rfl, HE2, hb2⟩
  obtain rfl := HE2.out.1 trivial
  have B2 := hid (B1.out.trans (hb2.out.mono (by have := B1.out.size; omega)))
  have Q2 := hid (P2.out.below hb2.out P2.out.lt)
  have Q3 := hid (P3.out.below hb2.out P3.out.lt)
  have f0 := Q3.out.frozen 0
  have f1 := Q3.out.frozen 1
  have f2 := Q3.out.frozen 2
  have c0 := Q3.out.c0
  have c1 := Q3.out.c1
  have c2 := Q3.out.c2
  clear b0 b1 b2
  have b0 := Q2.out.c0
  have b1 := Q2.out.c1
  have b2 := Q2.out.c2
  have hfin := hid (below_put3 (g := w.heap.size + 2) (s := false) (v := .slice none 0 0) (x := 0) B2.out (by omega))
  by_cases ht : t = true
  · subst ht
    clear Hn
    go_wp2
    refine ret_dyad rfl rfl rfl rfl (Q3.out.store (t := false) (u := .slice none 0 0) (y := 0)) ⟨rfl, hfin⟩
  · obtain rfl : t = false := by simpa using ht
    by_cases hb0 : nb = 0
    · subst hb0
      clear Hn ht
      go_wp2
      refine ret_dyad rfl rfl rfl rfl (Q3.out.store (t := false) (u := .slice none 0 0) (y := 0)) ⟨rfl, hfin⟩
    · have hb1 : ((nb : Int) == 0) = false := by simp; omega
      have h3 := Hn.out
      clear Hn ht
      by_cases hk : k < 0
      · clear h3 hb0
        go_wp2
        refine ret_dyad rfl rfl rfl rfl (Q3.out.store (t := false) (u := .slice none 0 0) (y := 0)) ⟨rfl, hfin⟩
      · have hk2 : 64 < k := by
          rcases h3 with h | h | h | h
          · cases h
          · exact absurd h hb0
          · exact absurd h hk
          · exact h
        clear h3 hb0
        go_wp2
        refine ret_dyad rfl rfl rfl rfl (Q3.out.store (t := false) (u := .slice none 0 0) (y := 0)) ⟨rfl, hfin⟩

end Go.Proofs.YtnhnddhigbbleaaDoor


namespace Go.Proofs.YtnhnddhigbbleaaDoor
open Go.RowKit

theorem divide_any {w : World} {s t : Bool} {Aa Ab : Option Addr} {na ca nb cb ea eb k : Nat} {fa fb : Nat → Nat} (ha : Rd w w.heap.size Aa na ca fa) (hfa : Fit na fa) (hb : Rd w w.heap.size Ab nb cb fb) (hfb : Fit nb fb) (hVb : 0 < vl fb nb) (hea : ea ≤ 1024) (heb : eb ≤ 1024) (hk : k ≤ 64) :
    Calls Tryd.prog 26 #[.agg #[.bool s, .slice Aa na ca, .int .i64 (ea : Int)], .agg #[.bool t, .slice Ab nb cb, .int .i64 (eb : Int)], .int .i64 (k : Int)] w fun e w' => QTold w (vl fa na * tp (4000 - ea)) (vl fb nb * tp (4000 - eb)) k e w' :=
  callsIn_wide.1 (divide_in ha hfa hb hfb hVb hea heb hk)

theorem dbox_new (w : World) : Dbox (w.alloc (.cells #[.bool false, .slice none 0 0, .int .i64 0] 24)) w.heap.size false (.slice none 0 0) 0 := heap_laid rfl
theorem Dn.form {B : Nat} {w : World} {M : Int} {d : Value} (h : Dn B w M d) : ∃ s A n c x, d = .agg #[.bool s, .slice A n c, .int .i64 x] := by
  obtain ⟨s, u, X, V, rfl, hn, _⟩ := h
  obtain ⟨A, n, c, rfl⟩ := hn.shape
  exact ⟨s, A, n, c, _, rfl⟩
theorem Dn.keep {B g : Nat} {w : World} {M : Int} {d : Value} (h : Dn B w M d) (hg : g < B) (j : Nat) (u : Value) : Dn B (w.setCell ⟨g, j, none⟩ u) M d := by
  obtain ⟨s, v, x, V, rfl, hn, hr⟩ := h
  exact ⟨s, v, x, V, rfl, hn.set hg j u, hr⟩
theorem Dn.on {B : Nat} {w w' : World} {M : Int} {d : Value} (h : Dn B w M d) (hb : Below w.heap.size w w') : Dn B w' M d := by
  obtain ⟨s, v, x, V, rfl, hn, hr⟩ := h
  exact ⟨s, v, x, V, rfl, hn.below hb (Nat.le_refl _), hr⟩
/-- Add, of the whole part and the fraction. -/
theorem add_fraction {w : World} {wh P k Q : Nat} {v u : Value} (hk : k ≤ 64) (h1 : DArg w True (num false (wh * tp 4000)) v) (h2 : DArg w True (num false (P * tp (4000 - k))) u) (hQ : Q = wh * 2 ^ k + P) (hT : Tab w) :
    Calls Tryd.prog 28 #[v, u] w fun e w' => ∃ s A n c x er, e = .returned (.tuple #[.agg #[.bool s, .slice A n c, .int .i64 x], .int .i64 er]) ∧ Hid (Derr (num false (Q * tp (4000 - k))) er) ∧ Hid (Dn w.heap.size w' (resD er (num false (Q * tp (4000 - k)))) (.agg #[.bool s, .slice A n c, .int .i64 x])) ∧ Hid (Below w.heap.size w w') := by
  have h := dadd_any h1 h2 hT
  rw [sum_parts hk, ← hQ] at h
  refine h.mono ?_
  rintro e w' ⟨d, er, rfl, HE, HD, HB⟩
  obtain ⟨s, A, n, c, x, rfl⟩ := HD.out.form
  exact ⟨s, A, n, c, x, er, rfl, hid (HE.out.1 ⟨trivial, trivial⟩), HD, HB⟩

set_option maxRecDepth 100000 in
set_option maxHeartbeats 6400000 in
theorem divided_good {w : World} {s : Bool} {Aa Ab : Option Addr} {na ca nb cb ea eb k : Nat} {fa fb : Nat → Nat} (ha : Rd w w.heap.size Aa na ca fa) (pa : DMay s na fa (ea : Int)) (hb : Rd w w.heap.size Ab nb cb fb) (pb : DMay false nb fb (eb : Int)) (hnb : 0 < nb) (hk : k ≤ 64)
    (fid : Nat) (hE : ∀ args w, (callFunc fid args).run Tryd.prog w = .ok (.enter fid args) w) (pt : Value) (aw : Bool → Bool → Bool) (hC : ∀ w', Below w.heap.size w w' → ∀ (v : Value) (p : Nat) (h m : Bool), Calls Tryd.prog fid #[.agg #[.bool false, v, .int .i64 0, .int .u64 (p : Int), .int .i64 (k : Int), .bool h, .bool m], pt] w' fun e w'' => e = .returned (.bool (aw h m)) ∧ Hid (Below w'.heap.size w' w'')) (hT : Tab w) (hT64 : Tab64 w)
    {Q : Nat} (hQ : Q = vl fa na * tp (4000 - ea) * 2 ^ k / (vl fb nb * tp (4000 - eb)) + (if aw (decide (vl fa na * tp (4000 - ea) * 2 ^ (k + 1) / (vl fb nb * tp (4000 - eb)) % 2 = 1)) (decide (vl fa na * tp (4000 - ea) * 2 ^ (k + 1) % (vl fb nb * tp (4000 - eb)) ≠ 0)) then 1 else 0)) :
    Calls Tryd.prog 13 #[.agg #[.bool s, .slice Aa na ca, .int .i64 (ea : Int)], .agg #[.bool false, .slice Ab nb cb, .int .i64 (eb : Int)], .int .i64 (k : Int), .func (.func fid) #[] #[pt]] w (DRes w (Derr (num s (Q * tp (4000 - k)))) (num s (Q * tp (4000 - k)))) := by
  have hea : ea ≤ 1024 := by have := pa.2.2.1; omega
  have heb : eb ≤ 1024 := by have := pb.2.2.1; omega
  have hVb : 0 < vl fb nb := by
    have h0 := vl_zero_iff pb.1
    omega
  have h1 : DArg w True (dv s (vl fa na) ea) (.agg #[.bool s, .slice Aa na ca, .int .i64 (ea : Int)]) := ⟨s, Aa, na, ca, fa, ea, rfl, ha, ⟨fun _ => pa, fun _ => trivial⟩, fun _ => ⟨ea, rfl, rfl⟩⟩
  have h2 : DArg w True (dv false (vl fb nb) eb) (.agg #[.bool false, .slice Ab nb cb, .int .i64 (eb : Int)]) := ⟨false, Ab, nb, cb, fb, eb, rfl, hb, ⟨fun _ => pb, fun _ => trivial⟩, fun _ => ⟨eb, rfl, rfl⟩⟩
  have CA := hid (fun (w' : World) (hb : Below w.heap.size w w') => (h1.below hb).chk)
  have CB := hid (fun (w' : World) (hb : Below w.heap.size w w') => (h2.below hb).chk)
  have CD := hid (fun (w' : World) (hbl : Below w.heap.size w w') => divide_any (s := s) (t := false) (k := k) ((ha.below hbl).mono hbl.size) pa.1 ((hb.below hbl).mono hbl.size) pb.1 hVb hea heb hk)
  have CC := hid hC
  have HT := hid (hT.below (Below.refl _ w) hT.lt)
  have HT64 := hid hT64
  have Hk := hid hk
  have HQ := hid hQ
  generalize vl fa na * tp (4000 - ea) = XA at *
  generalize vl fb nb * tp (4000 - eb) = XB at *
  clear hQ hC hT hT64 h1 h2 ha hb pa pb hea heb hVb
  obtain ⟨W, hW⟩ : ∃ W, W = (((w.alloc (.cells #[.bool s, .slice Aa na ca, .int .i64 (ea : Int)] 24)).alloc (.cells #[.bool false, .slice Ab nb cb, .int .i64 (eb : Int)] 24)).alloc
    (.cells #[.bool false, .slice none 0 0, .int .i64 0] 24)) := ⟨_, rfl⟩
  have B0 : Below w.heap.size w W := hW ▸ (((Below.refl w.heap.size w).alloc (Nat.le_refl _) _).alloc (by simp) _).alloc (by simp <;> omega) _
  have hsz : W.heap.size = w.heap.size + 3 := by rw [hW]; simp
  have D1 : Dbox W w.heap.size s (.slice Aa na ca) ea := by
    rw [hW]
    exact (Below.heap_alloc _ _ _ (by simp <;> omega)).trans ((Below.heap_alloc _ _ _ (by simp)).trans (heap_laid rfl))
  have D2 : Dbox W (w.heap.size + 1) false (.slice Ab nb cb) eb := by
    rw [hW]
    exact (Below.heap_alloc _ _ _ (by simp)).trans (heap_laid (by simp))
  have D3 : Dbox W (w.heap.size + 2) false (.slice none 0 0) 0 := by
    rw [hW]
    exact heap_laid (by simp)
  have a0 := D1.c0
  have a1 := D1.c1
  have a2 := D1.c2
  have HW := hid hW
  have HB := hid B0
  have H1 := hid D1
  have H2 := hid D2
  have H3 := hid D3
  have Hsz := hid hsz
  clear hW B0 D1 D2 D3 hsz
  have hb1 : ((nb : Int) == 0) = false := by simp; omega
  have hk0 : ¬ ((k : Int) < 0) := by omega
  have hk1 : ¬ (64 < (k : Int)) := by omega
  have Hnb := hid hnb
  clear hnb hk
  go_enter Tryd.func13, Tryd.ntmps13
  go_upto_region 1 with fail
  rw [← HW.out]
  go_wp2_with fail
  with_reducible refine (CA.out _ HB.out).mono ?_
  rintro e w1 ⟨er, rfl, HE, hj1⟩
  obtain rfl := HE.out.1 trivial
  have B1 := hid (HB.out.trans (hj1.out.mono (by have := HB.out.size; omega)))
  have P1 := hid (H1.out.below hj1.out H1.out.lt)
  have P2 := hid (H2.out.below hj1.out H2.out.lt)
  have P3 := hid (H3.out.below hj1.out H3.out.lt)
  have b0 := P2.out.c0
  have b1 := P2.out.c1
  have b2 := P2.out.c2
  clear a0 a1 a2
  go_wp2_with fail
  with_reducible refine (CB.out _ B1.out).mono ?_
  rintro e w2 ⟨er, rfl, HE2, hj2⟩
  obtain rfl := HE2.out.1 trivial
  have B2 := hid (B1.out.trans (hj2.out.mono (by have := B1.out.size; omega)))
  have Q1 := hid (P1.out.below hj2.out P1.out.lt)
  have Q2 := hid (P2.out.below hj2.out P2.out.lt)
  have Q3 := hid (P3.out.below hj2.out P3.out.lt)
  clear b0 b1 b2
  have a0 := Q1.out.c0
  have a1 := Q1.out.c1
  have a2 := Q1.out.c2
  have b0 := Q2.out.c0
  have b1 := Q2.out.c1
  have b2 := Q2.out.c2
  go_wp2_with fail
  with_reducible refine (CD.out _ B2.out).mono ?_
  rintro e w3 hQT
  unfold QTold at hQT
  obtain ⟨hj3, hQT⟩ := hQT
  have B3 := hid (B2.out.trans (hj3.out.mono (by have := B2.out.size; omega)))
  have R1 := hid (Q1.out.below hj3.out Q1.out.lt)
  have R3 := hid (Q3.out.below hj3.out Q3.out.lt)
  clear a0 a1 a2 b0 b1 b2 hb1 hk0 hk1
  obtain ⟨T, hTd⟩ : ∃ T, T = XA * 2 ^ (k + 1) / XB := ⟨_, rfl⟩
  obtain ⟨mr, hmr⟩ : ∃ mr, mr = decide (XA * 2 ^ (k + 1) % XB ≠ 0) := ⟨_, rfl⟩
  have hwp := whole_parts hTd
  have hQ := HQ.out
  rw [← hTd, ← hmr, ← hwp] at hQ
  rw [← hTd, ← hmr] at hQT
  clear HQ hwp hTd hmr
  have hPk : T / 2 % 2 ^ k < 2 ^ k := Nat.mod_lt _ (Nat.pow_pos (by omega))
  obtain ⟨hf, hfd⟩ : ∃ hf, hf = decide (T % 2 = 1) := ⟨_, rfl⟩
  rw [← hfd] at hQT hQ
  generalize T / 2 % 2 ^ k = P at *
  generalize T / 2 ^ (k + 1) = wh at *
  have HQ := hid hQ
  have HP := hid hPk
  clear hQ hPk hfd
  rcases hQT with ⟨hov, rfl⟩ | ⟨hlt, v, rfl, hnum⟩
  · have hno := hid (not_room (s := s) (k := k) (W := wh) (Q := Q) Hk.out hov (by rw [HQ.out, Nat.add_assoc]; exact Nat.le_add_right _ _))
    have c0 := fun o => (R3.out.alloc o).c0
    have c1 := fun o => (R3.out.alloc o).c1
    have c2 := fun o => (R3.out.alloc o).c2
    have f0 := fun o => (R3.out.alloc o).frozen 0
    have f1 := fun o => (R3.out.alloc o).frozen 1
    have f2 := fun o => (R3.out.alloc o).frozen 2
    clear hov
    go_wp2
    refine ret_dyad rfl rfl rfl rfl ((R3.out.alloc _).store (t := false) (u := .slice none 0 0) (y := 0)) ⟨_, 10, rfl, hid (.inr ⟨hno.out, rfl⟩), hid ?_, hid (below_put3 (B3.out.alloc B3.out.size _) (by omega))⟩
    rw [resD_bad (by omega)]
    exact Dn.zero _ _
  · obtain ⟨Av, nv, cv, rfl⟩ := hnum.out.shape
    have HD3 := hid (whole_arg hnum.out)
    have Hlt := hid hlt
    obtain ⟨W4, hW4⟩ : ∃ W4, W4 = w3.alloc (.cells #[.bool false, .slice Av nv cv, .int .i64 0, .int .u64 (P : Int), .int .i64 (k : Int), .bool hf, .bool mr] 39) := ⟨_, rfl⟩
    have bQ : Hid (Qbox W4 w3.heap.size false (.slice Av nv cv) 0 P k hf mr) := hid (hW4 ▸ heap_laid rfl)
    have b4 : Hid (Below w3.heap.size w3 W4) := hid (hW4 ▸ (Below.refl _ w3).alloc (Nat.le_refl _) _)
    have B4 := hid (B3.out.trans (b4.out.mono B3.out.size))
    have HD4 := hid (HD3.out.below b4.out)
    have S1 := hid (R1.out.below b4.out R1.out.lt)
    have S3 := hid (R3.out.below b4.out R3.out.lt)
    have hs3 : Hid (w.heap.size + 2 < w3.heap.size) := hid R3.out.lt
    have hs4 : Hid (w3.heap.size < W4.heap.size) := hid bQ.out.lt
    have HW4 := hid hW4
    have d0 := bQ.out.c0
    have d1 := bQ.out.c1
    have d2 := bQ.out.c2
    have d3 := bQ.out.c3
    have d4 := bQ.out.c4
    have d5 := bQ.out.c5
    have d6 := bQ.out.c6
    clear hlt hW4
    go_upto_region 6 with fail
    rw [← HW4.out]
    go_wp2_with fail
    with_reducible refine (CC.out _ B4.out _ _ _ _).mono ?_
    rintro e w5 ⟨rfl, hj5⟩
    have B5 := hid (B4.out.trans (hj5.out.mono B4.out.size))
    have bQ5 := hid (bQ.out.below hj5.out bQ.out.lt)
    have HD5 := hid (HD4.out.below hj5.out)
    have T1 := hid (S1.out.below hj5.out S1.out.lt)
    have T3 := hid (S3.out.below hj5.out S3.out.lt)
    have b35 := hid (b4.out.trans (hj5.out.mono (Nat.le_of_lt hs4.out)))
    have hQ2 := HQ.out
    clear HQ d0 d1 d2 d3 d4 d5 d6 HW HW4 H1 H2 H3 P1 P2 P3 Q1 Q2 Q3 S1 S3 hj1 hj2 CA CB CD HB B1 B2 HE HE2
    generalize hgo : aw hf mr = go at *
    cases go
    · have HQ6 : Hid (Q = wh * 2 ^ k + P) := hid (by rw [hQ2]; simp)
      have HP6 : Hid (P < 2 ^ k ∨ P = 0) := hid (.inl HP.out)
      have HP64 : Hid (P < 18446744073709551616) := hid (Nat.lt_of_lt_of_le HP.out (by have := Nat.pow_le_pow_right (n := 2) (by omega) Hk.out; simpa using this))
      clear hQ2 hgo
      obtain ⟨W6, hW6⟩ : ∃ W6, W6 = w5 := ⟨_, rfl⟩
      rw [← hW6] at bQ5 HD5 b35 ⊢
      obtain ⟨t6, ht6⟩ : ∃ t6, t6 = false := ⟨_, rfl⟩
      obtain ⟨y6, hy6⟩ : ∃ y6 : Int, y6 = 0 := ⟨_, rfl⟩
      rw [← ht6] at bQ5
      replace HD5 : Hid (DArg W6 True (num false (wh * tp 4000)) (.agg #[.bool t6, .slice Av nv cv, .int .i64 y6])) := by rw [ht6, hy6]; exact HD5
      rw [← hy6] at bQ5
      clear hW6 ht6 hy6 hnum HD3 bQ HD4 T1 T3 B5 hj5 b4 B4 hE CC HP
      go_upto_region 10 with fail
      have B6 := hid (B3.out.trans (b35.out.mono B3.out.size))
      have U1 := hid (R1.out.below b35.out R1.out.lt)
      have U3 := hid (R3.out.below b35.out R3.out.lt)
      have HT6 := hid (fun (w' : World) (hb : Below W6.heap.size W6 w') => HT.out.below (B6.out.trans (hb.mono B6.out.size)) HT.out.lt)
      have HT646 := hid (fun (w' : World) (hb : Below W6.heap.size W6 w') => HT64.out.below (B6.out.trans (hb.mono B6.out.size)) HT64.out.lt)
      have CFr : Hid (∀ w', Below W6.heap.size W6 w' → Calls Tryd.prog 29 #[.agg #[.bool t6, .slice Av nv cv, .int .i64 y6, .int .u64 (P : Int), .int .i64 (k : Int), .bool hf, .bool mr]] w' fun e w'' => ∃ s A n c x, e = .returned (.agg #[.bool s, .slice A n c, .int .i64 x]) ∧ Hid (DArg w'' True (num false (P * tp (4000 - k))) (.agg #[.bool s, .slice A n c, .int .i64 x])) ∧ Hid (Below w'.heap.size w' w'') ∧ Hid (Below W6.heap.size W6 w'')) := hid fun w' hb => (fraction_any HP64.out HP6.out Hk.out (HT646.out w' hb)).mono fun e w'' h => by
        obtain ⟨d, rfl, h1, h2⟩ := h
        obtain ⟨s, A, n, c, x, rfl⟩ := h1.out.form
        exact ⟨s, A, n, c, x, rfl, hid h1.out.arg, h2, hid (hb.trans (h2.out.mono hb.size))⟩
      have CAd := hid (fun (w' : World) (u : Value) (hb : Below W6.heap.size W6 w') (hu : DArg w' True (num false (P * tp (4000 - k))) u) => (add_fraction Hk.out (HD5.out.below hb) hu HQ6.out (HT6.out w' hb)).mono (R' := fun e w'' => ∃ s A n c x er, e = .returned (.tuple #[.agg #[.bool s, .slice A n c, .int .i64 x], .int .i64 er]) ∧ Hid (Derr (num false (Q * tp (4000 - k))) er) ∧ Hid (Dn w'.heap.size w'' (resD er (num false (Q * tp (4000 - k)))) (.agg #[.bool s, .slice A n c, .int .i64 x])) ∧ Hid (Below w'.heap.size w' w'') ∧ Hid (Below W6.heap.size W6 w'')) fun e w'' h => by
        obtain ⟨s, A, n, c, x, er, h0, h1, h2, h3⟩ := h
        exact ⟨s, A, n, c, x, er, h0, h1, h2, h3, hid (hb.trans (h3.out.mono hb.size))⟩)
      have HBz : Hid (Below W6.heap.size W6 W6.drew) := hid (Below.refl _ W6).drew
      have d0 := bQ5.out.c0
      have d1 := bQ5.out.c1
      have d2 := bQ5.out.c2
      have d3 := bQ5.out.c3
      have d4 := bQ5.out.c4
      have d5 := bQ5.out.c5
      have d6 := bQ5.out.c6
      have hg6 := hid bQ5.out.lt
      have CK := hid (fun (w' : World) (hb : Below W6.heap.size W6 w') => (⟨(bQ5.out.below hb hg6.out).c0, (bQ5.out.below hb hg6.out).c1, (bQ5.out.below hb hg6.out).c2, (bQ5.out.below hb hg6.out).c3, (bQ5.out.below hb hg6.out).c4, (bQ5.out.below hb hg6.out).c5, (bQ5.out.below hb hg6.out).c6⟩ : w'.cell? ⟨w3.heap.size, 0, none⟩ = some (.bool t6) ∧ w'.cell? ⟨w3.heap.size, 1, none⟩ = some (.slice Av nv cv) ∧ w'.cell? ⟨w3.heap.size, 2, none⟩ = some (.int .i64 y6) ∧ w'.cell? ⟨w3.heap.size, 3, none⟩ = some (.int .u64 (P : Int)) ∧ w'.cell? ⟨w3.heap.size, 4, none⟩ = some (.int .i64 (k : Int)) ∧ w'.cell? ⟨w3.heap.size, 5, none⟩ = some (.bool hf) ∧ w'.cell? ⟨w3.heap.size, 6, none⟩ = some (.bool mr)))
      go_region_held3 (fun w' => w'.cell? ⟨w3.heap.size, 0, none⟩ = some (.bool t6) ∧ w'.cell? ⟨w3.heap.size, 1, none⟩ = some (.slice Av nv cv) ∧ w'.cell? ⟨w3.heap.size, 2, none⟩ = some (.int .i64 y6) ∧ w'.cell? ⟨w3.heap.size, 3, none⟩ = some (.int .u64 (P : Int)) ∧ w'.cell? ⟨w3.heap.size, 4, none⟩ = some (.int .i64 (k : Int)) ∧ w'.cell? ⟨w3.heap.size, 5, none⟩ = some (.bool hf) ∧ w'.cell? ⟨w3.heap.size, 6, none⟩ = some (.bool mr))
        (first
          | exact CK.out _ HBz.out
          | exact CK.out _ (HBz.out.alloc HBz.out.size _)
          | exact CK.out _ (below_put3 HBz.out (Nat.le_refl _))
          | exact CK.out _ (below_put3 HBz.out hs7))
        (first
        | (go_at_call 29
           with_reducible refine (CFr.out _ ?_).mono ?_
           · first | exact HBz.out | exact HBz.out.alloc HBz.out.size _
           rintro e w7 ⟨s7, A7, n7, c7, x7, rfl, HD7, hj7, HBz⟩
           clear CFr
           have hs7 := HBz.out.size
           try have Xb := (dbox_new _).below hj7.out (by simp)
           try have Xb := (Dbox.drew (dbox_new _)).below hj7.out (by simp)
           try have Xb := hid Xb)
        | (go_at_call 28
           with_reducible refine (CAd.out _ _ ?_ ?_).mono ?_
           · first | exact HBz.out | exact HBz.out.alloc HBz.out.size _
           · first | exact HD7.out | exact HD7.out.below ((Below.refl _ _).alloc (Nat.le_refl _) _)
           rintro e w8 ⟨s8, A8, n8, c8, x8, er, rfl, HE8, HD8, hj8, HBz⟩
           clear CAd
           try have Xb := hid (Xb.out.below hj8.out Xb.out.lt)
           try have Xb := hid ((dbox_new _).below hj8.out (by simp))
           try have x0 := Xb.out.c0
           try have x1 := Xb.out.c1
           try have x2 := Xb.out.c2
           try have z0 := Xb.out.frozen 0
           try have z1 := Xb.out.frozen 1
           try have z2 := Xb.out.frozen 2))
      all_goals
        clear d0 d1 d2 d3 d4 d5 d6
        try clear x0 x1 x2 z0 z1 z2
        have hr7 := hs7
        have hgr : w.heap.size + 2 < W6.heap.size := U3.out.lt
        first
          | (obtain ⟨W9, hW9⟩ : ∃ W9, W9 = w8.alloc (.cells #[.bool s8, .slice A8 n8 c8, .int .i64 x8] 24) := ⟨_, rfl⟩
             rw [← hW9]
             have B9 : Hid (Below W6.heap.size W6 W9) := hid (hW9 ▸ HBz.out.alloc HBz.out.size _)
             have X9 : Hid (Dbox W9 w8.heap.size s8 (.slice A8 n8 c8) x8) := hid (hW9 ▸ heap_laid rfl)
             have FD : Hid (∀ b, Dn w.heap.size (put3 (W9.setCell ⟨w8.heap.size, 0, none⟩ (.bool b)) (w.heap.size + 2) b (.slice A8 n8 c8) x8) (resD er (num false (Q * tp (4000 - k)))) (.agg #[.bool s8, .slice A8 n8 c8, .int .i64 x8])) := hid fun b => hW9 ▸ (((HD8.out.on (((Below.refl _ w8).alloc (Nat.le_refl _) _).setCell (p := ⟨w8.heap.size, 0, none⟩) (Nat.le_refl _) _)).mono hs7).put3 hgr).mono (by omega)
             have hg9 : W6.heap.size ≤ w8.heap.size := HBz.out.size
             have V1 := hid (U1.out.below B9.out U1.out.lt)
             have V3 := hid (U3.out.below B9.out hgr)
             have C9 := hid (B6.out.trans (B9.out.mono B6.out.size))
             have hgg : w.heap.size + 2 < w8.heap.size := by omega
             generalize w8.heap.size = gb at X9 FD hgg ⊢
             clear hW9)
          | (obtain ⟨W9, hW9⟩ : ∃ W9, W9 = put3 w8 w7.heap.size s8 (.slice A8 n8 c8) x8 := ⟨_, rfl⟩
             unfold put3 at hW9
             rw [← hW9]
             have B9 : Hid (Below W6.heap.size W6 W9) := hid (hW9 ▸ below_put3 HBz.out hs7)
             have X9 : Hid (Dbox W9 w7.heap.size s8 (.slice A8 n8 c8) x8) := hid (hW9 ▸ Xb.out.store)
             have FD : Hid (∀ b, Dn w.heap.size (put3 (W9.setCell ⟨w7.heap.size, 0, none⟩ (.bool b)) (w.heap.size + 2) b (.slice A8 n8 c8) x8) (resD er (num false (Q * tp (4000 - k)))) (.agg #[.bool s8, .slice A8 n8 c8, .int .i64 x8])) := hid fun b => hW9 ▸ ((((HD8.out.put3 (g := w7.heap.size) (by simp)).keep (by simp) 0 (.bool b)).mono (Nat.le_trans hs7 (by simp))).put3 hgr).mono (by omega)
             have hg9 : W6.heap.size ≤ w7.heap.size := hs7
             have V1 := hid (U1.out.below B9.out U1.out.lt)
             have V3 := hid (U3.out.below B9.out hgr)
             have C9 := hid (B6.out.trans (B9.out.mono B6.out.size))
             have hgg : w.heap.size + 2 < w7.heap.size := by omega
             generalize w7.heap.size = gb at X9 FD hgg ⊢
             clear hW9)
          | (obtain ⟨W9, hW9⟩ : ∃ W9, W9 = put3 w8 W6.heap.size s8 (.slice A8 n8 c8) x8 := ⟨_, rfl⟩
             unfold put3 at hW9
             rw [← hW9]
             have h67 : W6.heap.size < w7.heap.size := by have := hj7.out.size; simp at this; omega
             have B9 : Hid (Below W6.heap.size W6 W9) := hid (hW9 ▸ below_put3 HBz.out (Nat.le_refl _))
             have X9 : Hid (Dbox W9 W6.heap.size s8 (.slice A8 n8 c8) x8) := hid (hW9 ▸ Xb.out.store)
             have FD : Hid (∀ b, Dn w.heap.size (put3 (W9.setCell ⟨W6.heap.size, 0, none⟩ (.bool b)) (w.heap.size + 2) b (.slice A8 n8 c8) x8) (resD er (num false (Q * tp (4000 - k)))) (.agg #[.bool s8, .slice A8 n8 c8, .int .i64 x8])) := hid fun b => hW9 ▸ ((((HD8.out.put3 (g := W6.heap.size) h67).keep h67 0 (.bool b)).mono hs7).put3 hgr).mono (by omega)
             have hg9 : W6.heap.size ≤ W6.heap.size := Nat.le_refl _
             have V1 := hid (U1.out.below B9.out U1.out.lt)
             have V3 := hid (U3.out.below B9.out hgr)
             have C9 := hid (B6.out.trans (B9.out.mono B6.out.size))
             have hgg : w.heap.size + 2 < W6.heap.size := by omega
             generalize W6.heap.size = gb at X9 FD hgg ⊢
             clear hW9)
        have c0 := V3.out.c0
        have c1 := V3.out.c1
        have c2 := V3.out.c2
        have f0 := V3.out.frozen 0
        have f1 := V3.out.frozen 1
        have f2 := V3.out.frozen 2
        rcases HE8.out with ⟨hok, rfl⟩ | ⟨hno, rfl⟩
        · have Hok := hid hok
          clear hok c0 c1 c2 f0 f1 f2
          have a0 := V1.out.c0
          have x0 := X9.out.c0
          have x1 := X9.out.c1
          have x2 := X9.out.c2
          have z0 := X9.out.frozen 0
          have N3 : Hid (∀ b, Dbox (W9.setCell ⟨gb, 0, none⟩ b) (w.heap.size + 2) false (.slice none 0 0) 0) := hid fun b => (Below.heap_setCell W9 ⟨gb, 0, none⟩ b _ (by show _ ≠ gb; omega)).trans V3.out
          have c0 := fun b => (N3.out b).c0
          have c1 := fun b => (N3.out b).c1
          have c2 := fun b => (N3.out b).c2
          have f0 := fun b => (N3.out b).frozen 0
          have f1 := fun b => (N3.out b).frozen 1
          have f2 := fun b => (N3.out b).frozen 2
          have h9 : w.heap.size ≤ gb := by omega
          cases s
          · go_wp2
            refine ret_dyad rfl rfl rfl rfl ((N3.out _).store (t := false) (u := .slice A8 n8 c8) (y := x8)) ⟨_, 0, rfl, hid (.inl ⟨okay_num Hok.out, rfl⟩), hid ?_, hid (below_put3 (C9.out.setCell (p := ⟨gb, 0, none⟩) h9 _) (by omega))⟩
            have h := FD.out false
            rw [resD_ok rfl] at h ⊢
            exact h.signed false
          · rcases Nat.eq_zero_or_pos n8 with h8 | h8
            · subst h8
              go_wp2
              refine ret_dyad rfl rfl rfl rfl ((N3.out _).store (t := false) (u := .slice A8 0 c8) (y := x8)) ⟨_, 0, rfl, hid (.inl ⟨okay_num Hok.out, rfl⟩), hid ?_, hid (below_put3 (C9.out.setCell (p := ⟨gb, 0, none⟩) h9 _) (by omega))⟩
              have h := FD.out false
              rw [resD_ok rfl] at h ⊢
              exact h.signed true
            · have h8i : 0 < (n8 : Int) := by omega
              go_wp2
              refine ret_dyad rfl rfl rfl rfl ((N3.out _).store (t := true) (u := .slice A8 n8 c8) (y := x8)) ⟨_, 0, rfl, hid (.inl ⟨okay_num Hok.out, rfl⟩), hid ?_, hid (below_put3 (C9.out.setCell (p := ⟨gb, 0, none⟩) h9 _) (by omega))⟩
              have h := FD.out true
              rw [resD_ok rfl] at h ⊢
              have h2 := h.signed true
              rw [decide_eq_true h8] at h2
              exact h2
        · have hno' := hid hno
          clear hno
          go_wp2
          refine ret_dyad rfl rfl rfl rfl (V3.out.store (t := false) (u := .slice none 0 0) (y := 0)) ⟨_, 10, rfl, hid (derr_num (.inr ⟨hno'.out, rfl⟩)), hid ?_, hid (below_put3 C9.out (by omega))⟩
          rw [resD_bad (by omega)]
          exact Dn.zero _ _
    · have hQ3 : Q = wh * 2 ^ k + P + 1 := by rw [hQ2]; simp
      have hP0 := HP.out
      clear hQ2 hgo
      have GR := hid (fun (W' : World) (hg : w5.grownBy W' (some w3.heap.size)) => b35.out.grown hg b35.out.size (fun r hr => by injection hr with hr; omega))
      by_cases hlt1 : P + 1 < 2 ^ k
      · have C7 := hid (part_less bQ5.out Hk.out hlt1)
        have HQ3 := hid hQ3
        have Hlt1 := hid hlt1
        clear hQ3 hP0 hlt1
        go_wp2_with fail
        with_reducible refine C7.out.mono ?_
        rintro e W6 ⟨rfl, bQ6, hgr6⟩
        have b36 := hid (GR.out W6 hgr6.out)
        have HD6' := hid (HD3.out.below b36.out)
        obtain ⟨t6, ht6⟩ : ∃ t6, t6 = false := ⟨_, rfl⟩
        obtain ⟨y6, hy6⟩ : ∃ y6 : Int, y6 = 0 := ⟨_, rfl⟩
        obtain ⟨P2, hP2⟩ : ∃ P2, P2 = P + 1 := ⟨_, rfl⟩
        obtain ⟨wh2, hwh2⟩ : ∃ wh2, wh2 = wh := ⟨_, rfl⟩
        obtain ⟨A6, hA6⟩ : ∃ A6, A6 = Av := ⟨_, rfl⟩
        obtain ⟨n6, hn6⟩ : ∃ n6, n6 = nv := ⟨_, rfl⟩
        obtain ⟨c6, hc6⟩ : ∃ c6, c6 = cv := ⟨_, rfl⟩
        have HD6 : Hid (DArg W6 True (num false (wh2 * tp 4000)) (.agg #[.bool t6, .slice A6 n6 c6, .int .i64 y6])) := by rw [ht6, hy6, hwh2, hA6, hn6, hc6]; exact HD6'
        replace bQ6 : Hid (Qbox W6 w3.heap.size t6 (.slice A6 n6 c6) y6 P2 k hf mr) := by rw [ht6, hy6, hP2, hA6, hn6, hc6]; exact bQ6
        have HQ6 : Hid (Q = wh2 * 2 ^ k + P2) := hid (by rw [HQ3.out, hP2, hwh2, Nat.add_assoc])
        have HP6 : Hid (P2 < 2 ^ k ∨ P2 = 0) := hid (.inl (by rw [hP2]; exact Hlt1.out))
        have HP64 : Hid (P2 < 18446744073709551616) := hid (Nat.lt_of_lt_of_le (by rw [hP2]; exact Hlt1.out) (by have := Nat.pow_le_pow_right (n := 2) (by omega) Hk.out; simpa using this))
        clear ht6 hy6 hP2 hwh2 hA6 hn6 hc6 HD6' hnum HD3 bQ HD4 T1 T3 B5 hj5 b4 B4 hE CC HP C7 GR HQ3 Hlt1 hgr6 HD5 bQ5 b35
        go_upto_region 10 with fail
        have B6 := hid (B3.out.trans (b36.out.mono B3.out.size))
        have U1 := hid (R1.out.below b36.out R1.out.lt)
        have U3 := hid (R3.out.below b36.out R3.out.lt)
        have HT6 := hid (fun (w' : World) (hb : Below W6.heap.size W6 w') => HT.out.below (B6.out.trans (hb.mono B6.out.size)) HT.out.lt)
        have HT646 := hid (fun (w' : World) (hb : Below W6.heap.size W6 w') => HT64.out.below (B6.out.trans (hb.mono B6.out.size)) HT64.out.lt)
        have CFr : Hid (∀ w', Below W6.heap.size W6 w' → Calls Tryd.prog 29 #[.agg #[.bool t6, .slice A6 n6 c6, .int .i64 y6, .int .u64 (P2 : Int), .int .i64 (k : Int), .bool hf, .bool mr]] w' fun e w'' => ∃ s A n c x, e = .returned (.agg #[.bool s, .slice A n c, .int .i64 x]) ∧ Hid (DArg w'' True (num false (P2 * tp (4000 - k))) (.agg #[.bool s, .slice A n c, .int .i64 x])) ∧ Hid (Below w'.heap.size w' w'') ∧ Hid (Below W6.heap.size W6 w'')) := hid fun w' hb => (fraction_any HP64.out HP6.out Hk.out (HT646.out w' hb)).mono fun e w'' h => by
          obtain ⟨d, rfl, h1, h2⟩ := h
          obtain ⟨s, A, n, c, x, rfl⟩ := h1.out.form
          exact ⟨s, A, n, c, x, rfl, hid h1.out.arg, h2, hid (hb.trans (h2.out.mono hb.size))⟩
        have CAd := hid (fun (w' : World) (u : Value) (hb : Below W6.heap.size W6 w') (hu : DArg w' True (num false (P2 * tp (4000 - k))) u) => (add_fraction Hk.out (HD6.out.below hb) hu HQ6.out (HT6.out w' hb)).mono (R' := fun e w'' => ∃ s A n c x er, e = .returned (.tuple #[.agg #[.bool s, .slice A n c, .int .i64 x], .int .i64 er]) ∧ Hid (Derr (num false (Q * tp (4000 - k))) er) ∧ Hid (Dn w'.heap.size w'' (resD er (num false (Q * tp (4000 - k)))) (.agg #[.bool s, .slice A n c, .int .i64 x])) ∧ Hid (Below w'.heap.size w' w'') ∧ Hid (Below W6.heap.size W6 w'')) fun e w'' h => by
          obtain ⟨s, A, n, c, x, er, h0, h1, h2, h3⟩ := h
          exact ⟨s, A, n, c, x, er, h0, h1, h2, h3, hid (hb.trans (h3.out.mono hb.size))⟩)
        have HBz : Hid (Below W6.heap.size W6 W6.drew) := hid (Below.refl _ W6).drew
        have d0 := bQ6.out.c0
        have d1 := bQ6.out.c1
        have d2 := bQ6.out.c2
        have d3 := bQ6.out.c3
        have d4 := bQ6.out.c4
        have d5 := bQ6.out.c5
        have d6 := bQ6.out.c6
        have hg6 := hid bQ6.out.lt
        have CK := hid (fun (w' : World) (hb : Below W6.heap.size W6 w') => (⟨(bQ6.out.below hb hg6.out).c0, (bQ6.out.below hb hg6.out).c1, (bQ6.out.below hb hg6.out).c2, (bQ6.out.below hb hg6.out).c3, (bQ6.out.below hb hg6.out).c4, (bQ6.out.below hb hg6.out).c5, (bQ6.out.below hb hg6.out).c6⟩ : w'.cell? ⟨w3.heap.size, 0, none⟩ = some (.bool t6) ∧ w'.cell? ⟨w3.heap.size, 1, none⟩ = some (.slice A6 n6 c6) ∧ w'.cell? ⟨w3.heap.size, 2, none⟩ = some (.int .i64 y6) ∧ w'.cell? ⟨w3.heap.size, 3, none⟩ = some (.int .u64 (P2 : Int)) ∧ w'.cell? ⟨w3.heap.size, 4, none⟩ = some (.int .i64 (k : Int)) ∧ w'.cell? ⟨w3.heap.size, 5, none⟩ = some (.bool hf) ∧ w'.cell? ⟨w3.heap.size, 6, none⟩ = some (.bool mr)))
        go_region_held3 (fun w' => w'.cell? ⟨w3.heap.size, 0, none⟩ = some (.bool t6) ∧ w'.cell? ⟨w3.heap.size, 1, none⟩ = some (.slice A6 n6 c6) ∧ w'.cell? ⟨w3.heap.size, 2, none⟩ = some (.int .i64 y6) ∧ w'.cell? ⟨w3.heap.size, 3, none⟩ = some (.int .u64 (P2 : Int)) ∧ w'.cell? ⟨w3.heap.size, 4, none⟩ = some (.int .i64 (k : Int)) ∧ w'.cell? ⟨w3.heap.size, 5, none⟩ = some (.bool hf) ∧ w'.cell? ⟨w3.heap.size, 6, none⟩ = some (.bool mr))
          (first
            | exact CK.out _ HBz.out
            | exact CK.out _ (HBz.out.alloc HBz.out.size _)
            | exact CK.out _ (below_put3 HBz.out (Nat.le_refl _))
            | exact CK.out _ (below_put3 HBz.out hs7))
          (first
          | (go_at_call 29
             with_reducible refine (CFr.out _ ?_).mono ?_
             · first | exact HBz.out | exact HBz.out.alloc HBz.out.size _
             rintro e w7 ⟨s7, A7, n7, c7, x7, rfl, HD7, hj7, HBz⟩
             clear CFr
             have hs7 := HBz.out.size
             try have Xb := (dbox_new _).below hj7.out (by simp)
             try have Xb := (Dbox.drew (dbox_new _)).below hj7.out (by simp)
             try have Xb := hid Xb)
          | (go_at_call 28
             with_reducible refine (CAd.out _ _ ?_ ?_).mono ?_
             · first | exact HBz.out | exact HBz.out.alloc HBz.out.size _
             · first | exact HD7.out | exact HD7.out.below ((Below.refl _ _).alloc (Nat.le_refl _) _)
             rintro e w8 ⟨s8, A8, n8, c8, x8, er, rfl, HE8, HD8, hj8, HBz⟩
             clear CAd
             try have Xb := hid (Xb.out.below hj8.out Xb.out.lt)
             try have Xb := hid ((dbox_new _).below hj8.out (by simp))
             try have x0 := Xb.out.c0
             try have x1 := Xb.out.c1
             try have x2 := Xb.out.c2
             try have z0 := Xb.out.frozen 0
             try have z1 := Xb.out.frozen 1
             try have z2 := Xb.out.frozen 2))
        all_goals
          clear d0 d1 d2 d3 d4 d5 d6
          try clear x0 x1 x2 z0 z1 z2
          have hr7 := hs7
          have hgr : w.heap.size + 2 < W6.heap.size := U3.out.lt
          first
            | (obtain ⟨W9, hW9⟩ : ∃ W9, W9 = w8.alloc (.cells #[.bool s8, .slice A8 n8 c8, .int .i64 x8] 24) := ⟨_, rfl⟩
               rw [← hW9]
               have B9 : Hid (Below W6.heap.size W6 W9) := hid (hW9 ▸ HBz.out.alloc HBz.out.size _)
               have X9 : Hid (Dbox W9 w8.heap.size s8 (.slice A8 n8 c8) x8) := hid (hW9 ▸ heap_laid rfl)
               have FD : Hid (∀ b, Dn w.heap.size (put3 (W9.setCell ⟨w8.heap.size, 0, none⟩ (.bool b)) (w.heap.size + 2) b (.slice A8 n8 c8) x8) (resD er (num false (Q * tp (4000 - k)))) (.agg #[.bool s8, .slice A8 n8 c8, .int .i64 x8])) := hid fun b => hW9 ▸ (((HD8.out.on (((Below.refl _ w8).alloc (Nat.le_refl _) _).setCell (p := ⟨w8.heap.size, 0, none⟩) (Nat.le_refl _) _)).mono hs7).put3 hgr).mono (by omega)
               have hg9 : W6.heap.size ≤ w8.heap.size := HBz.out.size
               have V1 := hid (U1.out.below B9.out U1.out.lt)
               have V3 := hid (U3.out.below B9.out hgr)
               have C9 := hid (B6.out.trans (B9.out.mono B6.out.size))
               have hgg : w.heap.size + 2 < w8.heap.size := by omega
               generalize w8.heap.size = gb at X9 FD hgg ⊢
               clear hW9)
            | (obtain ⟨W9, hW9⟩ : ∃ W9, W9 = put3 w8 w7.heap.size s8 (.slice A8 n8 c8) x8 := ⟨_, rfl⟩
               unfold put3 at hW9
               rw [← hW9]
               have B9 : Hid (Below W6.heap.size W6 W9) := hid (hW9 ▸ below_put3 HBz.out hs7)
               have X9 : Hid (Dbox W9 w7.heap.size s8 (.slice A8 n8 c8) x8) := hid (hW9 ▸ Xb.out.store)
               have FD : Hid (∀ b, Dn w.heap.size (put3 (W9.setCell ⟨w7.heap.size, 0, none⟩ (.bool b)) (w.heap.size + 2) b (.slice A8 n8 c8) x8) (resD er (num false (Q * tp (4000 - k)))) (.agg #[.bool s8, .slice A8 n8 c8, .int .i64 x8])) := hid fun b => hW9 ▸ ((((HD8.out.put3 (g := w7.heap.size) (by simp)).keep (by simp) 0 (.bool b)).mono (Nat.le_trans hs7 (by simp))).put3 hgr).mono (by omega)
               have hg9 : W6.heap.size ≤ w7.heap.size := hs7
               have V1 := hid (U1.out.below B9.out U1.out.lt)
               have V3 := hid (U3.out.below B9.out hgr)
               have C9 := hid (B6.out.trans (B9.out.mono B6.out.size))
               have hgg : w.heap.size + 2 < w7.heap.size := by omega
               generalize w7.heap.size = gb at X9 FD hgg ⊢
               clear hW9)
            | (obtain ⟨W9, hW9⟩ : ∃ W9, W9 = put3 w8 W6.heap.size s8 (.slice A8 n8 c8) x8 := ⟨_, rfl⟩
               unfold put3 at hW9
               rw [← hW9]
               have h67 : W6.heap.size < w7.heap.size := by have := hj7.out.size; simp at this; omega
               have B9 : Hid (Below W6.heap.size W6 W9) := hid (hW9 ▸ below_put3 HBz.out (Nat.le_refl _))
               have X9 : Hid (Dbox W9 W6.heap.size s8 (.slice A8 n8 c8) x8) := hid (hW9 ▸ Xb.out.store)
               have FD : Hid (∀ b, Dn w.heap.size (put3 (W9.setCell ⟨W6.heap.size, 0, none⟩ (.bool b)) (w.heap.size + 2) b (.slice A8 n8 c8) x8) (resD er (num false (Q * tp (4000 - k)))) (.agg #[.bool s8, .slice A8 n8 c8, .int .i64 x8])) := hid fun b => hW9 ▸ ((((HD8.out.put3 (g := W6.heap.size) h67).keep h67 0 (.bool b)).mono hs7).put3 hgr).mono (by omega)
               have hg9 : W6.heap.size ≤ W6.heap.size := Nat.le_refl _
               have V1 := hid (U1.out.below B9.out U1.out.lt)
               have V3 := hid (U3.out.below B9.out hgr)
               have C9 := hid (B6.out.trans (B9.out.mono B6.out.size))
               have hgg : w.heap.size + 2 < W6.heap.size := by omega
               generalize W6.heap.size = gb at X9 FD hgg ⊢
               clear hW9)
          have c0 := V3.out.c0
          have c1 := V3.out.c1
          have c2 := V3.out.c2
          have f0 := V3.out.frozen 0
          have f1 := V3.out.frozen 1
          have f2 := V3.out.frozen 2
          rcases HE8.out with ⟨hok, rfl⟩ | ⟨hno, rfl⟩
          · have Hok := hid hok
            clear hok c0 c1 c2 f0 f1 f2
            have a0 := V1.out.c0
            have x0 := X9.out.c0
            have x1 := X9.out.c1
            have x2 := X9.out.c2
            have z0 := X9.out.frozen 0
            have N3 : Hid (∀ b, Dbox (W9.setCell ⟨gb, 0, none⟩ b) (w.heap.size + 2) false (.slice none 0 0) 0) := hid fun b => (Below.heap_setCell W9 ⟨gb, 0, none⟩ b _ (by show _ ≠ gb; omega)).trans V3.out
            have c0 := fun b => (N3.out b).c0
            have c1 := fun b => (N3.out b).c1
            have c2 := fun b => (N3.out b).c2
            have f0 := fun b => (N3.out b).frozen 0
            have f1 := fun b => (N3.out b).frozen 1
            have f2 := fun b => (N3.out b).frozen 2
            have h9 : w.heap.size ≤ gb := by omega
            cases s
            · go_wp2
              refine ret_dyad rfl rfl rfl rfl ((N3.out _).store (t := false) (u := .slice A8 n8 c8) (y := x8)) ⟨_, 0, rfl, hid (.inl ⟨okay_num Hok.out, rfl⟩), hid ?_, hid (below_put3 (C9.out.setCell (p := ⟨gb, 0, none⟩) h9 _) (by omega))⟩
              have h := FD.out false
              rw [resD_ok rfl] at h ⊢
              exact h.signed false
            · rcases Nat.eq_zero_or_pos n8 with h8 | h8
              · subst h8
                go_wp2
                refine ret_dyad rfl rfl rfl rfl ((N3.out _).store (t := false) (u := .slice A8 0 c8) (y := x8)) ⟨_, 0, rfl, hid (.inl ⟨okay_num Hok.out, rfl⟩), hid ?_, hid (below_put3 (C9.out.setCell (p := ⟨gb, 0, none⟩) h9 _) (by omega))⟩
                have h := FD.out false
                rw [resD_ok rfl] at h ⊢
                exact h.signed true
              · have h8i : 0 < (n8 : Int) := by omega
                go_wp2
                refine ret_dyad rfl rfl rfl rfl ((N3.out _).store (t := true) (u := .slice A8 n8 c8) (y := x8)) ⟨_, 0, rfl, hid (.inl ⟨okay_num Hok.out, rfl⟩), hid ?_, hid (below_put3 (C9.out.setCell (p := ⟨gb, 0, none⟩) h9 _) (by omega))⟩
                have h := FD.out true
                rw [resD_ok rfl] at h ⊢
                have h2 := h.signed true
                rw [decide_eq_true h8] at h2
                exact h2
          · have hno' := hid hno
            clear hno
            go_wp2
            refine ret_dyad rfl rfl rfl rfl (V3.out.store (t := false) (u := .slice none 0 0) (y := 0)) ⟨_, 10, rfl, hid (derr_num (.inr ⟨hno'.out, rfl⟩)), hid ?_, hid (below_put3 C9.out (by omega))⟩
            rw [resD_bad (by omega)]
            exact Dn.zero _ _
      · have hfull : P + 1 = 2 ^ k := by omega
        have C7 := hid (part_full bQ5.out Hk.out hfull (fun W' hg => HD3.out.below (GR.out W' hg)) (fun W' hg => HT.out.below (B3.out.trans ((GR.out W' hg).mono B3.out.size)) HT.out.lt))
        have hQ4 : Q = (wh + 1) * 2 ^ k := by rw [hQ3, Nat.succ_mul]; omega
        have HQ4 := hid hQ4
        have hsum : num false (wh * tp 4000) + (tp 4000 : Int) = num false ((wh + 1) * tp 4000) := by
          generalize tp 4000 = Z
          rw [Nat.succ_mul]
          simp [num]
        rw [hsum] at C7
        clear hQ3 hQ4 hP0 hlt1 hfull hsum
        go_wp2_with fail
        with_reducible refine C7.out.mono ?_
        rintro e W6 ⟨er, t6, u6, y6, rfl, HE6, bQ6', HDn6, hgr6⟩
        have b36 := hid (GR.out W6 hgr6.out)
        rcases HE6.out.1 ⟨trivial, trivial⟩ with ⟨hok6, rfl⟩ | ⟨hno6, rfl⟩
        · have hx := HDn6.out
          rw [resD_ok rfl] at hx
          have HD6' := hid hx.arg
          obtain ⟨sd, ud, yd, Vd, hv, hn2, -⟩ := hx
          injection hv with hv
          simp at hv
          obtain ⟨rfl, rfl, rfl⟩ := hv
          obtain ⟨A6, n6, c6, rfl⟩ := hn2.shape
          obtain ⟨P2, hP2⟩ : ∃ P2 : Nat, P2 = 0 := ⟨_, rfl⟩
          obtain ⟨wh2, hwh2⟩ : ∃ wh2, wh2 = wh + 1 := ⟨_, rfl⟩
          obtain ⟨y6, hy6⟩ : ∃ y6 : Int, y6 = (yd : Int) := ⟨_, rfl⟩
          have HD6 : Hid (DArg W6 True (num false (wh2 * tp 4000)) (.agg #[.bool t6, .slice A6 n6 c6, .int .i64 y6])) := by rw [hy6, hwh2]; exact HD6'
          have bQ6 : Hid (Qbox W6 w3.heap.size t6 (.slice A6 n6 c6) y6 P2 k hf mr) := by rw [hy6, hP2]; exact bQ6'
          have HQ6 : Hid (Q = wh2 * 2 ^ k + P2) := hid (by rw [HQ4.out, hP2, hwh2]; rfl)
          have HP6 : Hid (P2 < 2 ^ k ∨ P2 = 0) := hid (.inr hP2)
          have HP64 : Hid (P2 < 18446744073709551616) := hid (by rw [hP2]; omega)
          clear hy6 hP2 hwh2 HD6' bQ6' hn2 HDn6 HE6 hok6 hnum HD3 bQ HD4 T1 T3 B5 hj5 b4 B4 hE CC HP C7 GR HQ4 hgr6 HD5 bQ5 b35
          go_upto_region 10 with fail
          have B6 := hid (B3.out.trans (b36.out.mono B3.out.size))
          have U1 := hid (R1.out.below b36.out R1.out.lt)
          have U3 := hid (R3.out.below b36.out R3.out.lt)
          have HT6 := hid (fun (w' : World) (hb : Below W6.heap.size W6 w') => HT.out.below (B6.out.trans (hb.mono B6.out.size)) HT.out.lt)
          have HT646 := hid (fun (w' : World) (hb : Below W6.heap.size W6 w') => HT64.out.below (B6.out.trans (hb.mono B6.out.size)) HT64.out.lt)
          have CFr : Hid (∀ w', Below W6.heap.size W6 w' → Calls Tryd.prog 29 #[.agg #[.bool t6, .slice A6 n6 c6, .int .i64 y6, .int .u64 (P2 : Int), .int .i64 (k : Int), .bool hf, .bool mr]] w' fun e w'' => ∃ s A n c x, e = .returned (.agg #[.bool s, .slice A n c, .int .i64 x]) ∧ Hid (DArg w'' True (num false (P2 * tp (4000 - k))) (.agg #[.bool s, .slice A n c, .int .i64 x])) ∧ Hid (Below w'.heap.size w' w'') ∧ Hid (Below W6.heap.size W6 w'')) := hid fun w' hb => (fraction_any HP64.out HP6.out Hk.out (HT646.out w' hb)).mono fun e w'' h => by
            obtain ⟨d, rfl, h1, h2⟩ := h
            obtain ⟨s, A, n, c, x, rfl⟩ := h1.out.form
            exact ⟨s, A, n, c, x, rfl, hid h1.out.arg, h2, hid (hb.trans (h2.out.mono hb.size))⟩
          have CAd := hid (fun (w' : World) (u : Value) (hb : Below W6.heap.size W6 w') (hu : DArg w' True (num false (P2 * tp (4000 - k))) u) => (add_fraction Hk.out (HD6.out.below hb) hu HQ6.out (HT6.out w' hb)).mono (R' := fun e w'' => ∃ s A n c x er, e = .returned (.tuple #[.agg #[.bool s, .slice A n c, .int .i64 x], .int .i64 er]) ∧ Hid (Derr (num false (Q * tp (4000 - k))) er) ∧ Hid (Dn w'.heap.size w'' (resD er (num false (Q * tp (4000 - k)))) (.agg #[.bool s, .slice A n c, .int .i64 x])) ∧ Hid (Below w'.heap.size w' w'') ∧ Hid (Below W6.heap.size W6 w'')) fun e w'' h => by
            obtain ⟨s, A, n, c, x, er, h0, h1, h2, h3⟩ := h
            exact ⟨s, A, n, c, x, er, h0, h1, h2, h3, hid (hb.trans (h3.out.mono hb.size))⟩)
          have HBz : Hid (Below W6.heap.size W6 W6.drew) := hid (Below.refl _ W6).drew
          have d0 := bQ6.out.c0
          have d1 := bQ6.out.c1
          have d2 := bQ6.out.c2
          have d3 := bQ6.out.c3
          have d4 := bQ6.out.c4
          have d5 := bQ6.out.c5
          have d6 := bQ6.out.c6
          have hg6 := hid bQ6.out.lt
          have CK := hid (fun (w' : World) (hb : Below W6.heap.size W6 w') => (⟨(bQ6.out.below hb hg6.out).c0, (bQ6.out.below hb hg6.out).c1, (bQ6.out.below hb hg6.out).c2, (bQ6.out.below hb hg6.out).c3, (bQ6.out.below hb hg6.out).c4, (bQ6.out.below hb hg6.out).c5, (bQ6.out.below hb hg6.out).c6⟩ : w'.cell? ⟨w3.heap.size, 0, none⟩ = some (.bool t6) ∧ w'.cell? ⟨w3.heap.size, 1, none⟩ = some (.slice A6 n6 c6) ∧ w'.cell? ⟨w3.heap.size, 2, none⟩ = some (.int .i64 y6) ∧ w'.cell? ⟨w3.heap.size, 3, none⟩ = some (.int .u64 (P2 : Int)) ∧ w'.cell? ⟨w3.heap.size, 4, none⟩ = some (.int .i64 (k : Int)) ∧ w'.cell? ⟨w3.heap.size, 5, none⟩ = some (.bool hf) ∧ w'.cell? ⟨w3.heap.size, 6, none⟩ = some (.bool mr)))
          go_region_held3 (fun w' => w'.cell? ⟨w3.heap.size, 0, none⟩ = some (.bool t6) ∧ w'.cell? ⟨w3.heap.size, 1, none⟩ = some (.slice A6 n6 c6) ∧ w'.cell? ⟨w3.heap.size, 2, none⟩ = some (.int .i64 y6) ∧ w'.cell? ⟨w3.heap.size, 3, none⟩ = some (.int .u64 (P2 : Int)) ∧ w'.cell? ⟨w3.heap.size, 4, none⟩ = some (.int .i64 (k : Int)) ∧ w'.cell? ⟨w3.heap.size, 5, none⟩ = some (.bool hf) ∧ w'.cell? ⟨w3.heap.size, 6, none⟩ = some (.bool mr))
            (first
              | exact CK.out _ HBz.out
              | exact CK.out _ (HBz.out.alloc HBz.out.size _)
              | exact CK.out _ (below_put3 HBz.out (Nat.le_refl _))
              | exact CK.out _ (below_put3 HBz.out hs7))
            (first
            | (go_at_call 29
               with_reducible refine (CFr.out _ ?_).mono ?_
               · first | exact HBz.out | exact HBz.out.alloc HBz.out.size _
               rintro e w7 ⟨s7, A7, n7, c7, x7, rfl, HD7, hj7, HBz⟩
               clear CFr
               have hs7 := HBz.out.size
               try have Xb := (dbox_new _).below hj7.out (by simp)
               try have Xb := (Dbox.drew (dbox_new _)).below hj7.out (by simp)
               try have Xb := hid Xb)
            | (go_at_call 28
               with_reducible refine (CAd.out _ _ ?_ ?_).mono ?_
               · first | exact HBz.out | exact HBz.out.alloc HBz.out.size _
               · first | exact HD7.out | exact HD7.out.below ((Below.refl _ _).alloc (Nat.le_refl _) _)
               rintro e w8 ⟨s8, A8, n8, c8, x8, er, rfl, HE8, HD8, hj8, HBz⟩
               clear CAd
               try have Xb := hid (Xb.out.below hj8.out Xb.out.lt)
               try have Xb := hid ((dbox_new _).below hj8.out (by simp))
               try have x0 := Xb.out.c0
               try have x1 := Xb.out.c1
               try have x2 := Xb.out.c2
               try have z0 := Xb.out.frozen 0
               try have z1 := Xb.out.frozen 1
               try have z2 := Xb.out.frozen 2))
          all_goals
            clear d0 d1 d2 d3 d4 d5 d6
            try clear x0 x1 x2 z0 z1 z2
            have hr7 := hs7
            have hgr : w.heap.size + 2 < W6.heap.size := U3.out.lt
            first
              | (obtain ⟨W9, hW9⟩ : ∃ W9, W9 = w8.alloc (.cells #[.bool s8, .slice A8 n8 c8, .int .i64 x8] 24) := ⟨_, rfl⟩
                 rw [← hW9]
                 have B9 : Hid (Below W6.heap.size W6 W9) := hid (hW9 ▸ HBz.out.alloc HBz.out.size _)
                 have X9 : Hid (Dbox W9 w8.heap.size s8 (.slice A8 n8 c8) x8) := hid (hW9 ▸ heap_laid rfl)
                 have FD : Hid (∀ b, Dn w.heap.size (put3 (W9.setCell ⟨w8.heap.size, 0, none⟩ (.bool b)) (w.heap.size + 2) b (.slice A8 n8 c8) x8) (resD er (num false (Q * tp (4000 - k)))) (.agg #[.bool s8, .slice A8 n8 c8, .int .i64 x8])) := hid fun b => hW9 ▸ (((HD8.out.on (((Below.refl _ w8).alloc (Nat.le_refl _) _).setCell (p := ⟨w8.heap.size, 0, none⟩) (Nat.le_refl _) _)).mono hs7).put3 hgr).mono (by omega)
                 have hg9 : W6.heap.size ≤ w8.heap.size := HBz.out.size
                 have V1 := hid (U1.out.below B9.out U1.out.lt)
                 have V3 := hid (U3.out.below B9.out hgr)
                 have C9 := hid (B6.out.trans (B9.out.mono B6.out.size))
                 have hgg : w.heap.size + 2 < w8.heap.size := by omega
                 generalize w8.heap.size = gb at X9 FD hgg ⊢
                 clear hW9)
              | (obtain ⟨W9, hW9⟩ : ∃ W9, W9 = put3 w8 w7.heap.size s8 (.slice A8 n8 c8) x8 := ⟨_, rfl⟩
                 unfold put3 at hW9
                 rw [← hW9]
                 have B9 : Hid (Below W6.heap.size W6 W9) := hid (hW9 ▸ below_put3 HBz.out hs7)
                 have X9 : Hid (Dbox W9 w7.heap.size s8 (.slice A8 n8 c8) x8) := hid (hW9 ▸ Xb.out.store)
                 have FD : Hid (∀ b, Dn w.heap.size (put3 (W9.setCell ⟨w7.heap.size, 0, none⟩ (.bool b)) (w.heap.size + 2) b (.slice A8 n8 c8) x8) (resD er (num false (Q * tp (4000 - k)))) (.agg #[.bool s8, .slice A8 n8 c8, .int .i64 x8])) := hid fun b => hW9 ▸ ((((HD8.out.put3 (g := w7.heap.size) (by simp)).keep (by simp) 0 (.bool b)).mono (Nat.le_trans hs7 (by simp))).put3 hgr).mono (by omega)
                 have hg9 : W6.heap.size ≤ w7.heap.size := hs7
                 have V1 := hid (U1.out.below B9.out U1.out.lt)
                 have V3 := hid (U3.out.below B9.out hgr)
                 have C9 := hid (B6.out.trans (B9.out.mono B6.out.size))
                 have hgg : w.heap.size + 2 < w7.heap.size := by omega
                 generalize w7.heap.size = gb at X9 FD hgg ⊢
                 clear hW9)
              | (obtain ⟨W9, hW9⟩ : ∃ W9, W9 = put3 w8 W6.heap.size s8 (.slice A8 n8 c8) x8 := ⟨_, rfl⟩
                 unfold put3 at hW9
                 rw [← hW9]
                 have h67 : W6.heap.size < w7.heap.size := by have := hj7.out.size; simp at this; omega
                 have B9 : Hid (Below W6.heap.size W6 W9) := hid (hW9 ▸ below_put3 HBz.out (Nat.le_refl _))
                 have X9 : Hid (Dbox W9 W6.heap.size s8 (.slice A8 n8 c8) x8) := hid (hW9 ▸ Xb.out.store)
                 have FD : Hid (∀ b, Dn w.heap.size (put3 (W9.setCell ⟨W6.heap.size, 0, none⟩ (.bool b)) (w.heap.size + 2) b (.slice A8 n8 c8) x8) (resD er (num false (Q * tp (4000 - k)))) (.agg #[.bool s8, .slice A8 n8 c8, .int .i64 x8])) := hid fun b => hW9 ▸ ((((HD8.out.put3 (g := W6.heap.size) h67).keep h67 0 (.bool b)).mono hs7).put3 hgr).mono (by omega)
                 have hg9 : W6.heap.size ≤ W6.heap.size := Nat.le_refl _
                 have V1 := hid (U1.out.below B9.out U1.out.lt)
                 have V3 := hid (U3.out.below B9.out hgr)
                 have C9 := hid (B6.out.trans (B9.out.mono B6.out.size))
                 have hgg : w.heap.size + 2 < W6.heap.size := by omega
                 generalize W6.heap.size = gb at X9 FD hgg ⊢
                 clear hW9)
            have c0 := V3.out.c0
            have c1 := V3.out.c1
            have c2 := V3.out.c2
            have f0 := V3.out.frozen 0
            have f1 := V3.out.frozen 1
            have f2 := V3.out.frozen 2
            rcases HE8.out with ⟨hok, rfl⟩ | ⟨hno, rfl⟩
            · have Hok := hid hok
              clear hok c0 c1 c2 f0 f1 f2
              have a0 := V1.out.c0
              have x0 := X9.out.c0
              have x1 := X9.out.c1
              have x2 := X9.out.c2
              have z0 := X9.out.frozen 0
              have N3 : Hid (∀ b, Dbox (W9.setCell ⟨gb, 0, none⟩ b) (w.heap.size + 2) false (.slice none 0 0) 0) := hid fun b => (Below.heap_setCell W9 ⟨gb, 0, none⟩ b _ (by show _ ≠ gb; omega)).trans V3.out
              have c0 := fun b => (N3.out b).c0
              have c1 := fun b => (N3.out b).c1
              have c2 := fun b => (N3.out b).c2
              have f0 := fun b => (N3.out b).frozen 0
              have f1 := fun b => (N3.out b).frozen 1
              have f2 := fun b => (N3.out b).frozen 2
              have h9 : w.heap.size ≤ gb := by omega
              cases s
              · go_wp2
                refine ret_dyad rfl rfl rfl rfl ((N3.out _).store (t := false) (u := .slice A8 n8 c8) (y := x8)) ⟨_, 0, rfl, hid (.inl ⟨okay_num Hok.out, rfl⟩), hid ?_, hid (below_put3 (C9.out.setCell (p := ⟨gb, 0, none⟩) h9 _) (by omega))⟩
                have h := FD.out false
                rw [resD_ok rfl] at h ⊢
                exact h.signed false
              · rcases Nat.eq_zero_or_pos n8 with h8 | h8
                · subst h8
                  go_wp2
                  refine ret_dyad rfl rfl rfl rfl ((N3.out _).store (t := false) (u := .slice A8 0 c8) (y := x8)) ⟨_, 0, rfl, hid (.inl ⟨okay_num Hok.out, rfl⟩), hid ?_, hid (below_put3 (C9.out.setCell (p := ⟨gb, 0, none⟩) h9 _) (by omega))⟩
                  have h := FD.out false
                  rw [resD_ok rfl] at h ⊢
                  exact h.signed true
                · have h8i : 0 < (n8 : Int) := by omega
                  go_wp2
                  refine ret_dyad rfl rfl rfl rfl ((N3.out _).store (t := true) (u := .slice A8 n8 c8) (y := x8)) ⟨_, 0, rfl, hid (.inl ⟨okay_num Hok.out, rfl⟩), hid ?_, hid (below_put3 (C9.out.setCell (p := ⟨gb, 0, none⟩) h9 _) (by omega))⟩
                  have h := FD.out true
                  rw [resD_ok rfl] at h ⊢
                  have h2 := h.signed true
                  rw [decide_eq_true h8] at h2
                  exact h2
            · have hno' := hid hno
              clear hno
              go_wp2
              refine ret_dyad rfl rfl rfl rfl (V3.out.store (t := false) (u := .slice none 0 0) (y := 0)) ⟨_, 10, rfl, hid (derr_num (.inr ⟨hno'.out, rfl⟩)), hid ?_, hid (below_put3 C9.out (by omega))⟩
              rw [resD_bad (by omega)]
              exact Dn.zero _ _
        · have Hno6 := hid hno6
          have U3 := hid (R3.out.below b36.out R3.out.lt)
          have B6 := hid (B3.out.trans (b36.out.mono B3.out.size))
          have c0 := U3.out.c0
          have c1 := U3.out.c1
          have c2 := U3.out.c2
          have f0 := U3.out.frozen 0
          have f1 := U3.out.frozen 1
          have f2 := U3.out.frozen 2
          clear hno6 HE6 HDn6 bQ6' hnum HD3 bQ HD4 T1 T3 B5 hj5 b4 B4 hE CC HP C7 GR hgr6 HD5 bQ5 b35
          go_wp2
          refine ret_dyad rfl rfl rfl rfl (U3.out.store (t := false) (u := .slice none 0 0) (y := 0)) ⟨_, 10, rfl, hid (derr_num (t := false) (.inr ⟨?_, rfl⟩)), hid ?_, hid (below_put3 B6.out (by omega))⟩
          · rw [HQ4.out, Nat.mul_assoc, ← tp_at Hk.out]
            exact Hno6.out
          · rw [resD_bad (by omega)]
            exact Dn.zero _ _

end Go.Proofs.YtnhnddhigbbleaaDoor

