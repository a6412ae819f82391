/- Package ratio: Floor, Ceil, Near over divided. -/
/- Package ratio: what the quotient and the step away from 0 are. No code is walked here. -/
/- Package ratio: what Floor, Ceil and Near answer. -/
/- The law's own helper of package ratio: is. -/
import Derived.Test.YtnhnddhigbbleaaDoorRm
import Derived.Test.YtnhnddhigbbleaaDoorRj

namespace Go.Proofs.YtnhnddhigbbleaaDoor
open Go.RowKit

theorem dres_bad {w : World} {E : Int → Prop} {R er : Int} {e : Ending} {w' : World} (hE : E er) (hn : er ≠ 0) (h : e = .returned (.tuple #[.agg #[.bool false, .slice none 0 0, .int .i64 0], .int .i64 er]) ∧ Hid (Below w.heap.size w w')) : DRes w E R e w' := by
  obtain ⟨rfl, hb⟩ := h
  refine ⟨_, er, rfl, hid hE, hid ?_, hb⟩
  rw [resD_bad hn]
  exact Dn.zero _ _

set_option maxHeartbeats 3200000 in
theorem floor_of {w : World} {s t : Bool} {Aa Ab : Option Addr} {na ca nb cb : Nat} {x y R : Int} {k : Int} {E : Int → Prop} (CD : ∀ (w' : World) (g : Nat), Below w.heap.size w w' → w'.cell? ⟨g, 0, none⟩ = some (.bool s) → Calls Tryd.prog 13 #[.agg #[.bool s, .slice Aa na ca, .int .i64 x], .agg #[.bool t, .slice Ab nb cb, .int .i64 y], .int .i64 k, .func (.func 14) #[] #[.pointer (some ⟨g, 0, none⟩)]] w' (DRes w' E R)) :
    Calls Tryd.prog 6 #[.agg #[.bool s, .slice Aa na ca, .int .i64 x], .agg #[.bool t, .slice Ab nb cb, .int .i64 y], .int .i64 k] w (DRes w E R) := by
  have CH := hid CD
  clear CD
  obtain ⟨W, hW⟩ : ∃ W, W = (((w.alloc (.cells #[.bool s, .slice Aa na ca, .int .i64 x] 24)).alloc (.cells #[.bool t, .slice Ab nb cb, .int .i64 y] 24)).alloc
    (.cells #[.bool false, .slice none 0 0, .int .i64 0] 24)) := ⟨_, rfl⟩
  have B0 : Below w.heap.size w W := hW ▸ (((Below.refl w.heap.size w).alloc (Nat.le_refl _) _).alloc (by simp) _).alloc (by simp <;> omega) _
  have D1 : Dbox W w.heap.size s (.slice Aa na ca) x := by
    rw [hW]
    exact (Below.heap_alloc _ _ _ (by simp <;> omega)).trans ((Below.heap_alloc _ _ _ (by simp)).trans (heap_laid rfl))
  have D2 : Dbox W (w.heap.size + 1) t (.slice Ab nb cb) y := by
    rw [hW]
    exact (Below.heap_alloc _ _ _ (by simp)).trans (heap_laid (by simp))
  have D3 : Dbox W (w.heap.size + 2) false (.slice none 0 0) 0 := by
    rw [hW]
    exact heap_laid (by simp)
  have a0 := D1.c0
  have a1 := D1.c1
  have a2 := D1.c2
  have b0 := D2.c0
  have b1 := D2.c1
  have b2 := D2.c2
  have C0 := hid a0
  have HW := hid hW
  have HB := hid B0
  have H3 := hid D3
  clear hW B0 D1 D2 D3
  go_enter Tryd.func6, Tryd.ntmps6
  go_upto_region 1 with fail
  rw [← HW.out]
  go_wp2_with fail
  with_reducible refine (CH.out _ _ HB.out C0.out).mono ?_
  rintro e w1 ⟨d, er, rfl, HE, HD, hj1⟩
  obtain ⟨s1, A1, n1, c1, x1, rfl⟩ := HD.out.form
  have P3 := hid (H3.out.below hj1.out H3.out.lt)
  have hlt := hid H3.out.lt
  have B1 := hid (HB.out.trans (hj1.out.mono HB.out.size))
  have f0 := P3.out.frozen 0
  have f1 := P3.out.frozen 1
  have f2 := P3.out.frozen 2
  have c0 := P3.out.c0
  have c1 := P3.out.c1
  have c2 := P3.out.c2
  clear a0 a1 a2 b0 b1 b2
  go_wp2
  exact ret_dyad rfl rfl rfl rfl (P3.out.store (t := s1) (u := .slice A1 n1 _) (y := x1)) ⟨_, er, rfl, HE, hid ((HD.out.put3 hlt.out).mono HB.out.size), hid (below_put3 B1.out (by omega))⟩

set_option maxHeartbeats 3200000 in
theorem ceil_of {w : World} {s t : Bool} {Aa Ab : Option Addr} {na ca nb cb : Nat} {x y R : Int} {k : Int} {E : Int → Prop} (CD : ∀ (w' : World) (g : Nat), Below w.heap.size w w' → w'.cell? ⟨g, 0, none⟩ = some (.bool s) → Calls Tryd.prog 13 #[.agg #[.bool s, .slice Aa na ca, .int .i64 x], .agg #[.bool t, .slice Ab nb cb, .int .i64 y], .int .i64 k, .func (.func 18) #[] #[.pointer (some ⟨g, 0, none⟩)]] w' (DRes w' E R)) :
    Calls Tryd.prog 8 #[.agg #[.bool s, .slice Aa na ca, .int .i64 x], .agg #[.bool t, .slice Ab nb cb, .int .i64 y], .int .i64 k] w (DRes w E R) := by
  have CH := hid CD
  clear CD
  obtain ⟨W, hW⟩ : ∃ W, W = (((w.alloc (.cells #[.bool s, .slice Aa na ca, .int .i64 x] 24)).alloc (.cells #[.bool t, .slice Ab nb cb, .int .i64 y] 24)).alloc
    (.cells #[.bool false, .slice none 0 0, .int .i64 0] 24)) := ⟨_, rfl⟩
  have B0 : Below w.heap.size w W := hW ▸ (((Below.refl w.heap.size w).alloc (Nat.le_refl _) _).alloc (by simp) _).alloc (by simp <;> omega) _
  have D1 : Dbox W w.heap.size s (.slice Aa na ca) x := by
    rw [hW]
    exact (Below.heap_alloc _ _ _ (by simp <;> omega)).trans ((Below.heap_alloc _ _ _ (by simp)).trans (heap_laid rfl))
  have D2 : Dbox W (w.heap.size + 1) t (.slice Ab nb cb) y := by
    rw [hW]
    exact (Below.heap_alloc _ _ _ (by simp)).trans (heap_laid (by simp))
  have D3 : Dbox W (w.heap.size + 2) false (.slice none 0 0) 0 := by
    rw [hW]
    exact heap_laid (by simp)
  have a0 := D1.c0
  have a1 := D1.c1
  have a2 := D1.c2
  have b0 := D2.c0
  have b1 := D2.c1
  have b2 := D2.c2
  have C0 := hid a0
  have HW := hid hW
  have HB := hid B0
  have H3 := hid D3
  clear hW B0 D1 D2 D3
  go_enter Tryd.func8, Tryd.ntmps8
  go_upto_region 1 with fail
  rw [← HW.out]
  go_wp2_with fail
  with_reducible refine (CH.out _ _ HB.out C0.out).mono ?_
  rintro e w1 ⟨d, er, rfl, HE, HD, hj1⟩
  obtain ⟨s1, A1, n1, c1, x1, rfl⟩ := HD.out.form
  have P3 := hid (H3.out.below hj1.out H3.out.lt)
  have hlt := hid H3.out.lt
  have B1 := hid (HB.out.trans (hj1.out.mono HB.out.size))
  have f0 := P3.out.frozen 0
  have f1 := P3.out.frozen 1
  have f2 := P3.out.frozen 2
  have c0 := P3.out.c0
  have c1 := P3.out.c1
  have c2 := P3.out.c2
  clear a0 a1 a2 b0 b1 b2
  go_wp2
  exact ret_dyad rfl rfl rfl rfl (P3.out.store (t := s1) (u := .slice A1 n1 _) (y := x1)) ⟨_, er, rfl, HE, hid ((HD.out.put3 hlt.out).mono HB.out.size), hid (below_put3 B1.out (by omega))⟩

set_option maxHeartbeats 3200000 in
theorem near_of {w : World} {s t : Bool} {Aa Ab : Option Addr} {na ca nb cb : Nat} {x y R : Int} {E : Int → Prop} (CD : ∀ (w' : World) (g : Nat), Below w.heap.size w w' → w'.cell? ⟨g, 0, none⟩ = some (.bool s) → Calls Tryd.prog 13 #[.agg #[.bool s, .slice Aa na ca, .int .i64 x], .agg #[.bool t, .slice Ab nb cb, .int .i64 y], .int .i64 0, .func (.func 19) #[] #[.pointer (some ⟨g, 0, none⟩)]] w' (DRes w' E R)) :
    Calls Tryd.prog 10 #[.agg #[.bool s, .slice Aa na ca, .int .i64 x], .agg #[.bool t, .slice Ab nb cb, .int .i64 y]] w (DRes w E R) := by
  have CH := hid CD
  clear CD
  obtain ⟨W, hW⟩ : ∃ W, W = (((w.alloc (.cells #[.bool s, .slice Aa na ca, .int .i64 x] 24)).alloc (.cells #[.bool t, .slice Ab nb cb, .int .i64 y] 24)).alloc
    (.cells #[.bool false, .slice none 0 0, .int .i64 0] 24)) := ⟨_, rfl⟩
  have B0 : Below w.heap.size w W := hW ▸ (((Below.refl w.heap.size w).alloc (Nat.le_refl _) _).alloc (by simp) _).alloc (by simp <;> omega) _
  have D1 : Dbox W w.heap.size s (.slice Aa na ca) x := by
    rw [hW]
    exact (Below.heap_alloc _ _ _ (by simp <;> omega)).trans ((Below.heap_alloc _ _ _ (by simp)).trans (heap_laid rfl))
  have D2 : Dbox W (w.heap.size + 1) t (.slice Ab nb cb) y := by
    rw [hW]
    exact (Below.heap_alloc _ _ _ (by simp)).trans (heap_laid (by simp))
  have D3 : Dbox W (w.heap.size + 2) false (.slice none 0 0) 0 := by
    rw [hW]
    exact heap_laid (by simp)
  have a0 := D1.c0
  have a1 := D1.c1
  have a2 := D1.c2
  have b0 := D2.c0
  have b1 := D2.c1
  have b2 := D2.c2
  have C0 := hid a0
  have HW := hid hW
  have HB := hid B0
  have H3 := hid D3
  clear hW B0 D1 D2 D3
  go_enter Tryd.func10, Tryd.ntmps10
  go_upto_region 1 with fail
  rw [← HW.out]
  go_wp2_with fail
  with_reducible refine (CH.out _ _ HB.out C0.out).mono ?_
  rintro e w1 ⟨d, er, rfl, HE, HD, hj1⟩
  obtain ⟨s1, A1, n1, c1, x1, rfl⟩ := HD.out.form
  have P3 := hid (H3.out.below hj1.out H3.out.lt)
  have hlt := hid H3.out.lt
  have B1 := hid (HB.out.trans (hj1.out.mono HB.out.size))
  have f0 := P3.out.frozen 0
  have f1 := P3.out.frozen 1
  have f2 := P3.out.frozen 2
  have c0 := P3.out.c0
  have c1 := P3.out.c1
  have c2 := P3.out.c2
  clear a0 a1 a2 b0 b1 b2
  go_wp2
  exact ret_dyad rfl rfl rfl rfl (P3.out.store (t := s1) (u := .slice A1 n1 _) (y := x1)) ⟨_, er, rfl, HE, hid ((HD.out.put3 hlt.out).mono HB.out.size), hid (below_put3 B1.out (by omega))⟩

end Go.Proofs.YtnhnddhigbbleaaDoor


namespace Go.Proofs.YtnhnddhigbbleaaDoor
open Go.RowKit

theorem twice_div {X B : Nat} (hB : 0 < B) : ∃ c r : Nat, X = c * B + r ∧ r < B ∧ X / B = c ∧ X % B = r ∧ ((2 * r < B ∧ 2 * X / B = 2 * c ∧ 2 * X % B = 2 * r) ∨ (B ≤ 2 * r ∧ 2 * X / B = 2 * c + 1 ∧ 2 * X % B = 2 * r - B)) := by
  refine ⟨X / B, X % B, by rw [Nat.mul_comm]; exact (Nat.div_add_mod X B).symm, Nat.mod_lt _ hB, rfl, rfl, ?_⟩
  have h1 := Nat.div_add_mod X B
  have h2 := Nat.mod_lt X hB
  generalize X / B = c at *
  generalize X % B = r at *
  have h3 : 2 * X = B * (2 * c) + 2 * r := by rw [← h1, Nat.mul_add, ← Nat.mul_assoc, ← Nat.mul_assoc, Nat.mul_comm 2 B]
  rcases Nat.lt_or_ge (2 * r) B with h | h
  · refine .inl ⟨h, ?_, ?_⟩
    · rw [h3, Nat.mul_add_div hB, Nat.div_eq_of_lt h, Nat.add_zero]
    · rw [h3, Nat.mul_add_mod, Nat.mod_eq_of_lt h]
  · have h4 : 2 * X = B * (2 * c + 1) + (2 * r - B) := by rw [h3, Nat.mul_add, Nat.mul_one]; omega
    refine .inr ⟨h, ?_, ?_⟩
    · rw [h4, Nat.mul_add_div hB, Nat.div_eq_of_lt (by omega), Nat.add_zero]
    · rw [h4, Nat.mul_add_mod, Nat.mod_eq_of_lt (by omega)]
theorem away_any {X B : Nat} (hB : 0 < B) : (decide (2 * X / B % 2 = 1) || decide (2 * X % B ≠ 0)) = decide (X % B ≠ 0) := by
  obtain ⟨c, r, -, h1, -, h2, h3⟩ := twice_div (X := X) hB
  rw [h2]
  rcases h3 with ⟨a, b, d⟩ | ⟨a, b, d⟩ <;> rw [b, d]
  · by_cases hr : r = 0
    · subst hr
      simp
    · simp [hr] <;> omega
  · have : r ≠ 0 := by omega
    have h5 : (2 * c + 1) % 2 = 1 := by omega
    simp [this, h5]
/-- Down, below 0. -/
theorem floor_neg {X B : Nat} (hB : 0 < B) : (-(X : Int)) / (B : Int) = -((X / B + (if X % B ≠ 0 then 1 else 0) : Nat) : Int) := by
  obtain ⟨c, r, h0, h1, h2, h3, -⟩ := twice_div (X := X) hB
  rw [h2, h3]
  by_cases hr : r = 0
  · subst hr
    rw [if_neg (by simp), h0, Nat.add_zero, Nat.add_zero]
    have : (-((c * B : Nat) : Int)) = (-(c : Int)) * B := by simp [Int.neg_mul]
    rw [this, Int.mul_ediv_cancel _ (by omega)]
  · rw [if_pos hr, h0]
    have : (-((c * B + r : Nat) : Int)) = ((B : Int) - r) + (-((c : Int) + 1)) * B := by
      rw [Int.neg_mul, Int.add_mul]
      simp
      omega
    rw [this, Int.add_mul_ediv_right _ _ (by omega), Int.ediv_eq_zero_of_lt (by omega) (by omega)]
    simp
/-- To the nearest, of two as near the greater one: above 0. -/
theorem near_pos {X B : Nat} (hB : 0 < B) : (2 * (X : Int) + B) / (2 * B : Int) = ((X / B + (if 2 * X / B % 2 = 1 then 1 else 0) : Nat) : Int) := by
  obtain ⟨c, r, h0, h1, h2, -, h4⟩ := twice_div (X := X) hB
  rw [h2]
  rcases h4 with ⟨a, b, -⟩ | ⟨a, b, -⟩ <;> rw [b, h0]
  · rw [if_neg (by omega)]
    have : (2 * ((c * B + r : Nat) : Int) + B) = (2 * (r : Int) + B) + (c : Int) * (2 * B) := by
      rw [Int.natCast_add, Int.natCast_mul, Int.mul_add, Int.mul_left_comm 2 (c : Int) (B : Int)]
      omega
    rw [this, Int.add_mul_ediv_right _ _ (by omega), Int.ediv_eq_zero_of_lt (by omega) (by omega)]
    simp
  · rw [if_pos (by omega)]
    have : (2 * ((c * B + r : Nat) : Int) + B) = (2 * (r : Int) - B) + ((c : Int) + 1) * (2 * B) := by
      rw [Int.natCast_add, Int.natCast_mul, Int.mul_add, Int.mul_left_comm 2 (c : Int) (B : Int), Int.add_mul]
      omega
    rw [this, Int.add_mul_ediv_right _ _ (by omega), Int.ediv_eq_zero_of_lt (by omega) (by omega)]
    simp
/-- The same, below 0. -/
theorem near_neg {X B : Nat} (hB : 0 < B) : (2 * -(X : Int) + B) / (2 * B : Int) = -((X / B + (if 2 * X / B % 2 = 1 ∧ 2 * X % B ≠ 0 then 1 else 0) : Nat) : Int) := by
  obtain ⟨c, r, h0, h1, h2, -, h4⟩ := twice_div (X := X) hB
  rw [h2]
  rcases h4 with ⟨a, b, d⟩ | ⟨a, b, d⟩ <;> rw [b, d, h0]
  · rw [if_neg (by omega)]
    have : (2 * -((c * B + r : Nat) : Int) + B) = ((B : Int) - 2 * r) + (-(c : Int)) * (2 * B) := by
      rw [Int.natCast_add, Int.natCast_mul, Int.neg_add, Int.mul_add, Int.neg_mul, Int.mul_left_comm (c : Int) 2 (B : Int)]
      omega
    rw [this, Int.add_mul_ediv_right _ _ (by omega), Int.ediv_eq_zero_of_lt (by omega) (by omega)]
    simp
  · by_cases he : 2 * r = B
    · rw [if_neg (by omega)]
      have : (2 * -((c * B + r : Nat) : Int) + B) = 0 + (-(c : Int)) * (2 * B) := by
        rw [Int.natCast_add, Int.natCast_mul, Int.neg_add, Int.mul_add, Int.neg_mul, Int.mul_left_comm (c : Int) 2 (B : Int)]
        omega
      rw [this, Int.add_mul_ediv_right _ _ (by omega)]
      simp
    · rw [if_pos (by omega)]
      have : (2 * -((c * B + r : Nat) : Int) + B) = (3 * (B : Int) - 2 * r) + (-((c : Int) + 1)) * (2 * B) := by
        rw [Int.natCast_add, Int.natCast_mul, Int.neg_add, Int.mul_add, Int.neg_mul, Int.add_mul, Int.mul_left_comm (c : Int) 2 (B : Int)]
        omega
      rw [this, Int.add_mul_ediv_right _ _ (by omega), Int.ediv_eq_zero_of_lt (by omega) (by omega)]
      simp

end Go.Proofs.YtnhnddhigbbleaaDoor


namespace Go.Proofs.YtnhnddhigbbleaaDoor
open Go.RowKit

/-- The error of a quotient: bad ones first, then what may not be asked, then 'over'. -/
def Qerrs (p q : Prop) (N k R er : Int) : Prop := (¬ (p ∧ q) → er = 8) ∧ (p ∧ q → ¬ (0 < N ∧ 0 ≤ k ∧ k ≤ 64) → er = 2) ∧ (p ∧ q → 0 < N ∧ 0 ≤ k ∧ k ≤ 64 → Derr R er)
theorem DRes.weak {w : World} {E E' : Int → Prop} {R : Int} {e : Ending} {w' : World} (hE : ∀ er, E er → E' er) (h : DRes w E R e w') : DRes w E' R e w' := by
  obtain ⟨d, er, h1, h2, h3, h4⟩ := h
  exact ⟨d, er, h1, hid (hE _ h2.out), h3, h4⟩

theorem DArg.weak_ {w : World} {p : Prop} {M : Int} {v : Value} (h : DArg w p M v) (hp : p) : DArg w True M v := by
  obtain ⟨s, A, n, c, f, x, e, hr, hpd, hM⟩ := h
  exact ⟨s, A, n, c, f, x, e, hr, ⟨fun _ => hpd.1 hp, fun _ => trivial⟩, fun _ => hM hp⟩
/-- divided, over dyads of any kind: what it is is R where it may be asked. -/
theorem divided_any {w : World} {p q : Prop} {M N k : Int} {v u : Value} (h1 : DArg w p M v) (h2 : DArg w q N u) (hT : Tab w) (hT64 : Tab64 w) (fid : Nat) (hE : ∀ args w, (callFunc fid args).run Tryd.prog w = .ok (.enter fid args) w) (pt : Value) (aw : Bool → Bool → Bool → Bool)
    (hC : ∀ s A n c x, v = .agg #[.bool s, .slice A n c, .int .i64 x] → ∀ w', Below w.heap.size w w' → ∀ (v : Value) (p k : Nat) (h m : Bool), Calls Tryd.prog fid #[.agg #[.bool false, v, .int .i64 0, .int .u64 (p : Int), .int .i64 (k : Int), .bool h, .bool m], pt] w' fun e w'' => e = .returned (.bool (aw s h m)) ∧ Hid (Below w'.heap.size w' w''))
    {R : Int} (hR : ∀ (s : Bool) (A B j : Nat), 0 < B → M = num s A → N = (B : Int) → k = (j : Int) → num s ((A * 2 ^ j / B + (if aw s (decide (2 * (A * 2 ^ j) / B % 2 = 1)) (decide (2 * (A * 2 ^ j) % B ≠ 0)) then 1 else 0)) * tp (4000 - j)) = R) :
    Calls Tryd.prog 13 #[v, u, .int .i64 k, .func (.func fid) #[] #[pt]] w (DRes w (Qerrs p q N k R) R) := by
  by_cases hpq : p ∧ q
  · have g1 := h1
    have g2 := h2
    obtain ⟨s, Aa, na, ca, fa, x, rfl, ra, da, ma⟩ := g1
    obtain ⟨t, Ab, nb, cb, fb, y, rfl, rb, db, mb⟩ := g2
    obtain ⟨ea, rfl, hM⟩ := ma hpq.1
    obtain ⟨eb, rfl, hN⟩ := mb hpq.2
    have pa := da.1 hpq.1
    have pb := db.1 hpq.2
    have h0 := vl_zero_iff pb.1
    have htp := tp_pos (4000 - eb)
    by_cases hask : 0 < N ∧ 0 ≤ k ∧ k ≤ 64
    · obtain ⟨j, rfl⟩ : ∃ j : Nat, k = j := ⟨k.toNat, by omega⟩
      obtain rfl : t = false := by
        cases t with
        | false => rfl
        | true =>
          have h3 := hask.1
          rw [hN] at h3
          have h4 : dv true (vl fb nb) eb = -((vl fb nb * tp (4000 - eb) : Nat) : Int) := rfl
          omega
      have hnb : 0 < nb := by
        rcases Nat.eq_zero_or_pos nb with h | h
        · have h3 := hask.1
          rw [hN, h0.2 h] at h3
          simp [dv, num] at h3
        · exact h
      have hV : 0 < vl fb nb := by omega
      have hB : 0 < vl fb nb * tp (4000 - eb) := Nat.mul_pos hV htp
      have hr := hR s (vl fa na * tp (4000 - ea)) (vl fb nb * tp (4000 - eb)) j hB hM hN rfl
      have e2 : vl fa na * tp (4000 - ea) * 2 ^ (j + 1) = 2 * (vl fa na * tp (4000 - ea) * 2 ^ j) := by rw [Nat.pow_succ, ← Nat.mul_assoc, Nat.mul_comm]
      have h := divided_good (k := j) ra pa rb pb hnb (by omega) fid hE pt (aw s) (fun w' hb v p h m => hC s Aa na ca _ rfl w' hb v p j h m) hT hT64 rfl
      rw [e2, hr] at h
      exact h.mono fun e w' h => h.weak fun er he => ⟨fun hn => absurd hpq hn, fun _ hn => absurd hask hn, fun _ _ => he⟩
    · refine (divided_arg (h1.weak_ hpq.1) (h2.weak_ hpq.2) k ?_ _).mono fun e w' h => dres_bad (er := 2) ⟨fun hn => absurd hpq hn, fun _ _ => rfl, fun _ h => absurd h hask⟩ (by omega) h
      rcases Bool.eq_false_or_eq_true t with ht | ht
      · exact .inl ht
      · rcases Nat.eq_zero_or_pos nb with h | h
        · exact .inr (.inl h)
        · have hV : 0 < vl fb nb := by omega
          have hB : 0 < vl fb nb * tp (4000 - eb) := Nat.mul_pos hV htp
          have hN0 : 0 < N := by
            rw [hN, ht]
            have h4 : dv false (vl fb nb) eb = ((vl fb nb * tp (4000 - eb) : Nat) : Int) := rfl
            omega
          rcases Int.lt_or_le k 0 with hk | hk
          · exact .inr (.inr (.inl hk))
          · exact .inr (.inr (.inr (by
              rcases Int.lt_or_le 64 k with h6 | h6
              · exact h6
              · exact absurd ⟨hN0, hk, h6⟩ hask)))
  · exact (divided_bad h1 h2 hpq k _).mono fun e w' h => dres_bad (er := 8) ⟨fun _ => rfl, fun h => absurd h hpq, fun h => absurd h hpq⟩ (by omega) h

theorem rfloor_any {w : World} {p q : Prop} {M N k : Int} {v u : Value} (h1 : DArg w p M v) (h2 : DArg w q N u) (hT : Tab w) (hT64 : Tab64 w) :
    Calls Tryd.prog 6 #[v, u, .int .i64 k] w (DRes w (Qerrs p q N k (M * 2 ^ k.toNat / N * (tp (4000 - k.toNat) : Int))) (M * 2 ^ k.toNat / N * (tp (4000 - k.toNat) : Int))) := by
  have g1 := h1
  have g2 := h2
  obtain ⟨s, Aa, na, ca, fa, x, rfl, -, -, -⟩ := g1
  obtain ⟨t, Ab, nb, cb, fb, y, rfl, -, -, -⟩ := g2
  refine floor_of fun w' g hb hg => divided_any (h1.below hb) (h2.below hb) (hT.below hb hT.lt) (hT64.below hb hT64.lt) _ (enters_of Tryd.func14 (by kernel_rfl) rfl) _ (fun s h m => s && (h || m)) ?_ ?_
  · intro s' A n c x' hv w'' hb2 v p k' h m
    injection hv with hv
    simp at hv
    obtain ⟨rfl, -, -⟩ := hv
    exact floor_way ((hb2.cell (p := ⟨g, 0, none⟩) (block_lt_of_cell hg)).trans hg)
  · rintro s A B j hB rfl rfl rfl
    rw [away_any hB]
    cases s
    · simp [num]
    · have h := floor_neg (X := A * 2 ^ j) hB
      have e : num true A * 2 ^ (j : Int).toNat = -((A * 2 ^ j : Nat) : Int) := by simp [num, Int.neg_mul]
      rw [e, h]
      simp [num, Int.neg_mul]

theorem rceil_any {w : World} {p q : Prop} {M N k : Int} {v u : Value} (h1 : DArg w p M v) (h2 : DArg w q N u) (hT : Tab w) (hT64 : Tab64 w) :
    Calls Tryd.prog 8 #[v, u, .int .i64 k] w (DRes w (Qerrs p q N k (-(-(M * 2 ^ k.toNat) / N) * (tp (4000 - k.toNat) : Int))) (-(-(M * 2 ^ k.toNat) / N) * (tp (4000 - k.toNat) : Int))) := by
  have g1 := h1
  have g2 := h2
  obtain ⟨s, Aa, na, ca, fa, x, rfl, -, -, -⟩ := g1
  obtain ⟨t, Ab, nb, cb, fb, y, rfl, -, -, -⟩ := g2
  refine ceil_of fun w' g hb hg => divided_any (h1.below hb) (h2.below hb) (hT.below hb hT.lt) (hT64.below hb hT64.lt) _ (enters_of Tryd.func18 (by kernel_rfl) rfl) _ (fun s h m => !s && (h || m)) ?_ ?_
  · intro s' A n c x' hv w'' hb2 v p k' h m
    injection hv with hv
    simp at hv
    obtain ⟨rfl, -, -⟩ := hv
    exact ceil_way ((hb2.cell (p := ⟨g, 0, none⟩) (block_lt_of_cell hg)).trans hg)
  · rintro s A B j hB rfl rfl rfl
    rw [away_any hB]
    cases s
    · have h := floor_neg (X := A * 2 ^ j) hB
      have e : num false A * 2 ^ (j : Int).toNat = ((A * 2 ^ j : Nat) : Int) := by simp [num]
      rw [e, h]
      simp [num]
    · have e : num true A * 2 ^ (j : Int).toNat = -((A * 2 ^ j : Nat) : Int) := by simp [num, Int.neg_mul]
      rw [e, Int.neg_neg]
      simp [num, Int.neg_mul]

theorem rnear_any {w : World} {p q : Prop} {M N : Int} {v u : Value} (h1 : DArg w p M v) (h2 : DArg w q N u) (hT : Tab w) (hT64 : Tab64 w) :
    Calls Tryd.prog 10 #[v, u] w (DRes w (Qerrs p q N 0 ((2 * M + N) / (2 * N) * (tp 4000 : Int))) ((2 * M + N) / (2 * N) * (tp 4000 : Int))) := by
  have g1 := h1
  have g2 := h2
  obtain ⟨s, Aa, na, ca, fa, x, rfl, -, -, -⟩ := g1
  obtain ⟨t, Ab, nb, cb, fb, y, rfl, -, -, -⟩ := g2
  refine near_of fun w' g hb hg => divided_any (h1.below hb) (h2.below hb) (hT.below hb hT.lt) (hT64.below hb hT64.lt) _ (enters_of Tryd.func19 (by kernel_rfl) rfl) _ (fun s h m => h && (m || !s)) ?_ ?_
  · intro s' A n c x' hv w'' hb2 v p k' h m
    injection hv with hv
    simp at hv
    obtain ⟨rfl, -, -⟩ := hv
    exact near_way ((hb2.cell (p := ⟨g, 0, none⟩) (block_lt_of_cell hg)).trans hg)
  · rintro s A B j hB rfl rfl hj
    obtain rfl : j = 0 := by omega
    rw [Nat.pow_zero, Nat.mul_one, Nat.sub_zero]
    cases s
    · have h := near_pos (X := A) hB
      rw [show num false A = (A : Int) from rfl, h]
      simp [num]
    · have h := near_neg (X := A) hB
      rw [show num true A = -(A : Int) from rfl, h]
      simp [num, Int.neg_mul]

end Go.Proofs.YtnhnddhigbbleaaDoor


namespace Go.Proofs.YtnhnddhigbbleaaDoor
open Go.RowKit

theorem Dn.exp {B : Nat} {w : World} {n : Int} {s : Bool} {v : Value} {y : Int} {x : Nat} (h : Dn B w (n * (tp 4000 : Int)) (.agg #[.bool s, v, .int .i64 y])) (hx : x ≤ 1024) (hn : x = 0 ∨ n % 2 = 1) : Dn B w (n * (tp (4000 - x) : Int)) (.agg #[.bool s, v, .int .i64 (x : Int)]) := by
  obtain ⟨t, u, X, V, hv, hm, hc, hX, hd⟩ := h
  injection hv with hv
  simp at hv
  obtain ⟨rfl, rfl, rfl⟩ := hv
  have key : ∀ (z : Bool) (U : Nat), n = num z U → (U = 0 → z = false) → Dn B w (n * (tp (4000 - x) : Int)) (.agg #[.bool s, v, .int .i64 (x : Int)]) := by
    intro z U hz h0
    have hdz : dv s V X = dv z U 0 := by
      rw [hd, hz]
      cases z <;> simp [dv, num, Int.neg_mul]
    obtain ⟨rfl, rfl, rfl⟩ := canon_uniq hc (⟨fun h => ⟨h0 h, rfl⟩, fun h => absurd h (by omega)⟩ : Canon z U 0) (by omega) (by omega) hdz
    refine ⟨s, v, x, V, rfl, hm, ⟨fun hV => ⟨(hc.1 hV).1, ?_⟩, fun hx0 => ?_⟩, hx, ?_⟩
    · rcases hn with h | h
      · exact h
      · subst hV
        rw [hz, num_zero] at h
        omega
    · rcases hn with h | h
      · omega
      · rw [hz] at h
        cases s <;> simp only [num] at h <;> simp at h <;> omega
    · rw [hz]
      cases s <;> simp [dv, num, Int.neg_mul]
  rcases Int.lt_or_le n 0 with h | h
  · exact key true n.natAbs (by simp [num]; omega) (by omega)
  · exact key false n.natAbs (by simp [num]; omega) (fun _ => rfl)

end Go.Proofs.YtnhnddhigbbleaaDoor

