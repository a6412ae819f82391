/- Package field: mayRead, Number, Done. -/
/- Package field: what is taken, and of which bytes: numbers. -/
/- Package field: formed. -/
/- Package field: takeDyad. -/
import Derived.Test.YtbankbehfjogpaaVao
import Derived.Test.YtbankbehfjogpaaVad
import Derived.Test.YtbankbehfjogpaaVaf
import Derived.ScopeJumps

namespace Go.Proofs.Ytbankbehfjogpaa
set_option maxRecDepth 100000
open Go.RowKit

theorem results_ctt {fn : Func} {p u v : Tmp} {ty : TypeId} (h : fn.results = #[.cell p ty, .tmp u, .tmp v]) (tmps : Array Value) (P : Program) (w : World) :
    (results fn tmps).run P w =
      ((asAddr (tmps.getD p undef)).run P w).andThen fun a w₁ => ((loadVar ty a).run P w₁).andThen fun x w₂ => .ok (.tuple #[x, tmps.getD u undef, tmps.getD v undef]) w₂ := by
  simp only [results, h]
  simp [Sem.run_bind, Result.andThen]
theorem jresults_cct {fn : Func} {p q u : Tmp} {ty tz : TypeId} (h : fn.results = #[.cell p ty, .cell q tz, .tmp u]) (tmps : Array Value) (P : Program) (w : World) :
    (results fn tmps).run P w =
      ((asAddr (tmps.getD p undef)).run P w).andThen fun a w₁ => ((loadVar ty a).run P w₁).andThen fun x w₂ => ((asAddr (tmps.getD q undef)).run P w₂).andThen fun b w₃ => ((loadVar tz b).run P w₃).andThen fun y w₄ => .ok (.tuple #[x, y, tmps.getD u undef]) w₄ := by
  simp only [results, h]
  simp [Sem.run_bind, Result.andThen]
theorem rest_size : (Try.prog.info? 64).map (·.size) = some 2 := by kernel_rfl
theorem ret_rest {fn : Func} {R : Ending → World → Prop} {a : Act} {w : World} {p u v : Tmp} {t : TypeId} {g n c : Nat} {A : Option Addr} {q : Int} {x er : Value} (h : fn.results = #[.cell p 64, .tmp u, .tmp v]) (hp : a.tmps.getD p undef = .pointer (some ⟨g, 0, none⟩)) (hu : a.tmps.getD u undef = x) (hv : a.tmps.getD v undef = er)
    (hd : a.defers = []) (hg : Rbox w t g A n c q) (hR : R (.returned (.tuple #[.agg #[.slice A n c, .int .i64 q], x, er])) w) : bodyPost Try.prog fn R .ret a w := by
  refine bodyPost_ret ?_ hd hR
  rw [results_ctt h, hp, hu, hv]
  simp [asAddr, Result.andThen, run_loadVar_row w g t 64 _ _ _ hg Try.underlying64 rfl rest_size]
theorem ret_rest_dyad {fn : Func} {R : Ending → World → Prop} {a : Act} {w : World} {p q u : Tmp} {t : TypeId} {g k n c : Nat} {A : Option Addr} {z : Int} {s : Bool} {v er : Value} {x : Int} (h : fn.results = #[.cell p 64, .cell q 24, .tmp u]) (hp : a.tmps.getD p undef = .pointer (some ⟨g, 0, none⟩)) (hq : a.tmps.getD q undef = .pointer (some ⟨k, 0, none⟩)) (hu : a.tmps.getD u undef = er)
    (hd : a.defers = []) (hg : Rbox w t g A n c z) (hk : Dbox w k s v x) (hR : R (.returned (.tuple #[.agg #[.slice A n c, .int .i64 z], .agg #[.bool s, v, .int .i64 x], er])) w) : bodyPost Try.prog fn R .ret a w := by
  refine bodyPost_ret ?_ hd hR
  rw [jresults_cct h, hp, hq, hu]
  simp [asAddr, Result.andThen, run_loadVar_row w g t 64 _ _ _ hg Try.underlying64 rfl rest_size, run_loadVar_row w k _ 24 _ _ _ hk Try.underlying24 rfl dyad_size]

set_option maxHeartbeats 1600000 in
theorem mayRead_any (A : Option Addr) (n c : Nat) (p : Int) (w : World) (_hm : n ≤ 140737488355328) :
    Calls Try.prog 58 #[.agg #[.slice A n c, .int .i64 p]] w fun e w' => e = .returned (.bool (decide (0 ≤ p ∧ p ≤ n))) ∧ Hid (Below w.heap.size w w') := by
  have B0 := hid ((Below.refl w.heap.size w).alloc (Nat.le_refl _) (.cells #[.slice A n c, .int .i64 p] 64))
  have hcase : (¬ 0 ≤ p) ∨ (0 ≤ p ∧ ¬ p ≤ (n : Int)) ∨ (0 ≤ p ∧ p ≤ (n : Int)) := by omega
  rcases hcase with h1 | ⟨h1, h2⟩ | ⟨h1, h2⟩
  all_goals
    go_enter Try.func58, Try.ntmps58
    go_wp2
    go_ret
    refine ⟨?_, B0⟩
    congr 2
    simp
    try omega

set_option maxHeartbeats 1600000 in
theorem Done_any (A : Option Addr) (n c : Nat) (p : Int) (w : World) (hm : n ≤ 140737488355328) :
    Calls Try.prog 30 #[.agg #[.slice A n c, .int .i64 p]] w fun e w' => e = .returned (.bool (decide (p = n))) ∧ Hid (Below w.heap.size w w') := by
  have B0 := hid ((Below.refl w.heap.size w).alloc (Nat.le_refl _) (.cells #[.slice A n c, .int .i64 p] 64))
  have R0 : Hid (Rbox _ 64 w.heap.size A n c p) := heap_alloc_new w (.cells #[.slice A n c, .int .i64 p] 64)
  have C := mayRead_any A n c p (w.alloc (.cells #[.slice A n c, .int .i64 p] 64)) hm
  by_cases h1 : 0 ≤ p ∧ p ≤ (n : Int)
  · rw [bool_of_dec h1] at C
    have HC := hid C
    clear C
    by_cases h2 : p = (n : Int)
    · have he : (p == (n : Int)) = true := by simp [h2]
      rw [bool_of_dec h2]
      have b0 := R0.out.c0
      have b1 := R0.out.c1
      clear h1 h2
      go_enter Try.func30, Try.ntmps30
      go_wp2_with fail
      refine HC.out.mono ?_
      rintro e w1 ⟨rfl, hb⟩
      have R1 := hid (R0.out.below hb.out R0.out.lt)
      have e0 := R1.out.c0
      have e1 := R1.out.c1
      clear b0 b1
      go_wp2
      go_ret
      exact ⟨rfl, hid (B0.out.trans (hb.out.mono B0.out.size))⟩
    · have he : (p == (n : Int)) = false := by simp [h2]
      rw [bool_of_not h2]
      have b0 := R0.out.c0
      have b1 := R0.out.c1
      clear h1 h2
      go_enter Try.func30, Try.ntmps30
      go_wp2_with fail
      refine HC.out.mono ?_
      rintro e w1 ⟨rfl, hb⟩
      have R1 := hid (R0.out.below hb.out R0.out.lt)
      have e0 := R1.out.c0
      have e1 := R1.out.c1
      clear b0 b1
      go_wp2
      go_ret
      exact ⟨rfl, hid (B0.out.trans (hb.out.mono B0.out.size))⟩
  · rw [bool_of_not h1] at C
    rw [bool_of_not (fun h2 : p = (n : Int) => h1 (by omega))]
    have HC := hid C
    have b0 := R0.out.c0
    have b1 := R0.out.c1
    clear C h1
    go_enter Try.func30, Try.ntmps30
    go_wp2_with fail
    refine HC.out.mono ?_
    rintro e w1 ⟨rfl, hb⟩
    go_wp2
    go_ret
    exact ⟨rfl, hid (B0.out.trans (hb.out.mono B0.out.size))⟩

/-- The error of a number that is taken. -/
def nE (n : Nat) (p z : Int) : Int := if ¬ (0 ≤ p ∧ p ≤ n) then 8 else if ¬ (1 ≤ z ∧ z ≤ 8) then 2 else if (n : Int) < p + z then 40 else 0
/-- What a call hands back that takes a number. -/
def NRes (w : World) (n : Nat) (xs : List Nat) (p z : Int) (e : Ending) (w' : World) : Prop := ∃ A' n' c' V er, ∃ p' : Int, e = .returned (.tuple #[.agg #[.slice A' n' c', .int .i64 p'], .int .u64 ((V : Nat) : Int), .int .i64 er]) ∧
  Hid (er = nE n p z) ∧ Hid (By w' w.heap.size A' n' c' (if er = 0 then xs else [])) ∧ Hid (p' = if er = 0 then p + z else 0) ∧ Hid (V = if er = 0 then bn ((xs.drop p.toNat).take z.toNat) else 0) ∧ Hid (Below w.heap.size w w')
theorem NRes.bad {w w' : World} {n : Nat} {xs : List Nat} {p z er : Int} (he : er = nE n p z) (h0 : er ≠ 0) (hb : Below w.heap.size w w') : NRes w n xs p z (.returned (.tuple #[.agg #[.slice none 0 0, .int .i64 0], .int .u64 0, .int .i64 er])) w' :=
  ⟨none, 0, 0, 0, er, 0, rfl, he, by rw [if_neg h0]; exact By.nul _ _, by rw [if_neg h0]; exact rfl, by rw [if_neg h0]; exact rfl, hb⟩

set_option maxHeartbeats 3200000 in
theorem Number_any {w : World} {n c : Nat} {A : Option Addr} {xs : List Nat} (h : By w w.heap.size A n c xs) (p z : Int) :
    Calls Try.prog 55 #[.agg #[.slice A n c, .int .i64 p], .int .i64 z] w (NRes w n xs p z) := by
  obtain ⟨W, hW⟩ : ∃ W, W = (w.alloc (.cells #[.slice A n c, .int .i64 p] 64)).alloc (.cells #[.slice none 0 0, .int .i64 0] 64) := ⟨_, rfl⟩
  have B0 := hid (show Below w.heap.size w W from hW ▸ ((Below.refl w.heap.size w).alloc (Nat.le_refl _) _).alloc (by simp) _)
  have R0 : Hid (Rbox W 64 w.heap.size A n c p) := hid (hW ▸ (Below.heap_alloc _ _ _ (by simp)).trans (heap_alloc_new w _))
  have Z0 : Hid (Rbox W 64 (w.heap.size + 1) none 0 0 0) := hid (hW ▸ heap_alloc2_new w _ _)
  have HW := hid hW
  have HX := hid h
  have hmax := h.max
  clear hW h
  have C := mayRead_any A n c p W hmax
  have b0 := R0.out.c0
  have b1 := R0.out.c1
  by_cases h1 : 0 ≤ p ∧ p ≤ (n : Int)
  · rw [bool_of_dec h1] at C
    have HC := hid C
    obtain ⟨q, rfl⟩ : ∃ q : Nat, p = q := ⟨p.toNat, by omega⟩
    have CS := fun w => maySize_any z w
    by_cases h2 : 1 ≤ z ∧ z ≤ 8
    · obtain ⟨k, rfl⟩ : ∃ k : Nat, z = k := ⟨z.toNat, by omega⟩
      rw [bool_of_dec h2] at CS
      have HS := hid CS
      clear C CS
      go_enter Try.func55, Try.ntmps55
      go_upto_region 1 with fail
      rw [← HW.out]
      go_wp2_with fail
      refine HC.out.mono ?_
      rintro e w1 ⟨rfl, hb1⟩
      have R1 := hid (R0.out.below hb1.out R0.out.lt)
      have Z1 := hid (Z0.out.below hb1.out Z0.out.lt)
      have B1 := hid (B0.out.trans (hb1.out.mono B0.out.size))
      have e0 := R1.out.c0
      have e1 := R1.out.c1
      clear b0 b1
      go_wp2_with fail
      refine (HS.out _).mono ?_
      rintro e w2 ⟨rfl, rfl⟩
      have Z1lt := Z1.out.lt
      go_wp2_with fail
      have RR : Hid (Rbox (w1.alloc (.cells #[.slice A n c, .int .i64 (q : Int)] 120)) 120 w1.heap.size A n c (q : Int)) := heap_alloc_new w1 _
      have Ba := hid ((Below.refl w1.heap.size w1).alloc (Nat.le_refl _) (.cells #[.slice A n c, .int .i64 (q : Int)] 120))
      have hX2 := hid (HX.out.below (B1.out.trans (Ba.out.mono B1.out.size)))
      clear e0 e1
      by_cases hs : n < q + k
      · refine (next_short RR.out hs (by omega) (by omega) hmax).mono ?_
        rintro e w3 ⟨rfl, R3, hb3⟩
        have K3 := hid (Ba.out.trans (below_of_grown hb3.out (by simp)))
        have Z3 := hid (Z1.out.below K3.out Z1lt)
        have B3 := hid (B1.out.trans (K3.out.mono B1.out.size))
        have f0 := Z3.out.frozen 0
        have f1 := Z3.out.frozen 1
        have c0 := Z3.out.c0
        have c1 := Z3.out.c1
        have he : (40 : Int) = nE n q k := by unfold nE; rw [if_neg (by omega), if_neg (by omega), if_pos (by omega)]
        have HE := hid he
        clear he
        go_wp2
        refine ret_rest rfl rfl rfl rfl rfl ((Z3.out.set0 (D := none) (m := 0) (d := 0)).set1 0) ?_
        exact NRes.bad HE.out (by omega) ((B3.out.setCell (p := ⟨w.heap.size + 1, 0, none⟩) (by simp) _).setCell (p := ⟨w.heap.size + 1, 1, none⟩) (by simp) _)
      · refine (next_any RR.out hX2.out B1.out.size (by omega) (by omega)).mono ?_
        rintro e w3 ⟨rfl, R3, hb3⟩
        have K3 := hid (Ba.out.trans (below_of_grown hb3.out (by simp)))
        have Z3 := hid (Z1.out.below K3.out Z1lt)
        have B3 := hid (B1.out.trans (K3.out.mono B1.out.size))
        have f0 := Z3.out.frozen 0
        have f1 := Z3.out.frozen 1
        have c0 := Z3.out.c0
        have c1 := Z3.out.c1
        have r0 := R3.out.c0
        have r1 := R3.out.c1
        have he : (0 : Int) = nE n q k := by unfold nE; rw [if_neg (by omega), if_neg (by omega), if_neg (by omega)]
        have HE := hid he
        obtain ⟨V, hV⟩ : ∃ V, V = bn ((xs.drop q).take k) := ⟨_, rfl⟩
        rw [← hV]
        have HV := hid hV
        clear he hV
        go_wp2
        refine ret_rest rfl rfl rfl rfl rfl ((Z3.out.set0 (D := A) (m := n) (d := c)).set1 ((q + k : Nat) : Int)) ?_
        have B4 := (B3.out.setCell (p := ⟨w.heap.size + 1, 0, none⟩) (by simp) (.slice A n c)).setCell (p := ⟨w.heap.size + 1, 1, none⟩) (by simp) (.int .i64 ((q + k : Nat) : Int))
        exact ⟨A, n, c, V, 0, ((q + k : Nat) : Int), rfl, HE, by rw [if_pos rfl]; exact HX.out.below B4, by rw [if_pos rfl]; exact Int.natCast_add q k, by rw [if_pos rfl]; exact HV, B4⟩
    · rw [bool_of_not h2] at CS
      have HS := hid CS
      have HE : Hid ((2 : Int) = nE n q z) := hid (by unfold nE; rw [if_neg (by omega), if_pos h2])
      clear C CS h1 h2
      go_enter Try.func55, Try.ntmps55
      go_upto_region 1 with fail
      rw [← HW.out]
      go_wp2_with fail
      refine HC.out.mono ?_
      rintro e w1 ⟨rfl, hb1⟩
      have Z1 := hid (Z0.out.below hb1.out Z0.out.lt)
      have B1 := hid (B0.out.trans (hb1.out.mono B0.out.size))
      have f0 := Z1.out.frozen 0
      have f1 := Z1.out.frozen 1
      have c0 := Z1.out.c0
      have c1 := Z1.out.c1
      clear b0 b1
      go_wp2_with fail
      refine (HS.out _).mono ?_
      rintro e w2 ⟨rfl, rfl⟩
      go_wp2
      refine ret_rest rfl rfl rfl rfl rfl ((Z1.out.set0 (D := none) (m := 0) (d := 0)).set1 0) ?_
      exact NRes.bad HE.out (by omega) ((B1.out.setCell (p := ⟨w.heap.size + 1, 0, none⟩) (by simp) _).setCell (p := ⟨w.heap.size + 1, 1, none⟩) (by simp) _)
  · rw [bool_of_not h1] at C
    have HC := hid C
    have HE : Hid ((8 : Int) = nE n p z) := hid (by unfold nE; rw [if_pos h1])
    clear C h1
    go_enter Try.func55, Try.ntmps55
    go_upto_region 1 with fail
    rw [← HW.out]
    go_wp2_with fail
    refine HC.out.mono ?_
    rintro e w1 ⟨rfl, hb1⟩
    have Z1 := hid (Z0.out.below hb1.out Z0.out.lt)
    have B1 := hid (B0.out.trans (hb1.out.mono B0.out.size))
    have f0 := Z1.out.frozen 0
    have f1 := Z1.out.frozen 1
    have c0 := Z1.out.c0
    have c1 := Z1.out.c1
    clear b0 b1
    go_wp2
    refine ret_rest rfl rfl rfl rfl rfl ((Z1.out.set0 (D := none) (m := 0) (d := 0)).set1 0) ?_
    exact NRes.bad HE.out (by omega) ((B1.out.setCell (p := ⟨w.heap.size + 1, 0, none⟩) (by simp) _).setCell (p := ⟨w.heap.size + 1, 1, none⟩) (by simp) _)

end Go.Proofs.Ytbankbehfjogpaa


namespace Go.Proofs.Ytbankbehfjogpaa
open Go.RowKit
set_option maxRecDepth 100000

/-- What a call hands back that takes a number. -/
def NRs (w : World) (A : Option Addr) (n c : Nat) (xs : List Nat) (p z : Int) (e : Ending) (w' : World) : Prop := ∃ A' n' c' V er, ∃ p' : Int, e = .returned (.tuple #[.agg #[.slice A' n' c', .int .i64 p'], .int .u64 ((V : Nat) : Int), .int .i64 er]) ∧
  Hid (er = nE n p z) ∧ Hid (er = 0 → A' = A ∧ n' = n ∧ c' = c) ∧ Hid (er ≠ 0 → A' = none ∧ n' = 0 ∧ c' = 0) ∧ Hid (p' = if er = 0 then p + z else 0) ∧ Hid (V = if er = 0 then bn ((xs.drop p.toNat).take z.toNat) else 0) ∧ Hid (Below w.heap.size w w')
theorem NRs.bad {w w' : World} {A : Option Addr} {n c : Nat} {xs : List Nat} {p z er : Int} (he : er = nE n p z) (h0 : er ≠ 0) (hb : Below w.heap.size w w') : NRs w A n c xs p z (.returned (.tuple #[.agg #[.slice none 0 0, .int .i64 0], .int .u64 0, .int .i64 er])) w' :=
  ⟨none, 0, 0, 0, er, 0, rfl, he, fun h => absurd h h0, fun _ => ⟨rfl, rfl, rfl⟩, by rw [if_neg h0]; exact rfl, by rw [if_neg h0]; exact rfl, hb⟩

set_option maxHeartbeats 3200000 in
theorem Number_s {w : World} {n c : Nat} {A : Option Addr} {xs : List Nat} (h : By w w.heap.size A n c xs) (p z : Int) :
    Calls Try.prog 55 #[.agg #[.slice A n c, .int .i64 p], .int .i64 z] w (NRs w A n c xs p z) := by
  obtain ⟨W, hW⟩ : ∃ W, W = (w.alloc (.cells #[.slice A n c, .int .i64 p] 64)).alloc (.cells #[.slice none 0 0, .int .i64 0] 64) := ⟨_, rfl⟩
  have B0 := hid (show Below w.heap.size w W from hW ▸ ((Below.refl w.heap.size w).alloc (Nat.le_refl _) _).alloc (by simp) _)
  have R0 : Hid (Rbox W 64 w.heap.size A n c p) := hid (hW ▸ (Below.heap_alloc _ _ _ (by simp)).trans (heap_alloc_new w _))
  have Z0 : Hid (Rbox W 64 (w.heap.size + 1) none 0 0 0) := hid (hW ▸ heap_alloc2_new w _ _)
  have HW := hid hW
  have HX := hid h
  have hmax := h.max
  clear hW h
  have C := mayRead_any A n c p W hmax
  have b0 := R0.out.c0
  have b1 := R0.out.c1
  by_cases h1 : 0 ≤ p ∧ p ≤ (n : Int)
  · rw [bool_of_dec h1] at C
    have HC := hid C
    obtain ⟨q, rfl⟩ : ∃ q : Nat, p = q := ⟨p.toNat, by omega⟩
    have CS := fun w => maySize_any z w
    by_cases h2 : 1 ≤ z ∧ z ≤ 8
    · obtain ⟨k, rfl⟩ : ∃ k : Nat, z = k := ⟨z.toNat, by omega⟩
      rw [bool_of_dec h2] at CS
      have HS := hid CS
      clear C CS
      go_enter Try.func55, Try.ntmps55
      go_upto_region 1 with fail
      rw [← HW.out]
      go_wp2_with fail
      refine HC.out.mono ?_
      rintro e w1 ⟨rfl, hb1⟩
      have R1 := hid (R0.out.below hb1.out R0.out.lt)
      have Z1 := hid (Z0.out.below hb1.out Z0.out.lt)
      have B1 := hid (B0.out.trans (hb1.out.mono B0.out.size))
      have e0 := R1.out.c0
      have e1 := R1.out.c1
      clear b0 b1
      go_wp2_with fail
      refine (HS.out _).mono ?_
      rintro e w2 ⟨rfl, rfl⟩
      have Z1lt := Z1.out.lt
      go_wp2_with fail
      have RR : Hid (Rbox (w1.alloc (.cells #[.slice A n c, .int .i64 (q : Int)] 120)) 120 w1.heap.size A n c (q : Int)) := heap_alloc_new w1 _
      have Ba := hid ((Below.refl w1.heap.size w1).alloc (Nat.le_refl _) (.cells #[.slice A n c, .int .i64 (q : Int)] 120))
      have hX2 := hid (HX.out.below (B1.out.trans (Ba.out.mono B1.out.size)))
      clear e0 e1
      by_cases hs : n < q + k
      · refine (next_short RR.out hs (by omega) (by omega) hmax).mono ?_
        rintro e w3 ⟨rfl, R3, hb3⟩
        have K3 := hid (Ba.out.trans (below_of_grown hb3.out (by simp)))
        have Z3 := hid (Z1.out.below K3.out Z1lt)
        have B3 := hid (B1.out.trans (K3.out.mono B1.out.size))
        have f0 := Z3.out.frozen 0
        have f1 := Z3.out.frozen 1
        have c0 := Z3.out.c0
        have c1 := Z3.out.c1
        have he : (40 : Int) = nE n q k := by unfold nE; rw [if_neg (by omega), if_neg (by omega), if_pos (by omega)]
        have HE := hid he
        clear he
        go_wp2
        refine ret_rest rfl rfl rfl rfl rfl ((Z3.out.set0 (D := none) (m := 0) (d := 0)).set1 0) ?_
        exact NRs.bad HE.out (by omega) ((B3.out.setCell (p := ⟨w.heap.size + 1, 0, none⟩) (by simp) _).setCell (p := ⟨w.heap.size + 1, 1, none⟩) (by simp) _)
      · refine (next_any RR.out hX2.out B1.out.size (by omega) (by omega)).mono ?_
        rintro e w3 ⟨rfl, R3, hb3⟩
        have K3 := hid (Ba.out.trans (below_of_grown hb3.out (by simp)))
        have Z3 := hid (Z1.out.below K3.out Z1lt)
        have B3 := hid (B1.out.trans (K3.out.mono B1.out.size))
        have f0 := Z3.out.frozen 0
        have f1 := Z3.out.frozen 1
        have c0 := Z3.out.c0
        have c1 := Z3.out.c1
        have r0 := R3.out.c0
        have r1 := R3.out.c1
        have he : (0 : Int) = nE n q k := by unfold nE; rw [if_neg (by omega), if_neg (by omega), if_neg (by omega)]
        have HE := hid he
        obtain ⟨V, hV⟩ : ∃ V, V = bn ((xs.drop q).take k) := ⟨_, rfl⟩
        rw [← hV]
        have HV := hid hV
        clear he hV
        go_wp2
        refine ret_rest rfl rfl rfl rfl rfl ((Z3.out.set0 (D := A) (m := n) (d := c)).set1 ((q + k : Nat) : Int)) ?_
        have B4 := (B3.out.setCell (p := ⟨w.heap.size + 1, 0, none⟩) (by simp) (.slice A n c)).setCell (p := ⟨w.heap.size + 1, 1, none⟩) (by simp) (.int .i64 ((q + k : Nat) : Int))
        exact ⟨A, n, c, V, 0, ((q + k : Nat) : Int), rfl, HE, fun _ => ⟨rfl, rfl, rfl⟩, fun h => absurd rfl h, by rw [if_pos rfl]; exact Int.natCast_add q k, by rw [if_pos rfl]; exact HV, B4⟩
    · rw [bool_of_not h2] at CS
      have HS := hid CS
      have HE : Hid ((2 : Int) = nE n q z) := hid (by unfold nE; rw [if_neg (by omega), if_pos h2])
      clear C CS h1 h2
      go_enter Try.func55, Try.ntmps55
      go_upto_region 1 with fail
      rw [← HW.out]
      go_wp2_with fail
      refine HC.out.mono ?_
      rintro e w1 ⟨rfl, hb1⟩
      have Z1 := hid (Z0.out.below hb1.out Z0.out.lt)
      have B1 := hid (B0.out.trans (hb1.out.mono B0.out.size))
      have f0 := Z1.out.frozen 0
      have f1 := Z1.out.frozen 1
      have c0 := Z1.out.c0
      have c1 := Z1.out.c1
      clear b0 b1
      go_wp2_with fail
      refine (HS.out _).mono ?_
      rintro e w2 ⟨rfl, rfl⟩
      go_wp2
      refine ret_rest rfl rfl rfl rfl rfl ((Z1.out.set0 (D := none) (m := 0) (d := 0)).set1 0) ?_
      exact NRs.bad HE.out (by omega) ((B1.out.setCell (p := ⟨w.heap.size + 1, 0, none⟩) (by simp) _).setCell (p := ⟨w.heap.size + 1, 1, none⟩) (by simp) _)
  · rw [bool_of_not h1] at C
    have HC := hid C
    have HE : Hid ((8 : Int) = nE n p z) := hid (by unfold nE; rw [if_pos h1])
    clear C h1
    go_enter Try.func55, Try.ntmps55
    go_upto_region 1 with fail
    rw [← HW.out]
    go_wp2_with fail
    refine HC.out.mono ?_
    rintro e w1 ⟨rfl, hb1⟩
    have Z1 := hid (Z0.out.below hb1.out Z0.out.lt)
    have B1 := hid (B0.out.trans (hb1.out.mono B0.out.size))
    have f0 := Z1.out.frozen 0
    have f1 := Z1.out.frozen 1
    have c0 := Z1.out.c0
    have c1 := Z1.out.c1
    clear b0 b1
    go_wp2
    refine ret_rest rfl rfl rfl rfl rfl ((Z1.out.set0 (D := none) (m := 0) (d := 0)).set1 0) ?_
    exact NRs.bad HE.out (by omega) ((B1.out.setCell (p := ⟨w.heap.size + 1, 0, none⟩) (by simp) _).setCell (p := ⟨w.heap.size + 1, 1, none⟩) (by simp) _)

end Go.Proofs.Ytbankbehfjogpaa


namespace Go.Proofs.Ytbankbehfjogpaa
set_option maxRecDepth 100000
open Go.RowKit

set_option maxHeartbeats 6400000 in
theorem formed_any {w : World} {n c g : Nat} {A : Option Addr} {f : Nat → Nat} {x : Int} (hr : Rd w w.heap.size A n c f) (hg : g < 256) :
    Calls Try.prog 83 #[.int .u64 (g : Int), .agg #[.bool false, .slice A n c, .int .i64 x]] w fun e w' =>
      Hid (Below w.heap.size w w') ∧ ((g ≤ 1 ∧ DMay (decide (g = 1)) n f x ∧ e = .returned (.tuple #[.agg #[.bool (decide (g = 1)), .slice A n c, .int .i64 x], .int .i64 0])) ∨
        (¬ (g ≤ 1 ∧ DMay (decide (g = 1)) n f x) ∧ e = .returned (.tuple #[.agg #[.bool false, .slice none 0 0, .int .i64 0], .int .i64 41]))) := by
  obtain ⟨W, hW⟩ : ∃ W, W = (w.alloc (.cells #[.bool false, .slice A n c, .int .i64 x] 24)).alloc (.cells #[.bool false, .slice none 0 0, .int .i64 0] 24) := ⟨_, rfl⟩
  have B0 := hid (show Below w.heap.size w W from hW ▸ ((Below.refl w.heap.size w).alloc (Nat.le_refl _) _).alloc (by simp) _)
  have P0 : Hid (Dbox W w.heap.size false (.slice A n c) x) := hid (hW ▸ (Below.heap_alloc _ _ _ (by simp)).trans (heap_alloc_new w _))
  have Z0 : Hid (Dbox W (w.heap.size + 1) false (.slice none 0 0) 0) := hid (hW ▸ heap_alloc2_new w _ _)
  have HW := hid hW
  have HR := hid hr
  clear hW hr
  have b0 := P0.out.frozen 0
  have hcase : g = 0 ∨ g = 1 ∨ (((g : Int) == 1) = false ∧ ((g : Int) != 0) = true ∧ ¬ g ≤ 1) := by
    rcases Nat.lt_or_ge g 2 with h | h
    · omega
    · right; right
      refine ⟨by simp; omega, ?_, by omega⟩
      simp only [bne_iff_ne]
      omega
  rcases hcase with rfl | rfl | ⟨h1, h2, h3⟩
  · have P1 := hid (P0.out.set0 false)
    have B1 := hid (B0.out.setCell (p := ⟨w.heap.size, 0, none⟩) (Nat.le_refl _) (.bool false))
    have Z1 := hid (Z0.out.far (k := w.heap.size) (by omega) 0 (.bool false))
    have C := hid (dcheck_any (w := W.setCell ⟨w.heap.size, 0, none⟩ (.bool false)) ((HR.out.below B1.out).mono B1.out.size) false x)
    have c0 := P0.out.c0
    have c1 := P0.out.c1
    have c2 := P0.out.c2
    by_cases hm : DMay false n f x
    · have HM := hid hm
      rw [dchk_ok hm] at C
      clear hm
      go_enter Try.func83, Try.ntmps83
      go_upto_region 1 with fail
      rw [← HW.out]
      go_wp2_with fail
      refine C.out.mono ?_
      rintro e w1 ⟨rfl, hb⟩
      have P2 := hid (P1.out.below hb P1.out.lt)
      have Z2 := hid (Z1.out.below hb Z1.out.lt)
      have B2 := hid (B1.out.trans (hb.mono B1.out.size))
      have e0 := P2.out.c0
      have e1 := P2.out.c1
      have e2 := P2.out.c2
      have f0 := Z2.out.frozen 0
      have f1 := Z2.out.frozen 1
      have f2 := Z2.out.frozen 2
      have z0 := Z2.out.c0
      have z1 := Z2.out.c1
      have z2 := Z2.out.c2
      clear c0 c1 c2
      go_wp2
      refine ret_dyad rfl rfl rfl rfl (Z2.out.store (t := false) (u := .slice A n c) (y := x)) ?_
      exact ⟨below_put3 B2.out (by simp), .inl ⟨by omega, HM.out, rfl⟩⟩
    · have HM := hid hm
      rw [dchk_bad hm] at C
      clear hm
      go_enter Try.func83, Try.ntmps83
      go_upto_region 1 with fail
      rw [← HW.out]
      go_wp2_with fail
      refine C.out.mono ?_
      rintro e w1 ⟨rfl, hb⟩
      have Z2 := hid (Z1.out.below hb Z1.out.lt)
      have B2 := hid (B1.out.trans (hb.mono B1.out.size))
      have f0 := Z2.out.frozen 0
      have f1 := Z2.out.frozen 1
      have f2 := Z2.out.frozen 2
      have z0 := Z2.out.c0
      have z1 := Z2.out.c1
      have z2 := Z2.out.c2
      clear c0 c1 c2
      go_wp2
      refine ret_dyad rfl rfl rfl rfl (Z2.out.store (t := false) (u := .slice none 0 0) (y := 0)) ?_
      exact ⟨below_put3 B2.out (by simp), .inr ⟨fun h => HM.out h.2, rfl⟩⟩
  · have P1 := hid (P0.out.set0 true)
    have B1 := hid (B0.out.setCell (p := ⟨w.heap.size, 0, none⟩) (Nat.le_refl _) (.bool true))
    have Z1 := hid (Z0.out.far (k := w.heap.size) (by omega) 0 (.bool true))
    have C := hid (dcheck_any (w := W.setCell ⟨w.heap.size, 0, none⟩ (.bool true)) ((HR.out.below B1.out).mono B1.out.size) true x)
    have c0 := P0.out.c0
    have c1 := P0.out.c1
    have c2 := P0.out.c2
    by_cases hm : DMay true n f x
    · have HM := hid hm
      rw [dchk_ok hm] at C
      clear hm
      go_enter Try.func83, Try.ntmps83
      go_upto_region 1 with fail
      rw [← HW.out]
      go_wp2_with fail
      refine C.out.mono ?_
      rintro e w1 ⟨rfl, hb⟩
      have P2 := hid (P1.out.below hb P1.out.lt)
      have Z2 := hid (Z1.out.below hb Z1.out.lt)
      have B2 := hid (B1.out.trans (hb.mono B1.out.size))
      have e0 := P2.out.c0
      have e1 := P2.out.c1
      have e2 := P2.out.c2
      have f0 := Z2.out.frozen 0
      have f1 := Z2.out.frozen 1
      have f2 := Z2.out.frozen 2
      have z0 := Z2.out.c0
      have z1 := Z2.out.c1
      have z2 := Z2.out.c2
      clear c0 c1 c2
      go_wp2
      refine ret_dyad rfl rfl rfl rfl (Z2.out.store (t := true) (u := .slice A n c) (y := x)) ?_
      exact ⟨below_put3 B2.out (by simp), .inl ⟨by omega, HM.out, rfl⟩⟩
    · have HM := hid hm
      rw [dchk_bad hm] at C
      clear hm
      go_enter Try.func83, Try.ntmps83
      go_upto_region 1 with fail
      rw [← HW.out]
      go_wp2_with fail
      refine C.out.mono ?_
      rintro e w1 ⟨rfl, hb⟩
      have Z2 := hid (Z1.out.below hb Z1.out.lt)
      have B2 := hid (B1.out.trans (hb.mono B1.out.size))
      have f0 := Z2.out.frozen 0
      have f1 := Z2.out.frozen 1
      have f2 := Z2.out.frozen 2
      have z0 := Z2.out.c0
      have z1 := Z2.out.c1
      have z2 := Z2.out.c2
      clear c0 c1 c2
      go_wp2
      refine ret_dyad rfl rfl rfl rfl (Z2.out.store (t := false) (u := .slice none 0 0) (y := 0)) ?_
      exact ⟨below_put3 B2.out (by simp), .inr ⟨fun h => HM.out h.2, rfl⟩⟩
  · have H3 := hid h3
    have P1 := hid (P0.out.set0 false)
    have B1 := hid (B0.out.setCell (p := ⟨w.heap.size, 0, none⟩) (Nat.le_refl _) (.bool false))
    have Z1 := hid (Z0.out.far (k := w.heap.size) (by omega) 0 (.bool false))
    have c0 := P0.out.c0
    have f0 := Z0.out.frozen 0
    have f1 := Z0.out.frozen 1
    have f2 := Z0.out.frozen 2
    have z0 := Z0.out.c0
    have z1 := Z0.out.c1
    have z2 := Z0.out.c2
    clear h3
    go_enter Try.func83, Try.ntmps83
    go_upto_region 1 with fail
    rw [← HW.out]
    go_wp2
    refine ret_dyad rfl rfl rfl rfl (Z1.out.store (t := false) (u := .slice none 0 0) (y := 0)) ?_
    exact ⟨below_put3 B1.out (by simp), .inr ⟨fun h => H3.out h.1, rfl⟩⟩

end Go.Proofs.Ytbankbehfjogpaa


namespace Go.Proofs.Ytbankbehfjogpaa
open Go.RowKit

/-- A scope from which the run jumps to a label once at most, forward. -/
theorem wp_scope_once {P : Program} {a : Act} {w : World} {Q : Exit → Act → World → Prop} {c rest : Code} (l : Nat) (hf : findLabel c l = some rest)
    (first : c.wp P (Exit.jump l (fun a w => rest.wp P (Exit.noGoto Q) a w) Q) a w) : (Code.scope c).wp P Q a w := by
  refine wp_scope_jumps l (fun a w => rest.wp P (Exit.noGoto Q) a w) (fun _ _ => 0) hf first fun a w h => Code.wp_mono ?_ h
  intro e a w h
  cases e with
  | goto l' => exact h.elim
  | normal => exact h
  | exit id => exact h
  | ret => exact h
  | panic ch => exact h
  | outgrown => exact h

/-- What bytes tell of a dyad: how many limbs, the sign's byte, the Exp, the limbs. -/
def cntOf (ys : List Nat) : Nat := ys.getD 3 0
def sgOf (ys : List Nat) : Nat := ys.getD 0 0
def expOf (ys : List Nat) : Nat := bn ((ys.drop 1).take 2)
def limOf (ys : List Nat) (j : Nat) : Nat := lof (ys.drop 4) (cntOf ys) j
/-- The error of a dyad that is taken. -/
def dE (ys : List Nat) : Int := if ys.length < 4 ∨ ys.length < 4 + 4 * cntOf ys then 40 else if sgOf ys ≤ 1 ∧ DMay (decide (sgOf ys = 1)) (cntOf ys) (limOf ys) (expOf ys) then 0 else 41

theorem bn_one {xs : List Nat} {p : Nat} (h : p < xs.length) : bn ((xs.drop p).take 1) = xs.getD p 0 := by
  have e : xs[p]? = some (xs.getD p 0) := by
    rw [List.getD_eq_getElem?_getD, List.getElem?_eq_getElem h]
    rfl
  have := part_one (xs := xs) (p := p) (k := 0) (by rw [Nat.add_zero]; exact e)
  rw [this, List.take_zero, bn_nil]
  omega
theorem getD_drop (xs : List Nat) (p j : Nat) : (xs.drop p).getD j 0 = xs.getD (p + j) 0 := by
  rw [List.getD_eq_getElem?_getD, List.getD_eq_getElem?_getD, List.getElem?_drop]

/-- What a call hands back that takes a dyad by a reader. -/
def TRes (w : World) (g : Nat) (A : Option Addr) (n c p : Nat) (ys : List Nat) (e : Ending) (w' : World) : Prop := ∃ s A' k c' x er, ∃ f : Nat → Nat, e = .returned (.tuple #[.agg #[.bool s, .slice A' k c', .int .i64 x], .int .i64 er]) ∧
  Hid (er = dE ys) ∧ Hid (Mk w' 34 w.heap.size A' k c' f) ∧ Hid (er = 0 → s = decide (sgOf ys = 1) ∧ k = cntOf ys ∧ f = limOf ys ∧ x = (expOf ys : Int)) ∧ Hid (er ≠ 0 → s = false ∧ A' = none ∧ k = 0 ∧ c' = 0 ∧ f = (fun _ => 0) ∧ x = 0) ∧
  Hid (er = 0 → Rbox w' 120 g A n c ((p + (4 + 4 * cntOf ys) : Nat) : Int)) ∧ Hid (Below g w w')
theorem TRes.bad {w w' : World} {g n c p : Nat} {A : Option Addr} {ys : List Nat} {er : Int} (he : er = dE ys) (h0 : er ≠ 0) (hb : Below g w w') : TRes w g A n c p ys (.returned (.tuple #[.agg #[.bool false, .slice none 0 0, .int .i64 0], .int .i64 er])) w' :=
  ⟨false, none, 0, 0, 0, er, fun _ => 0, rfl, he, Mk.nil _ _ _, fun h => absurd h h0, fun _ => ⟨rfl, rfl, rfl, rfl, rfl, rfl⟩, fun h => absurd h h0, hb⟩

theorem limOf_succ {xs : List Nat} {p k : Nat} (h : k < cntOf (xs.drop p)) : bn ((xs.drop (p + 4 + 4 * k)).take 4) = limOf (xs.drop p) k := by
  unfold limOf lof
  rw [if_pos h, List.drop_drop, List.drop_drop, ← Nat.add_assoc]

/-- What is gathered of limbs, in a row of the call's own. -/
def Lgr (w : World) (B : Nat) (f : Nat → Nat) (n : Nat) (v : Value) : Prop := w.ownsRow B 34 1 v n ((List.range n).map fun j => Value.int .u32 (f j : Int))
theorem Lgr.grown {w w' : World} {B n g : Nat} {f : Nat → Nat} {v : Value} (h : Lgr w B f n v) (hb : w.grownBy w' (some g)) (hg : g < B) : Lgr w' B f n v := by
  obtain ⟨hl, hor⟩ := h
  refine ⟨hl, ?_⟩
  rcases hor with h0 | ⟨k, cap, cur, rfl, hk, hh, hr⟩
  · exact .inl h0
  · exact .inr ⟨k, cap, cur, rfl, hk, (hb.block k (lt_of_heap hh) (by intro e; injection e with e; omega)).trans hh, hr⟩
theorem Lgr.nil (w : World) (B : Nat) (f : Nat → Nat) : Lgr w B f 0 (.slice none 0 0) := ⟨rfl, .inl ⟨rfl, rfl⟩⟩

/-- 'append(x, u)' over limbs, x a row of the call's own. -/
theorem app_limb {P : Program} {ops : Array Oper} {rest : List Oper} {o : Oper} {a : Act} {Q : Exit → Act → World → Prop} (hgd : o.guard = none) (s x : Operand) (t : TypeId)
    (ho : o.op = .call { callee := .builtin .append, args := #[s, x], argTypes := #[t, t] }) (e : TypeId) (z : Value) (bytes : Nat) (ht : P.underlying t = some (.slice e))
    (hi : (P.info? e).map (fun i => (i.zero, i.size, i.bytes)) = some (some z, 1, bytes)) (hz : z.cells.size = 1) (hby : bytes ≤ 8)
    {wr : World} {B n : Nat} {v u : Value} {xs : List Value} (hs : a.eval s = v) (hx : a.eval x = .slice (some ⟨wr.heap.size, 0, none⟩) 1 1) (hown : wr.ownsRow B e 1 v n xs) (hB : B ≤ wr.heap.size)
    (hu : u.oneCell' = true) (hn : n + 1 ≤ 17592186044416)
    (h : ∀ v' w', Hid (w'.ownsRow B e 1 v' (n + 1) (xs ++ [u])) → Hid (Below B wr w') → wpList P ops Q rest (a.put o.dst v') w') : wpList P ops Q (o :: rest) a (wr.alloc (.cells #[u] e)) := by
  refine wpList_append_src hgd s x t ho e z bytes ht hi hz hby (B := B) (news := [u]) hs hx (hown.alloc _) (by simp; omega) rfl (fun h => by cases h) ?_ (fun y hy => by simp at hy; subst hy; exact hu) hn ?_
  · intro p hp j y hj
    injection hp with hp
    subst hp
    match j, hj with
    | 0, hj =>
      simp at hj
      subst hj
      show (wr.alloc _).cell? ⟨wr.heap.size, 0, none⟩ = _
      rw [cell_of_row _ wr.heap.size 0 _ e (0, 0) (heap_alloc_new wr _)]
      rfl
    | j + 1, hj => simp at hj
  · intro v' w' hown' hb
    exact h v' w' hown' (hid (((Below.refl B wr).alloc hB _).trans hb.out))

end Go.Proofs.Ytbankbehfjogpaa

