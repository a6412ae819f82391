/- Package field: mayRead, Number, Done. -/
import Derived.Test.YtmaggpigodkhhaaJnext
namespace Go.Proofs.Ytmaggpigodkhhaa
open Go.RowKit

theorem results_ctt {fn : Func} {p u v : Tmp} {ty : TypeId} (h : fn.results = #[.cell p ty, .tmp u, .tmp v]) (tmps : Array Value) (P : Program) (w : World) :
    (results fn tmps).run P w =
      ((asAddr (tmps.getD p undef)).run P w).andThen fun a w₁ => ((loadVar ty a).run P w₁).andThen fun x w₂ => .ok (.tuple #[x, tmps.getD u undef, tmps.getD v undef]) w₂ := by
  simp only [results, h]
  simp [Sem.run_bind, Result.andThen]
theorem results_cct {fn : Func} {p q u : Tmp} {ty tz : TypeId} (h : fn.results = #[.cell p ty, .cell q tz, .tmp u]) (tmps : Array Value) (P : Program) (w : World) :
    (results fn tmps).run P w =
      ((asAddr (tmps.getD p undef)).run P w).andThen fun a w₁ => ((loadVar ty a).run P w₁).andThen fun x w₂ => ((asAddr (tmps.getD q undef)).run P w₂).andThen fun b w₃ => ((loadVar tz b).run P w₃).andThen fun y w₄ => .ok (.tuple #[x, y, tmps.getD u undef]) w₄ := by
  simp only [results, h]
  simp [Sem.run_bind, Result.andThen]
theorem rest_size : (Try.prog.info? 39).map (·.size) = some 2 := by kernel_rfl
theorem ret_rest {fn : Func} {R : Ending → World → Prop} {a : Act} {w : World} {p u v : Tmp} {t : TypeId} {g n c : Nat} {A : Option Addr} {q : Int} {x er : Value} (h : fn.results = #[.cell p 39, .tmp u, .tmp v]) (hp : a.tmps.getD p undef = .pointer (some ⟨g, 0, none⟩)) (hu : a.tmps.getD u undef = x) (hv : a.tmps.getD v undef = er)
    (hd : a.defers = []) (hg : Rbox w t g A n c q) (hR : R (.returned (.tuple #[.agg #[.slice A n c, .int .i64 q], x, er])) w) : bodyPost Try.prog fn R .ret a w := by
  refine bodyPost_ret ?_ hd hR
  rw [results_ctt h, hp, hu, hv]
  simp [asAddr, Result.andThen, run_loadVar_row w g t 39 _ _ _ hg Try.underlying39 rfl rest_size]
theorem ret_rest_dyad {fn : Func} {R : Ending → World → Prop} {a : Act} {w : World} {p q u : Tmp} {t : TypeId} {g k n c : Nat} {A : Option Addr} {z : Int} {s : Bool} {v er : Value} {x : Int} (h : fn.results = #[.cell p 39, .cell q 26, .tmp u]) (hp : a.tmps.getD p undef = .pointer (some ⟨g, 0, none⟩)) (hq : a.tmps.getD q undef = .pointer (some ⟨k, 0, none⟩)) (hu : a.tmps.getD u undef = er)
    (hd : a.defers = []) (hg : Rbox w t g A n c z) (hk : Dbox w k s v x) (hR : R (.returned (.tuple #[.agg #[.slice A n c, .int .i64 z], .agg #[.bool s, v, .int .i64 x], er])) w) : bodyPost Try.prog fn R .ret a w := by
  refine bodyPost_ret ?_ hd hR
  rw [results_cct h, hp, hq, hu]
  simp [asAddr, Result.andThen, run_loadVar_row w g t 39 _ _ _ hg Try.underlying39 rfl rest_size, run_loadVar_row w k _ 26 _ _ _ hk Try.underlying26 rfl dyad_size]

set_option maxHeartbeats 1600000 in
theorem mayRead_any (A : Option Addr) (n c : Nat) (p : Int) (w : World) (_hm : n ≤ 140737488355328) :
    Calls Try.prog 31 #[.agg #[.slice A n c, .int .i64 p]] w fun e w' => e = .returned (.bool (decide (0 ≤ p ∧ p ≤ n))) ∧ Hid (Below w.heap.size w w') := by
  have B0 := hid ((Below.refl w.heap.size w).alloc (Nat.le_refl _) (.cells #[.slice A n c, .int .i64 p] 39))
  have hcase : (¬ 0 ≤ p) ∨ (0 ≤ p ∧ ¬ p ≤ (n : Int)) ∨ (0 ≤ p ∧ p ≤ (n : Int)) := by omega
  rcases hcase with h1 | ⟨h1, h2⟩ | ⟨h1, h2⟩
  all_goals
    go_enter Try.func31, Try.ntmps31
    go_wp2
    go_ret
    refine ⟨?_, B0⟩
    congr 2
    simp
    try omega

set_option maxHeartbeats 1600000 in
theorem Done_any (A : Option Addr) (n c : Nat) (p : Int) (w : World) (hm : n ≤ 140737488355328) :
    Calls Try.prog 17 #[.agg #[.slice A n c, .int .i64 p]] w fun e w' => e = .returned (.bool (decide (p = n))) ∧ Hid (Below w.heap.size w w') := by
  have B0 := hid ((Below.refl w.heap.size w).alloc (Nat.le_refl _) (.cells #[.slice A n c, .int .i64 p] 39))
  have R0 : Hid (Rbox _ 39 w.heap.size A n c p) := heap_alloc_new w (.cells #[.slice A n c, .int .i64 p] 39)
  have C := mayRead_any A n c p (w.alloc (.cells #[.slice A n c, .int .i64 p] 39)) hm
  by_cases h1 : 0 ≤ p ∧ p ≤ (n : Int)
  · rw [bool_of_dec h1] at C
    have HC := hid C
    clear C
    by_cases h2 : p = (n : Int)
    · have he : (p == (n : Int)) = true := by simp [h2]
      rw [bool_of_dec h2]
      have b0 := R0.out.c0
      have b1 := R0.out.c1
      clear h1 h2
      go_enter Try.func17, Try.ntmps17
      go_wp2_with fail
      refine HC.out.mono ?_
      rintro e w1 ⟨rfl, hb⟩
      have R1 := hid (R0.out.below hb.out R0.out.lt)
      have e0 := R1.out.c0
      have e1 := R1.out.c1
      clear b0 b1
      go_wp2
      go_ret
      exact ⟨rfl, hid (B0.out.trans (hb.out.mono B0.out.size))⟩
    · have he : (p == (n : Int)) = false := by simp [h2]
      rw [bool_of_not h2]
      have b0 := R0.out.c0
      have b1 := R0.out.c1
      clear h1 h2
      go_enter Try.func17, Try.ntmps17
      go_wp2_with fail
      refine HC.out.mono ?_
      rintro e w1 ⟨rfl, hb⟩
      have R1 := hid (R0.out.below hb.out R0.out.lt)
      have e0 := R1.out.c0
      have e1 := R1.out.c1
      clear b0 b1
      go_wp2
      go_ret
      exact ⟨rfl, hid (B0.out.trans (hb.out.mono B0.out.size))⟩
  · rw [bool_of_not h1] at C
    rw [bool_of_not (fun h2 : p = (n : Int) => h1 (by omega))]
    have HC := hid C
    have b0 := R0.out.c0
    have b1 := R0.out.c1
    clear C h1
    go_enter Try.func17, Try.ntmps17
    go_wp2_with fail
    refine HC.out.mono ?_
    rintro e w1 ⟨rfl, hb⟩
    go_wp2
    go_ret
    exact ⟨rfl, hid (B0.out.trans (hb.out.mono B0.out.size))⟩

/-- The error of a number that is taken. -/
def nE (n : Nat) (p z : Int) : Int := if ¬ (0 ≤ p ∧ p ≤ n) then 8 else if ¬ (1 ≤ z ∧ z ≤ 8) then 2 else if (n : Int) < p + z then 40 else 0
/-- What a call hands back that takes a number. -/
def NRes (w : World) (n : Nat) (xs : List Nat) (p z : Int) (e : Ending) (w' : World) : Prop := ∃ A' n' c' V er, ∃ p' : Int, e = .returned (.tuple #[.agg #[.slice A' n' c', .int .i64 p'], .int .u64 ((V : Nat) : Int), .int .i64 er]) ∧
  Hid (er = nE n p z) ∧ Hid (By w' w.heap.size A' n' c' (if er = 0 then xs else [])) ∧ Hid (p' = if er = 0 then p + z else 0) ∧ Hid (V = if er = 0 then bn ((xs.drop p.toNat).take z.toNat) else 0) ∧ Hid (Below w.heap.size w w')
theorem NRes.bad {w w' : World} {n : Nat} {xs : List Nat} {p z er : Int} (he : er = nE n p z) (h0 : er ≠ 0) (hb : Below w.heap.size w w') : NRes w n xs p z (.returned (.tuple #[.agg #[.slice none 0 0, .int .i64 0], .int .u64 0, .int .i64 er])) w' :=
  ⟨none, 0, 0, 0, er, 0, rfl, he, by rw [if_neg h0]; exact By.nul _ _, by rw [if_neg h0]; exact rfl, by rw [if_neg h0]; exact rfl, hb⟩

set_option maxHeartbeats 3200000 in
theorem Number_any {w : World} {n c : Nat} {A : Option Addr} {xs : List Nat} (h : By w w.heap.size A n c xs) (p z : Int) :
    Calls Try.prog 12 #[.agg #[.slice A n c, .int .i64 p], .int .i64 z] w (NRes w n xs p z) := by
  obtain ⟨W, hW⟩ : ∃ W, W = (w.alloc (.cells #[.slice A n c, .int .i64 p] 39)).alloc (.cells #[.slice none 0 0, .int .i64 0] 39) := ⟨_, rfl⟩
  have B0 := hid (show Below w.heap.size w W from hW ▸ ((Below.refl w.heap.size w).alloc (Nat.le_refl _) _).alloc (by simp) _)
  have R0 : Hid (Rbox W 39 w.heap.size A n c p) := hid (hW ▸ (Below.heap_alloc _ _ _ (by simp)).trans (heap_alloc_new w _))
  have Z0 : Hid (Rbox W 39 (w.heap.size + 1) none 0 0 0) := hid (hW ▸ heap_alloc2_new w _ _)
  have HW := hid hW
  have HX := hid h
  have hmax := h.max
  clear hW h
  have C := mayRead_any A n c p W hmax
  have b0 := R0.out.c0
  have b1 := R0.out.c1
  by_cases h1 : 0 ≤ p ∧ p ≤ (n : Int)
  · rw [bool_of_dec h1] at C
    have HC := hid C
    obtain ⟨q, rfl⟩ : ∃ q : Nat, p = q := ⟨p.toNat, by omega⟩
    have CS := fun w => maySize_any z w
    by_cases h2 : 1 ≤ z ∧ z ≤ 8
    · obtain ⟨k, rfl⟩ : ∃ k : Nat, z = k := ⟨z.toNat, by omega⟩
      rw [bool_of_dec h2] at CS
      have HS := hid CS
      clear C CS
      go_enter Try.func12, Try.ntmps12
      go_upto_region 1 with fail
      rw [← HW.out]
      go_wp2_with fail
      refine HC.out.mono ?_
      rintro e w1 ⟨rfl, hb1⟩
      have R1 := hid (R0.out.below hb1.out R0.out.lt)
      have Z1 := hid (Z0.out.below hb1.out Z0.out.lt)
      have B1 := hid (B0.out.trans (hb1.out.mono B0.out.size))
      have e0 := R1.out.c0
      have e1 := R1.out.c1
      clear b0 b1
      go_wp2_with fail
      refine (HS.out _).mono ?_
      rintro e w2 ⟨rfl, rfl⟩
      have Z1lt := Z1.out.lt
      go_wp2_with fail
      have RR : Hid (Rbox (w1.alloc (.cells #[.slice A n c, .int .i64 (q : Int)] 64)) 64 w1.heap.size A n c (q : Int)) := heap_alloc_new w1 _
      have Ba := hid ((Below.refl w1.heap.size w1).alloc (Nat.le_refl _) (.cells #[.slice A n c, .int .i64 (q : Int)] 64))
      have hX2 := hid (HX.out.below (B1.out.trans (Ba.out.mono B1.out.size)))
      clear e0 e1
      by_cases hs : n < q + k
      · refine (next_short RR.out hs (by omega) (by omega) hmax).mono ?_
        rintro e w3 ⟨rfl, R3, hb3⟩
        have K3 := hid (Ba.out.trans (below_of_grown hb3.out (by simp)))
        have Z3 := hid (Z1.out.below K3.out Z1lt)
        have B3 := hid (B1.out.trans (K3.out.mono B1.out.size))
        have f0 := Z3.out.frozen 0
        have f1 := Z3.out.frozen 1
        have c0 := Z3.out.c0
        have c1 := Z3.out.c1
        have he : (40 : Int) = nE n q k := by unfold nE; rw [if_neg (by omega), if_neg (by omega), if_pos (by omega)]
        have HE := hid he
        clear he
        go_wp2
        refine ret_rest rfl rfl rfl rfl rfl ((Z3.out.set0 (D := none) (m := 0) (d := 0)).set1 0) ?_
        exact NRes.bad HE.out (by omega) ((B3.out.setCell (p := ⟨w.heap.size + 1, 0, none⟩) (by simp) _).setCell (p := ⟨w.heap.size + 1, 1, none⟩) (by simp) _)
      · refine (next_any RR.out hX2.out B1.out.size (by omega) (by omega)).mono ?_
        rintro e w3 ⟨rfl, R3, hb3⟩
        have K3 := hid (Ba.out.trans (below_of_grown hb3.out (by simp)))
        have Z3 := hid (Z1.out.below K3.out Z1lt)
        have B3 := hid (B1.out.trans (K3.out.mono B1.out.size))
        have f0 := Z3.out.frozen 0
        have f1 := Z3.out.frozen 1
        have c0 := Z3.out.c0
        have c1 := Z3.out.c1
        have r0 := R3.out.c0
        have r1 := R3.out.c1
        have he : (0 : Int) = nE n q k := by unfold nE; rw [if_neg (by omega), if_neg (by omega), if_neg (by omega)]
        have HE := hid he
        obtain ⟨V, hV⟩ : ∃ V, V = bn ((xs.drop q).take k) := ⟨_, rfl⟩
        rw [← hV]
        have HV := hid hV
        clear he hV
        go_wp2
        refine ret_rest rfl rfl rfl rfl rfl ((Z3.out.set0 (D := A) (m := n) (d := c)).set1 ((q + k : Nat) : Int)) ?_
        have B4 := (B3.out.setCell (p := ⟨w.heap.size + 1, 0, none⟩) (by simp) (.slice A n c)).setCell (p := ⟨w.heap.size + 1, 1, none⟩) (by simp) (.int .i64 ((q + k : Nat) : Int))
        exact ⟨A, n, c, V, 0, ((q + k : Nat) : Int), rfl, HE, by rw [if_pos rfl]; exact HX.out.below B4, by rw [if_pos rfl]; exact Int.natCast_add q k, by rw [if_pos rfl]; exact HV, B4⟩
    · rw [bool_of_not h2] at CS
      have HS := hid CS
      have HE : Hid ((2 : Int) = nE n q z) := hid (by unfold nE; rw [if_neg (by omega), if_pos h2])
      clear C CS h1 h2
      go_enter Try.func12, Try.ntmps12
      go_upto_region 1 with fail
      rw [← HW.out]
      go_wp2_with fail
      refine HC.out.mono ?_
      rintro e w1 ⟨rfl, hb1⟩
      have Z1 := hid (Z0.out.below hb1.out Z0.out.lt)
      have B1 := hid (B0.out.trans (hb1.out.mono B0.out.size))
      have f0 := Z1.out.frozen 0
      have f1 := Z1.out.frozen 1
      have c0 := Z1.out.c0
      have c1 := Z1.out.c1
      clear b0 b1
      go_wp2_with fail
      refine (HS.out _).mono ?_
      rintro e w2 ⟨rfl, rfl⟩
      go_wp2
      refine ret_rest rfl rfl rfl rfl rfl ((Z1.out.set0 (D := none) (m := 0) (d := 0)).set1 0) ?_
      exact NRes.bad HE.out (by omega) ((B1.out.setCell (p := ⟨w.heap.size + 1, 0, none⟩) (by simp) _).setCell (p := ⟨w.heap.size + 1, 1, none⟩) (by simp) _)
  · rw [bool_of_not h1] at C
    have HC := hid C
    have HE : Hid ((8 : Int) = nE n p z) := hid (by unfold nE; rw [if_pos h1])
    clear C h1
    go_enter Try.func12, Try.ntmps12
    go_upto_region 1 with fail
    rw [← HW.out]
    go_wp2_with fail
    refine HC.out.mono ?_
    rintro e w1 ⟨rfl, hb1⟩
    have Z1 := hid (Z0.out.below hb1.out Z0.out.lt)
    have B1 := hid (B0.out.trans (hb1.out.mono B0.out.size))
    have f0 := Z1.out.frozen 0
    have f1 := Z1.out.frozen 1
    have c0 := Z1.out.c0
    have c1 := Z1.out.c1
    clear b0 b1
    go_wp2
    refine ret_rest rfl rfl rfl rfl rfl ((Z1.out.set0 (D := none) (m := 0) (d := 0)).set1 0) ?_
    exact NRes.bad HE.out (by omega) ((B1.out.setCell (p := ⟨w.heap.size + 1, 0, none⟩) (by simp) _).setCell (p := ⟨w.heap.size + 1, 1, none⟩) (by simp) _)

end Go.Proofs.Ytmaggpigodkhhaa
