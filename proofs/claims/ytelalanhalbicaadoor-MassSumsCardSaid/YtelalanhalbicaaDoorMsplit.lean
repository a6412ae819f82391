/- Package mass: Split. -/
import Derived.Test.YtelalanhalbicaaDoorMadd
namespace Go.Proofs.YtelalanhalbicaaDoor
open Go.RowKit Go.Shelf

theorem yields_mload {ops : Array Oper} {S : World → Prop} {o : Oper} {a : Act} (hw : Region.wanted o (yielded ops a.tmps) = true) (x : Operand) (ho : o.op = .load 26 x)
    (g : Nat) (D : Nat → Dy) (hx : a.eval x = .pointer (some ⟨g, 0, none⟩)) (hS : ∀ w, S w → Mbox w g D) : YieldsIf Tryd.prog ops S o (.agg (mcells D)) a :=
  .inl ⟨hw, fun w hw' => by
    unfold execOp
    simp only [ho, hx, Instr.loadAt, Instr.sureAddr, Sem.run_bind, Sem.run_pure, Result.andThen_ok, run_loadVar_row w g _ 26 _ _ _ (hS w hw') Tryd.underlying26 rfl (mass_size_ D)]⟩
theorem wp1_mstore {o : Oper} {a : Act} {w : World} {K : Act → World → Prop} {Q : Exit → Act → World → Prop} (x y : Operand) (ho : o.op = .store 26 x y)
    (g : Nat) (D E : Nat → Dy) (hx : a.eval x = .pointer (some ⟨g, 0, none⟩)) (hy : a.eval y = .agg (mcells E)) (hg : Mbox w g D) (h : K (a.put o.dst undef) (mstore w g E)) : o.wp Tryd.prog a w K Q :=
  wp_store_mid _ x y ho g 0 (mcells E) hx hy (hg.there E) (mass_size_ E) (mcells_one E) h
theorem results_cct {fn : Func} {p q u : Tmp} {ty tz : TypeId} (h : fn.results = #[.cell p ty, .cell q tz, .tmp u]) (tmps : Array Value) (P : Program) (w : World) :
    (results fn tmps).run P w =
      ((asAddr (tmps.getD p undef)).run P w).andThen fun a w₁ => ((loadVar ty a).run P w₁).andThen fun x w₂ => ((asAddr (tmps.getD q undef)).run P w₂).andThen fun b w₃ => ((loadVar tz b).run P w₃).andThen fun y w₄ => .ok (.tuple #[x, y, tmps.getD u undef]) w₄ := by
  simp only [results, h]
  simp [Sem.run_bind, Result.andThen]
theorem ret_masses {fn : Func} {R : Ending → World → Prop} {a : Act} {w : World} {p q u : Tmp} {g k : Nat} {D E : Nat → Dy} {er : Value} (h : fn.results = #[.cell p 26, .cell q 26, .tmp u]) (hp : a.tmps.getD p undef = .pointer (some ⟨g, 0, none⟩)) (hq : a.tmps.getD q undef = .pointer (some ⟨k, 0, none⟩)) (hu : a.tmps.getD u undef = er)
    (hd : a.defers = []) (hg : Mbox w g D) (hk : Mbox w k E) (hR : R (.returned (.tuple #[.agg (mcells D), .agg (mcells E), er])) w) : bodyPost Tryd.prog fn R .ret a w := by
  refine bodyPost_ret ?_ hd hR
  have e1 := run_loadVar_row w g _ 26 _ _ _ hg Tryd.underlying26 rfl (mass_size_ D)
  have e2 := run_loadVar_row w k _ 26 _ _ _ hk Tryd.underlying26 rfl (mass_size_ E)
  rw [results_cct h, hp, hq, hu]
  simp only [asAddr, Result.andThen, Sem.run_pure, e1, e2]
theorem Mbox.at_ {w : World} {g : Nat} {D : Nat → Dy} (h : Mbox w g D) (j : Nat) (v : Value) (hv : (mcells D)[j]? = some v) : w.cell? ⟨g, j, none⟩ = some v := by
  rw [cell_of_row w g j _ _ (0, 0) h]
  exact hv
theorem ite_go {c P Q : Prop} [Decidable c] (hc : c) (h : P) : if c then P else Q := by rw [if_pos hc]; exact h
/-- Four of a kind. -/
def of4 {α : Type} (a b c d : α) : Nat → α
  | 0 => a
  | 1 => b
  | 2 => c
  | _ => d
theorem all_of4 {P : Nat → Prop} (h0 : P 0) (h1 : P 1) (h2 : P 2) (h3 : P 3) : ∀ k, k < 4 → P k := fun k hk => by
  have hc : k = 0 ∨ k = 1 ∨ k = 2 ∨ k = 3 := by omega
  rcases hc with rfl | rfl | rfl | rfl <;> assumption
/-- The dyad of nothing. -/
abbrev d0 : Dy := ⟨false, none, 0, 0, 0, fun _ => 0⟩
/-- The error of a split. -/
def Serr (p : Prop) (H0 H1 : Int) (er : Int) : Prop := (p → ((Okay H0 ∧ Okay H1) ∧ er = 0) ∨ (¬ (Okay H0 ∧ Okay H1) ∧ er = 10)) ∧ (¬ p → er = 8)
/-- What a split hands back: what is kept lies in memory that was made behind what is sent. -/
def SRes (w : World) (p : Prop) (M : Nat → Int) (H0 H1 : Int) (e : Ending) (w' : World) : Prop :=
  ∃ K S er, e = .returned (.tuple #[.agg (mcells K), .agg (mcells S), .int .i64 er]) ∧ Hid (Serr p H0 H1 er) ∧
    Hid (∃ B, w.heap.size ≤ B ∧ Mow B w' (resM er (of4 H0 H1 (M 2) (M 3))) K ∧ Mow w.heap.size w' (resM er (of4 H0 H1 0 0)) S ∧ Mrd w' B S) ∧ Hid (Below w.heap.size w w')

/-- What the last statement keeps. -/
def SpS (w : World) (g k B : Nat) (MK MS : Nat → Int) (K S : Nat → Dy) (X : World) : Prop :=
  Mbox X g K ∧ Mbox X k S ∧ Mow B X MK K ∧ Mow w.heap.size X MS S ∧ Mrd X B S ∧ Below w.heap.size w X ∧ w.heap.size ≤ g ∧ w.heap.size ≤ k ∧ g < B ∧ k < B ∧ g < k
theorem Mrd.grown_ {B r : Nat} {X Y : World} {S : Nat → Dy} {MS : Nat → Int} {C : Nat} (h : Mrd X B S) (ho : Mow C X MS S) (hg : X.grownBy Y (some r)) (hr : r < C) : Mrd Y B S := fun k hk =>
  ⟨(h k hk).cap, (h k hk).max, (h k hk).lt, (h k hk).out, fun hn => by
    obtain ⟨b, off, hA, hB, hc⟩ := (h k hk).at_ hn
    refine ⟨b, off, hA, hB, fun j hj => ?_⟩
    have hne : b ≠ r := by
      rcases (ho k hk).lim.own with ⟨_, h0, _⟩ | ⟨g, cs, hA2, hB2, _⟩
      · omega
      · rw [hA2] at hA
        injection hA with hA
        injection hA with hA
        omega
    have hlt : b < X.heap.size := block_lt_of_cell (hc j hj)
    rw [← hc j hj]
    exact World.cell?_of_block (hg.block b hlt (by intro e; injection e with e; exact hne e))⟩

theorem Mrd.zero (B : Nat) (w : World) : Mrd w B D0 := fun _ _ => Rd.nil w B
theorem drew_below (B : Nat) (w : World) : Below B w w.drew := (Below.refl B w).drew
theorem SpS.drew_ {w : World} {g k B C : Nat} {MK MS : Nat → Int} {K S : Nat → Dy} {X : World} (h : SpS w g k B MK MS K S X ∧ Mow C X MS S) : SpS w g k B MK MS K S X.drew ∧ Mow C X.drew MS S := by
  obtain ⟨⟨a1, a2, a3, a4, a5, a6, a7, a8, a9, a10, a11⟩, h2⟩ := h
  exact ⟨⟨a1, a2, a3.below (drew_below _ _), a4.below (drew_below _ _), a5.below (drew_below _ _), a6.drew, a7, a8, a9, a10, a11⟩, h2.below (drew_below _ _)⟩

theorem SpS.put {w : World} {g k B C : Nat} {MK MS : Nat → Int} {K S : Nat → Dy} {X Y : World} {r : Nat} (h : SpS w g k B MK MS K S X) (hS : Mow C X MS S) (hC : w.heap.size ≤ C) (hgC : g < C) (hkC : k < C) (hg : X.grownBy Y (some r)) (hr : r = g ∨ r = k) (h1 : Mbox Y g K) (h2 : Mbox Y k S) : SpS w g k B MK MS K S Y ∧ Mow C Y MS S := by
  obtain ⟨a1, a2, a3, a4, a5, a6, a7, a8, a9, a10, a11⟩ := h
  have hS2 : Mow C Y MS S := fun j hj => (hS j hj).grown hg (by omega)
  exact ⟨⟨h1, h2, fun j hj => (a3 j hj).grown hg (by omega), fun j hj => (hS2 j hj).mono hC, a5.grown_ hS hg (by omega), below_row a6 hg a6.size (by omega), a7, a8, a9, a10, a11⟩, hS2⟩


set_option maxRecDepth 100000 in
set_option maxHeartbeats 3200000 in
theorem msplit_any {w : World} {q : Nat → Prop} {M : Nat → Int} {D : Nat → Dy} (h : Mar w q M D) (hT : Tab w) :
    Calls Tryd.prog 11 #[.agg (mcells D)] w fun e w' => ∃ H0 H1 : Int, (All4 q → 2 * H0 = M 0 ∧ 2 * H1 = M 1) ∧ SRes w (All4 q) M H0 H1 e w' := by
  obtain ⟨W, hW⟩ : ∃ W, W = ((w.alloc (.cells (mcells D) 26)).alloc (.cells #[.bool false, .slice none 0 0, .int .i64 0, .bool false, .slice none 0 0, .int .i64 0, .bool false, .slice none 0 0, .int .i64 0, .bool false, .slice none 0 0, .int .i64 0] 26)).alloc (.cells #[.bool false, .slice none 0 0, .int .i64 0, .bool false, .slice none 0 0, .int .i64 0, .bool false, .slice none 0 0, .int .i64 0, .bool false, .slice none 0 0, .int .i64 0] 26) := ⟨_, rfl⟩
  have B0 := hid (show Below w.heap.size w W from hW ▸ (((Below.refl _ w).alloc (Nat.le_refl _) _).alloc (by simp) _).alloc (by simp; omega) _)
  have P0 : Hid (Mbox W w.heap.size D) := hid (hW ▸ ((show Mbox (w.alloc _) w.heap.size D from new_at rfl).alloc _).alloc _)
  have P1 : Hid (Mbox W (w.heap.size + 1) D0) := hid (hW ▸ (show Mbox ((w.alloc _).alloc _) (w.heap.size + 1) D0 from new_at (by simp)).alloc _)
  have P2 : Hid (Mbox W (w.heap.size + 1 + 1) D0) := hid (hW ▸ (show Mbox (((w.alloc _).alloc _).alloc _) (w.heap.size + 2) D0 from new_at (by simp)))
  have HW := hid hW
  have HTb := hid hT
  have HR := hid h
  have CC := hid (mcheck_any (M := D) ((h.below B0.out).mrd))
  clear hW hT h
  by_cases hq : All4 q
  · obtain ⟨HH, hH⟩ := halves_of HR.out hq
    have HHid := hid hH
    have HQ := hid hq
    have HOl := hid (And.intro (hH 0 (by omega)) (hH 1 (by omega)))
    clear hH hq
    go_enter Tryd.func11, Tryd.ntmps11
    go_upto_region 1 with fail
    rw [← HW.out]
    go_wp2_with (first
      | (with_reducible refine wp_mload rfl (.tmp 1) rfl w.heap.size D rfl P0.out ?_)
      | fail)
    refine CC.out.mono ?_
    rintro e W2 ⟨er, rfl, hEr, _, hbel⟩
    obtain rfl : er = 0 := hEr.out.2 (HR.out.may.1 HQ.out)
    have B2 := hid (B0.out.trans (hbel.out.mono B0.out.size))
    have Q0 := hid (P0.out.below hbel.out P0.out.lt)
    have Q1 := hid (P1.out.below hbel.out P1.out.lt)
    have Q2 := hid (P2.out.below hbel.out P2.out.lt)
    have a0 := Q0.out.at_ 0 _ rfl
    have a1 := Q0.out.at_ 1 _ rfl
    have a2 := Q0.out.at_ 2 _ rfl
    have a3 := Q0.out.at_ 3 _ rfl
    have a4 := Q0.out.at_ 4 _ rfl
    have a5 := Q0.out.at_ 5 _ rfl
    have R2 := HR.out.below B2.out
    have CH := mhalved_any (w := W2) (D := of4 (D 0) (D 1) d0 d0) (q := fun _ => True) (M := of4 (M 0) (M 1) 0 0) (H := of4 (HH 0) (HH 1) 0 0)
      (all_of4 (P := fun k => Dyr W2 True (of4 (M 0) (M 1) 0 0 k) (of4 (D 0) (D 1) d0 d0 k)) (Dyr.sure (R2 0 (by omega)) (HQ.out 0 (by omega))) (Dyr.sure (R2 1 (by omega)) (HQ.out 1 (by omega))) (Dyr.zero _) (Dyr.zero _))
      (fun _ _ => trivial) (all_of4 (P := fun k => 2 * of4 (HH 0) (HH 1) 0 0 k = of4 (M 0) (M 1) 0 0 k) HOl.out.1 HOl.out.2 rfl rfl) (HTb.out.below B2.out HTb.out.lt)
    have CH : Hid (Calls Tryd.prog 32 #[.agg #[.bool (D 0).s, .slice (D 0).A (D 0).n (D 0).c, .int .i64 (D 0).x, .bool (D 1).s, .slice (D 1).A (D 1).n (D 1).c, .int .i64 (D 1).x, .bool false, .slice none 0 0, .int .i64 0, .bool false, .slice none 0 0, .int .i64 0]] W2 _) := hid CH
    clear hEr hbel CC R2
    go_wp2_with fail
    refine CH.out.mono ?_
    rintro e W3 ⟨S, er, rfl, HE, HM, hbel⟩
    have B3 := hid (B2.out.trans (hbel.out.mono B2.out.size))
    have S0 := hid (Q0.out.below hbel.out Q0.out.lt)
    have S1 := hid (Q1.out.below hbel.out Q1.out.lt)
    have S2 := hid (Q2.out.below hbel.out Q2.out.lt)
    have Hsz2 := hid (show w.heap.size + 3 ≤ W2.heap.size from by have := Q2.out.lt; omega)
    clear a0 a1 a2 a3 a4 a5 CH
    have HEc := HE.out
    rcases HEc with ⟨hok, rfl⟩ | ⟨hno, rfl⟩
    · have HOk := hid hok
      have HM := HM.out
      rw [resM_ok rfl] at HM
      have HS := hid HM
      clear hok HM
      have gs := grown_mstore W3 (w.heap.size + 1 + 1) S
      have T2 := hid (S2.out.store S)
      have T0 := hid (S0.out.grown gs (by omega))
      have T1 := hid (S1.out.grown gs (by omega))
      have HSo := hid (show Mow W2.heap.size (mstore W3 (w.heap.size + 1 + 1) S) _ S from fun k hk => (HS.out k hk).grown gs (by have := Hsz2.out; omega))
      have B4 := hid (below_row B3.out gs B3.out.size (by omega))
      obtain ⟨W4, hW4⟩ : ∃ W4, W4 = mstore W3 (w.heap.size + 1 + 1) S := ⟨_, rfl⟩
      have HW4 := hid hW4
      rw [← hW4] at T0 T1 T2 HSo B4
      clear gs hW4
      have a0 := T2.out.at_ 0 _ rfl
      have a1 := T2.out.at_ 1 _ rfl
      have a2 := T2.out.at_ 2 _ rfl
      have a3 := T2.out.at_ 3 _ rfl
      have a4 := T2.out.at_ 4 _ rfl
      have a5 := T2.out.at_ 5 _ rfl
      have a6 := T0.out.at_ 6 _ rfl
      have a7 := T0.out.at_ 7 _ rfl
      have a8 := T0.out.at_ 8 _ rfl
      have a9 := T0.out.at_ 9 _ rfl
      have a10 := T0.out.at_ 10 _ rfl
      have a11 := T0.out.at_ 11 _ rfl
      have R4 := HR.out.below B4.out
      have hMr : Mar W4 (fun _ => True) (of4 (HH 0) (HH 1) (M 2) (M 3)) (of4 (S 0) (S 1) (D 2) (D 3)) :=
        all_of4 (P := fun k => Dyr W4 True (of4 (HH 0) (HH 1) (M 2) (M 3) k) (of4 (S 0) (S 1) (D 2) (D 3) k)) (HSo.out 0 (by omega)).read (HSo.out 1 (by omega)).read (Dyr.sure (R4 2 (by omega)) (HQ.out 2 (by omega))) (Dyr.sure (R4 3 (by omega)) (HQ.out 3 (by omega)))
      have CT := mtwin_any (w := W4) (M := of4 (S 0) (S 1) (D 2) (D 3)) hMr.mrd (fun k hk => (hMr k hk).nil) (fun k hk => by have := ((hMr k hk).may.1 trivial).1.1; omega)
      have CT : Hid (Calls Tryd.prog 15 #[.agg #[.bool (S 0).s, .slice (S 0).A (S 0).n (S 0).c, .int .i64 (S 0).x, .bool (S 1).s, .slice (S 1).A (S 1).n (S 1).c, .int .i64 (S 1).x, .bool (D 2).s, .slice (D 2).A (D 2).n (D 2).c, .int .i64 (D 2).x, .bool (D 3).s, .slice (D 3).A (D 3).n (D 3).c, .int .i64 (D 3).x]] W4 _) := hid CT
      have HMr := hid hMr
      clear hMr R4
      go_upto_region 4 with (first
        | (with_reducible refine wp_mstore rfl (.tmp 3) (.tmp 17) rfl (w.heap.size + 1 + 1) D0 S rfl rfl S2.out ?_; rw [← HW4.out])
        | fail)
      go_wp2_with fail
      refine CT.out.mono ?_
      rintro e W5 ⟨K, rfl, HK, hbel5⟩
      have B5 := hid (B4.out.trans (hbel5.out.mono B4.out.size))
      have U1 := hid (T1.out.below hbel5.out T1.out.lt)
      have U2 := hid (T2.out.below hbel5.out T2.out.lt)
      have HSr := hid (show Mrd W5 W4.heap.size S from fun k hk => ((HSo.out k hk).lim.rd.below hbel5.out))
      have HSo5 := hid (HSo.out.below hbel5.out)
      have HKo : Hid (Mow W4.heap.size W5 (of4 (HH 0) (HH 1) (M 2) (M 3)) K) := hid (fun k hk => (HK.out k hk).mow (HMr.out k hk) trivial)
      have Hsz4 := hid (show W2.heap.size ≤ W4.heap.size from by rw [HW4.out]; exact Nat.le_trans hbel.out.size (grown_mstore W3 _ S).size)
      clear a0 a1 a2 a3 a4 a5 a6 a7 a8 a9 a10 a11 CT
      go_upto_region 7 with (first
        | (with_reducible refine wp_mstore rfl (.tmp 2) (.tmp 33) rfl (w.heap.size + 1) D0 K rfl rfl U1.out ?_)
        | fail)
      have g5 := grown_mstore W5 (w.heap.size + 1) K
      have hInit : SpS w (w.heap.size + 1) (w.heap.size + 1 + 1) W4.heap.size (of4 (HH 0) (HH 1) (M 2) (M 3)) (of4 (HH 0) (HH 1) 0 0) K S (mstore W5 (w.heap.size + 1) K) ∧ Mow W2.heap.size (mstore W5 (w.heap.size + 1) K) (of4 (HH 0) (HH 1) 0 0) S := by
        have e2 := Hsz2.out
        have e4 := Hsz4.out
        refine ⟨⟨U1.out.store K, U2.out.grown g5 (by omega), fun j hj => (HKo.out j hj).grown g5 (by omega), fun j hj => ((HSo5.out j hj).grown g5 (by omega)).mono (by omega), Mrd.grown_ HSr.out HSo5.out g5 (by omega), below_row B5.out g5 B5.out.size (by omega), by omega, by omega, by omega, by omega, by omega⟩, fun j hj => (HSo5.out j hj).grown g5 (by omega)⟩
      obtain ⟨W6, hW6⟩ : ∃ W6, W6 = mstore W5 (w.heap.size + 1) K := ⟨_, rfl⟩
      rw [← hW6] at hInit
      rw [← hW6]
      have HI := hid hInit
      clear hW6 g5 hInit
      have HKeep : Hid (∀ X Y r, (SpS w (w.heap.size + 1) (w.heap.size + 1 + 1) W4.heap.size (of4 (HH 0) (HH 1) (M 2) (M 3)) (of4 (HH 0) (HH 1) 0 0) K S X ∧ Mow W2.heap.size X (of4 (HH 0) (HH 1) 0 0) S) → X.grownBy Y (some r) → (r = w.heap.size + 1 ∨ r = w.heap.size + 1 + 1) → Mbox Y (w.heap.size + 1) K → Mbox Y (w.heap.size + 1 + 1) S →
          (SpS w (w.heap.size + 1) (w.heap.size + 1 + 1) W4.heap.size (of4 (HH 0) (HH 1) (M 2) (M 3)) (of4 (HH 0) (HH 1) 0 0) K S Y ∧ Mow W2.heap.size Y (of4 (HH 0) (HH 1) 0 0) S)) :=
        hid fun X Y r hX hg hr h1 h2 => hX.1.put hX.2 (by have := Hsz2.out; omega) (by have := Hsz2.out; omega) (by have := Hsz2.out; omega) hg hr h1 h2
      refine wp_region_held_drew (S := fun X => SpS w (w.heap.size + 1) (w.heap.size + 1 + 1) W4.heap.size (of4 (HH 0) (HH 1) (M 2) (M 3)) (of4 (HH 0) (HH 1) 0 0) K S X ∧ Mow W2.heap.size X (of4 (HH 0) (HH 1) 0 0) S) (by kernel_rfl) (SpS.drew_ HI.out) (fun hHeld => ?_)
      refine wpAnyH_take (i := 0) rfl (by kernel_rfl) (by kernel_rfl) (by kernel_rfl) (fun _ _ _ h => h) (yields_mload (by rfl) (.tmp 2) rfl (w.heap.size + 1) K rfl (fun X hX => hX.1.1)) hHeld ?_
      (try simp only [Act.put, List.setIfInBounds_toArray, List.set_cons_zero, List.set_cons_succ, List.getElem_toArray, List.getElem_cons_zero])
      refine wpAnyH_take (i := 1) rfl (by kernel_rfl) (by kernel_rfl) (by kernel_rfl) (fun _ _ _ h => h) (yields_mload (by rfl) (.tmp 3) rfl (w.heap.size + 1 + 1) S rfl (fun X hX => hX.1.2.1)) hHeld ?_
      (try simp only [Act.put, List.setIfInBounds_toArray, List.set_cons_zero, List.set_cons_succ, List.getElem_toArray, List.getElem_cons_succ, List.getElem_cons_zero])
      refine wpAnyH_ready (rs := [2]) (by kernel_rfl) (by simp) ?_
      refine AllReadyH.cons rfl (fun K' hK => ?_) AllReadyH.nil
      (try simp only [List.getElem_toArray, List.getElem_cons_succ, List.getElem_cons_zero])
      refine ite_go (by kernel_rfl) ?_
      refine wp1_mstore (.tmp 2) (.tmp 34) rfl (w.heap.size + 1) K K rfl rfl hHeld.1.1 ?_
      refine hK.out _ _ (HKeep.out _ _ _ hHeld (grown_mstore _ _ K) (.inl rfl) (hHeld.1.1.store K) (hHeld.1.2.1.grown (grown_mstore _ _ K) (by omega))) (fun hHeld => ?_)
      clear hK K'
      generalize mstore W6.drew (w.heap.size + 1) K = W7 at *
      (try simp only [Act.put])
      refine wpAnyH_ready (rs := [3]) (by kernel_rfl) (by simp) ?_
      refine AllReadyH.cons rfl (fun K' hK => ?_) AllReadyH.nil
      (try simp only [List.getElem_toArray, List.getElem_cons_succ, List.getElem_cons_zero])
      refine ite_go (by kernel_rfl) ?_
      refine wp1_mstore (.tmp 3) (.tmp 35) rfl (w.heap.size + 1 + 1) S S rfl rfl hHeld.1.2.1 ?_
      refine hK.out _ _ (HKeep.out _ _ _ hHeld (grown_mstore _ _ S) (.inr rfl) (hHeld.1.1.grown (grown_mstore _ _ S) (by omega)) (hHeld.1.2.1.store S)) (fun hHeld => ?_)
      clear hK K'
      generalize mstore W7 (w.heap.size + 1 + 1) S = W8 at *
      (try simp only [Act.put])
      refine wpAnyH_take (i := 4) (v := ?v1) rfl (by kernel_rfl) (by kernel_rfl) (by kernel_rfl) (fun _ _ _ h => h) (Or.inl ⟨by rfl, ?y1⟩) (by assumption) ?r1
      case y1 => (intro w0 hSw; (try dsimp only at hSw); (try simp only [List.getElem_toArray, List.getElem_cons_succ, List.getElem_cons_zero]); go_simp; try with_reducible rfl)
      (try simp only [Act.put, List.setIfInBounds_toArray, List.set_cons_zero, List.set_cons_succ, List.getElem_toArray, List.getElem_cons_succ, List.getElem_cons_zero])
      refine wpAnyH_done (by kernel_rfl) ?_ _
      obtain ⟨⟨b1, b2, b3, b4, b5, b6, -⟩, -⟩ := hHeld
      have HFin := hid (And.intro b1 (And.intro b2 (And.intro b3 (And.intro b4 (And.intro b5 b6)))))
      clear b1 b2 b3 b4 b5 b6
      go_wp2
      refine ret_masses rfl rfl rfl rfl rfl HFin.out.1 HFin.out.2.1 ⟨HH 0, HH 1, fun _ => HOl.out, K, S, 0, rfl, ⟨fun _ => .inl ⟨⟨HOk.out 0 (by omega), HOk.out 1 (by omega)⟩, rfl⟩, fun hn => absurd HQ.out hn⟩, ⟨W4.heap.size, B4.out.size, ?_, ?_, HFin.out.2.2.2.2.1⟩, HFin.out.2.2.2.2.2⟩
      · rw [resM_ok rfl]; exact HFin.out.2.2.1
      · rw [resM_ok rfl]; exact HFin.out.2.2.2.1
    · have HNo : Hid (¬ (Okay (HH 0) ∧ Okay (HH 1))) := hid (fun h => hno (all_of4 (P := fun k => Okay (of4 (HH 0) (HH 1) 0 0 k)) h.1 h.2 okay_zero okay_zero))
      have gs := grown_mstore W3 (w.heap.size + 1 + 1) S
      have T2 := hid (S2.out.store S)
      have T1 := hid (S1.out.grown gs (by omega))
      have B4 := hid (below_row B3.out gs B3.out.size (by omega))
      have gt := grown_mstore (mstore W3 (w.heap.size + 1 + 1) S) (w.heap.size + 1) D0
      have V1 := hid (T1.out.store D0)
      have V2 := hid (T2.out.grown gt (by omega))
      have B5 := hid (below_row B4.out gt B4.out.size (by omega))
      have gu := grown_mstore (mstore (mstore W3 (w.heap.size + 1 + 1) S) (w.heap.size + 1) D0) (w.heap.size + 1 + 1) D0
      have X1 := hid (V1.out.grown gu (by omega))
      have X2 := hid (V2.out.store D0)
      have B6 := hid (below_row B5.out gu B5.out.size (by omega))
      clear gs gt gu hno
      go_wp2_with (first
        | (with_reducible refine wp_mstore rfl (.tmp 3) (.tmp 17) rfl (w.heap.size + 1 + 1) D0 S rfl rfl S2.out ?_)
        | (with_reducible refine wp_mzero rfl (.tmp 2) (.tmp 21) rfl (w.heap.size + 1) D0 rfl rfl T1.out ?_)
        | (with_reducible refine wp_mzero rfl (.tmp 3) (.tmp 22) rfl (w.heap.size + 1 + 1) S rfl rfl V2.out ?_)
        | fail)
      refine ret_masses rfl rfl rfl rfl rfl X1.out X2.out ⟨HH 0, HH 1, fun _ => HOl.out, D0, D0, 10, rfl, ⟨fun _ => .inr ⟨HNo.out, rfl⟩, fun hn => absurd HQ.out hn⟩, ⟨w.heap.size, Nat.le_refl _, Mow.zero _ _, Mow.zero _ _, Mrd.zero _ _⟩, B6.out⟩
  · have HN := hid hq
    clear hq
    go_enter Tryd.func11, Tryd.ntmps11
    go_upto_region 1 with fail
    rw [← HW.out]
    go_wp2_with (first
      | (with_reducible refine wp_mload rfl (.tmp 1) rfl w.heap.size D rfl P0.out ?_)
      | fail)
    refine CC.out.mono ?_
    rintro e W2 ⟨er, rfl, hEr, hEr2, hbel⟩
    obtain rfl : er = 8 := by
      rcases hEr2.out with rfl | rfl
      · exact absurd (HR.out.may.2 (hEr.out.1 rfl)) HN.out
      · rfl
    have B2 := hid (B0.out.trans (hbel.out.mono B0.out.size))
    have Q1 := hid (P1.out.below hbel.out P1.out.lt)
    have Q2 := hid (P2.out.below hbel.out P2.out.lt)
    have gt := grown_mstore W2 (w.heap.size + 1) D0
    have V1 := hid (Q1.out.store D0)
    have V2 := hid (Q2.out.grown gt (by omega))
    have B5 := hid (below_row B2.out gt B2.out.size (by omega))
    have gu := grown_mstore (mstore W2 (w.heap.size + 1) D0) (w.heap.size + 1 + 1) D0
    have X1 := hid (V1.out.grown gu (by omega))
    have X2 := hid (V2.out.store D0)
    have B6 := hid (below_row B5.out gu B5.out.size (by omega))
    clear gt gu hEr hEr2 hbel CC
    go_wp2_with (first
      | (with_reducible refine wp_mzero rfl (.tmp 2) (.tmp 8) rfl (w.heap.size + 1) D0 rfl rfl Q1.out ?_)
      | (with_reducible refine wp_mzero rfl (.tmp 3) (.tmp 9) rfl (w.heap.size + 1 + 1) D0 rfl rfl V2.out ?_)
      | fail)
    refine ret_masses rfl rfl rfl rfl rfl X1.out X2.out ⟨0, 0, fun h => absurd h HN.out, D0, D0, 8, rfl, ⟨fun h => absurd h HN.out, fun _ => rfl⟩, ⟨w.heap.size, Nat.le_refl _, Mow.zero _ _, Mow.zero _ _, Mrd.zero _ _⟩, B6.out⟩

end Go.Proofs.YtelalanhalbicaaDoor
