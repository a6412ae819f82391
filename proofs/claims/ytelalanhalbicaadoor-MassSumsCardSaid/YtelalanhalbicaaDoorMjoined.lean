/- Package mass: joined, over dyad.Add and over dyad.Sub. -/
import Derived.Test.YtelalanhalbicaaDoorMhalved
import Derived.Test.YtelalanhalbicaaDoorMpairs
namespace Go.Proofs.YtelalanhalbicaaDoor
open Go.RowKit Go.Shelf
attribute [local go_sem] Oper.semAt_some

theorem new_at {w : World} {o : Obj} {g : Nat} (hg : g = w.heap.size) : (w.alloc o).heap[g]? = some o := by
  subst hg
  exact heap_alloc_new w o
theorem Boxed.alloc_ {W : World} {B : Nat} {t : TypeId} {v : Value} (h : Boxed W B t v) (o : Obj) : Boxed (W.alloc o) B t v := (Below.heap_alloc W o B h.lt).trans h
/-- What the loop keeps: the parts that were gone through are joined; and where it returns. -/
def JoI (w : World) (H : Nat → Int) (D E : Nat → Dy) (F : Nat) (Z : Nat) (pre : List (Idx 4)) (X : World) : Prop :=
  Mbox X (w.heap.size + 1) E ∧ Boxed X (w.heap.size + 2) 53 (.func (.func F) #[] #[]) ∧ Mbox X (w.heap.size + 3) D0 ∧ Boxed X (w.heap.size + 4) 29 (.int .i64 0) ∧ Below w.heap.size w X ∧
    ∃ R, Mbox X w.heap.size R ∧ (∀ k, k < 4 → k < pre.length → Owd Z X (H k) (R k) ∧ Okay (H k)) ∧ ∀ k, k < 4 → ¬ k < pre.length → R k = D k
def JoX (w : World) (H : Nat → Int) (X : World) : Prop := Mbox X (w.heap.size + 3) D0 ∧ Boxed X (w.heap.size + 4) 29 (.int .i64 10) ∧ Below w.heap.size w X ∧ ∃ k, k < 4 ∧ ¬ Okay (H k)

set_option maxRecDepth 100000 in
set_option maxHeartbeats 4000000 in
theorem mjoined_add {w : World} {q p : Nat → Prop} {M N H : Nat → Int} {D E : Nat → Dy} (h : Mar w q M D) (h2 : Mar w p N E) (hq : All4 q) (hp : All4 p) (hH : ∀ k, k < 4 → M k + N k = H k) (hT : Tab w) :
    Calls Tryd.prog 26 #[.agg (mcells D), .agg (mcells E), .func (.func 27) #[] #[]] w (MRes w (Merr H) H) := by
  obtain ⟨W, hW⟩ : ∃ W, W = ((((w.alloc (.cells (mcells D) 26)).alloc (.cells (mcells E) 26)).alloc (.cells #[.func (.func 27) #[] #[]] 53)).alloc (.cells #[.bool false, .slice none 0 0, .int .i64 0, .bool false, .slice none 0 0, .int .i64 0, .bool false, .slice none 0 0, .int .i64 0, .bool false, .slice none 0 0, .int .i64 0] 26)).alloc (.cells #[.int .i64 0] 29) := ⟨_, rfl⟩
  have B0 := hid (show Below w.heap.size w W from hW ▸ (((((Below.refl _ w).alloc (Nat.le_refl _) _).alloc (by simp) _).alloc (by simp; omega) _).alloc (by simp; omega) _).alloc (by simp; omega) _)
  have P0 : Hid (Mbox W w.heap.size D) := hid (hW ▸ ((((show Mbox (w.alloc _) w.heap.size D from new_at rfl).alloc _).alloc _).alloc _).alloc _)
  have P1 : Hid (Mbox W (w.heap.size + 1) E) := hid (hW ▸ (((show Mbox ((w.alloc _).alloc _) (w.heap.size + 1) E from new_at (by simp)).alloc _).alloc _).alloc _)
  have P2 : Hid (Boxed W (w.heap.size + 2) 53 (.func (.func 27) #[] #[])) := hid (hW ▸ (Boxed.alloc_ (Boxed.alloc_ (show Boxed (((w.alloc _).alloc _).alloc _) (w.heap.size + 2) _ _ from new_at (by simp)) _) _))
  have P3 : Hid (Mbox W (w.heap.size + 3) D0) := hid (hW ▸ ((show Mbox ((((w.alloc _).alloc _).alloc _).alloc _) (w.heap.size + 3) D0 from new_at (by simp)).alloc _))
  have P4 : Hid (Boxed W (w.heap.size + 4) 29 (.int .i64 0)) := hid (hW ▸ (new_at (by simp)))
  have HR := hid h
  have HR2 := hid h2
  have HW := hid hW
  have HQ := hid hq
  have HP := hid hp
  have HH := hid hH
  have HTb := hid hT
  clear hW h h2 hq hp hH hT
  refine (callsIn_wide (n := 9)).1 ?_
  refine callsIn_of_wp_marks Tryd.func26 rfl trivial (wpIn_wide.2 ?_) rfl
  simp only [Tryd.ntmps26, List.size_toArray, List.length_cons, List.length_nil, Nat.reduceAdd, Nat.reduceSub, Array.replicate_succ, Array.replicate_zero, List.push_toArray, List.append_toArray, List.nil_append, List.cons_append]
  go_upto_region 1 with fail
  rw [← HW.out]
  go_wp2_with fail
  refine (callsIn_wide.1 (pairs_any 9 w.heap.size (w.heap.size + 1) W)).mono ?_
  rintro e W1 ⟨rfl, hW1⟩
  have bS : Boxed W1 W.heap.size 63 (.pointer (some ⟨w.heap.size, 0, none⟩)) := by rw [hW1]; exact heap_alloc2_old W _ _
  have bT : Boxed W1 (W.heap.size + 1) 63 (.pointer (some ⟨w.heap.size + 1, 0, none⟩)) := by rw [hW1]; exact heap_alloc2_new W _ _
  have B1 : Below W.heap.size W W1 := by rw [hW1]; exact ((Below.refl _ W).alloc (Nat.le_refl _) _).alloc (by simp) _
  have hsz : w.heap.size + 5 = W.heap.size := by rw [HW.out]; simp
  have Q0 := hid (P0.out.below B1 P0.out.lt)
  have Q1 := hid (P1.out.below B1 P1.out.lt)
  have Q2 := hid (Boxed.below' P2.out B1 P2.out.lt)
  have Q3 := hid (P3.out.below B1 P3.out.lt)
  have Q4 := hid (Boxed.below' P4.out B1 P4.out.lt)
  have hs1 : W.heap.size + 2 = W1.heap.size := by rw [hW1]; simp
  have Hsz := hid hsz
  have Hs1 := hid hs1
  have HB1 := hid (B0.out.trans (B1.mono (by omega)))
  have HbS := hid bS
  have HbT := hid bT
  have hI0 : JoI w H D E 27 (W1.heap.size + 2) [] W1 := ⟨Q1.out, Q2.out, Q3.out, Q4.out, HB1.out, D, Q0.out, fun k _ hk => absurd hk (Nat.not_lt_zero _), fun _ _ _ => rfl⟩
  clear hW1 B1 bS bT hsz hs1
  go_wp2_with fail
  refine wpIn_wide.1 (range_overG (F := Fence.wide) (n := 9) (gf := 59) rfl (by omega) rfl trivial (enters_of Tryd.func59 (by kernel_rfl) rfl) (K := fun b => b = W.heap.size ∨ b = W.heap.size + 1) (g := W.heap.size) (.inl rfl) ?kw
    (pairs_comesG 8 (by omega) HbS.out.cell HbT.out.cell HbS.out.lt HbT.out.lt ?kw2) (fun _ => rfl) (JoI w H D E 27 (W1.heap.size + 2)) (fun _ => JoX w H)
    ?keep ?keepx
    (fun s X Y r h _ _ => h) hI0 ?a1 ?assign ?body ?done ?stop)
  case kw => intro b hb; have hb2 : b = W.heap.size ∨ b = W.heap.size + 1 := hb; have := Hs1.out; omega
  case kw2 => intro b hb; have hb2 : b = W.heap.size ∨ b = W.heap.size + 1 := hb; have := Hs1.out; omega
  case keep =>
    rintro s X Y r ⟨g1, g2, g3, g4, g5, R, h3, h4, h5⟩ hg hr
    have a1 := Hsz.out
    have a2 := Hs1.out
    exact ⟨g1.grown hg (by omega), Boxed.grown' g2 hg (by omega), g3.grown hg (by omega), Boxed.grown' g4 hg (by omega), below_row g5 hg g5.size (by omega), R, h3.grown hg (by omega), fun k hk hk2 => ⟨(h4 k hk hk2).1.grown hg (by omega), (h4 k hk hk2).2⟩, h5⟩
  case keepx =>
    rintro s X Y r ⟨h1, h1b, h2, h3⟩ hg hr
    have a1 := Hsz.out
    have a2 := Hs1.out
    exact ⟨h1.grown hg (by omega), Boxed.grown' h1b hg (by omega), below_row h2 hg h2.size (by omega), h3⟩
  case assign =>
    intro l x W K hK
    gi_wp2
    exact hK
  case body =>
    intro l pre x Wx hpre hZ hI
    obtain ⟨k, hk⟩ := x
    obtain ⟨hkl, -⟩ := hpre.front
    dsimp only at hkl
    obtain ⟨hE, hF, hQ, hQ2, hB, R, hR, hT, hS⟩ := hI
    have hRk := hS k hk (by omega)
    have HE0 := hid hE
    have HF0 := hid hF
    have HQ1 := hid hQ
    have HQ2 := hid hQ2
    have HB := hid hB
    have HRb := hid hR
    have HT := hid hT
    have HS := hid hS
    have HZ := hid hZ
    have Hk := hid hk
    have Hkl := hid hkl
    have hd := (HR.out k hk).below hB
    have hd2 := (HR2.out k hk).below hB
    have hqk := HQ.out k hk
    have hpk := HP.out k hk
    have hHk := HH.out k hk
    have hTb := HTb.out.below hB HTb.out.lt
    obtain ⟨m, hmm⟩ : ∃ m, m = D k := ⟨_, rfl⟩
    obtain ⟨m2, hmm2⟩ : ∃ m, m = E k := ⟨_, rfl⟩
    rw [← hmm] at hd
    rw [← hmm2] at hd2
    obtain ⟨y0, y1, y2⟩ := mcells_at hR hk (hRk.trans hmm.symm)
    obtain ⟨v0, v1, v2⟩ := mcells_at hE hk hmm2.symm
    have u0 := hF.cell
    clear hmm hmm2 hB hR hT hS hQ hQ2 hI0 hZ hkl hRk hpre hE hF
    have CC : Hid (∀ w', Below Wx.heap.size Wx w' → Calls Tryd.prog 27 #[dyv m, dyv m2] w' (DRes w' (Derrs (q k ∧ p k) (M k + N k)) (M k + N k))) := hid (fun w' hb => dadd_any (hd.arg.below hb) (hd2.arg.below hb) (hTb.below hb hTb.lt))
    have Hs := hid (And.intro hqk (And.intro hpk hHk))
    clear hd hd2 hqk hpk hHk hTb
    obtain ⟨s, A, n, c, xx, f⟩ := m
    obtain ⟨s2, A2, n2, c2, xx2, f2⟩ := m2
    dsimp only at y0 y1 y2 v0 v1 v2 CC
    have CF : Hid (∀ w', Below Wx.heap.size Wx w' → (w'.cell? ⟨w.heap.size + 1 + 1, 0, none⟩ = some (.func (.func 27) #[] #[]) ∧ w'.cell? ⟨w.heap.size, 3 * k, none⟩ = some (.bool s) ∧ w'.cell? ⟨w.heap.size, 3 * k + 1, none⟩ = some (.slice A n c) ∧ w'.cell? ⟨w.heap.size, 3 * k + 2, none⟩ = some (.int .i64 xx) ∧
        w'.cell? ⟨w.heap.size + 1, 3 * k, none⟩ = some (.bool s2) ∧ w'.cell? ⟨w.heap.size + 1, 3 * k + 1, none⟩ = some (.slice A2 n2 c2) ∧ w'.cell? ⟨w.heap.size + 1, 3 * k + 2, none⟩ = some (.int .i64 xx2))) := hid fun w' hb =>
      ⟨(hb.cell (p := ⟨_, 0, none⟩) HF0.out.lt).trans u0, (hb.cell (p := ⟨_, 3 * k, none⟩) HRb.out.lt).trans y0, (hb.cell (p := ⟨_, 3 * k + 1, none⟩) HRb.out.lt).trans y1, (hb.cell (p := ⟨_, 3 * k + 2, none⟩) HRb.out.lt).trans y2, (hb.cell (p := ⟨_, 3 * k, none⟩) HE0.out.lt).trans v0, (hb.cell (p := ⟨_, 3 * k + 1, none⟩) HE0.out.lt).trans v1, (hb.cell (p := ⟨_, 3 * k + 2, none⟩) HE0.out.lt).trans v2⟩
    have HBd : Hid (Below Wx.heap.size Wx Wx.drew) := hid (Below.refl Wx.heap.size Wx).drew
    clear y0 y1 y2 v0 v1 v2 u0
    unfold pptr
    gi_wp2_with fail
    refine region_held (S := fun w' => w'.cell? ⟨w.heap.size + 1 + 1, 0, none⟩ = some (.func (.func 27) #[] #[]) ∧ w'.cell? ⟨w.heap.size, 3 * k, none⟩ = some (.bool s) ∧ w'.cell? ⟨w.heap.size, 3 * k + 1, none⟩ = some (.slice A n c) ∧ w'.cell? ⟨w.heap.size, 3 * k + 2, none⟩ = some (.int .i64 xx) ∧
        w'.cell? ⟨w.heap.size + 1, 3 * k, none⟩ = some (.bool s2) ∧ w'.cell? ⟨w.heap.size + 1, 3 * k + 1, none⟩ = some (.slice A2 n2 c2) ∧ w'.cell? ⟨w.heap.size + 1, 3 * k + 2, none⟩ = some (.int .i64 xx2)) (by kernel_rfl) (by kernel_rfl) (by rintro ⟨a, w, h⟩; exact h) (CF.out _ HBd.out) (fun hHeld => ?_)
    refine wpAnyH_take (i := 0) (v := ?v1) rfl (by kernel_rfl) (by kernel_rfl) (by kernel_rfl) (fun _ _ _ h => h) (Or.inl ⟨by rfl, ?y1⟩) (by assumption) ?r1
    case y1 => (intro w0 hSw; (try dsimp only at hSw); (try simp only [List.getElem_toArray, List.getElem_cons_zero]); go_simp; try with_reducible rfl)
    (try simp only [Act.put, List.setIfInBounds_toArray, List.set_cons_zero, List.set_cons_succ, List.getElem_toArray, List.getElem_cons_zero])
    refine wpAnyH_take (i := 1) (v := ?v2) rfl (by kernel_rfl) (by kernel_rfl) (by kernel_rfl) (fun _ _ _ h => h) (Or.inl ⟨by rfl, ?y2⟩) (by assumption) ?r2
    case y2 => (intro w0 hSw; (try dsimp only at hSw); (try simp only [List.getElem_toArray, List.getElem_cons_succ, List.getElem_cons_zero]); go_simp; try with_reducible rfl)
    (try simp only [Act.put, List.setIfInBounds_toArray, List.set_cons_zero, List.set_cons_succ, List.getElem_toArray, List.getElem_cons_succ, List.getElem_cons_zero])
    refine wpAnyH_take (i := 2) (v := ?v3) rfl (by kernel_rfl) (by kernel_rfl) (by kernel_rfl) (fun _ _ _ h => h) (Or.inl ⟨by rfl, ?y3⟩) (by assumption) ?r3
    case y3 => (intro w0 hSw; (try dsimp only at hSw); (try simp only [List.getElem_toArray, List.getElem_cons_succ, List.getElem_cons_zero]); go_simp; try with_reducible rfl)
    (try simp only [Act.put, List.setIfInBounds_toArray, List.set_cons_zero, List.set_cons_succ, List.getElem_toArray, List.getElem_cons_succ, List.getElem_cons_zero])
    refine wpAnyH_take (i := 3) (v := ?v4) rfl (by kernel_rfl) (by kernel_rfl) (by kernel_rfl) (fun _ _ _ h => h) (Or.inl ⟨by rfl, ?y4⟩) (by assumption) ?r4
    case y4 => (intro w0 hSw; (try dsimp only at hSw); (try simp only [List.getElem_toArray, List.getElem_cons_succ, List.getElem_cons_zero]); go_simp; try with_reducible rfl)
    (try simp only [Act.put, List.setIfInBounds_toArray, List.set_cons_zero, List.set_cons_succ, List.getElem_toArray, List.getElem_cons_succ, List.getElem_cons_zero])
    refine wpAnyH_take (i := 4) (v := ?v5) rfl (by kernel_rfl) (by kernel_rfl) (by kernel_rfl) (fun _ _ _ h => h) (Or.inl ⟨by rfl, ?y5⟩) (by assumption) ?r5
    case y5 => (intro w0 hSw; (try dsimp only at hSw); (try simp only [List.getElem_toArray, List.getElem_cons_succ, List.getElem_cons_zero]); go_simp; try with_reducible rfl)
    (try simp only [Act.put, List.setIfInBounds_toArray, List.set_cons_zero, List.set_cons_succ, List.getElem_toArray, List.getElem_cons_succ, List.getElem_cons_zero])
    refine wpAnyH_take (i := 5) (v := ?v6) rfl (by kernel_rfl) (by kernel_rfl) (by kernel_rfl) (fun _ _ _ h => h) (Or.inl ⟨by rfl, ?y6⟩) (by assumption) ?r6
    case y6 => (intro w0 hSw; (try dsimp only at hSw); (try simp only [List.getElem_toArray, List.getElem_cons_succ, List.getElem_cons_zero]); go_simp; try with_reducible rfl)
    (try simp only [Act.put, List.setIfInBounds_toArray, List.set_cons_zero, List.set_cons_succ, List.getElem_toArray, List.getElem_cons_succ, List.getElem_cons_zero])
    refine wpAnyH_take (i := 6) (v := ?v7) rfl (by kernel_rfl) (by kernel_rfl) (by kernel_rfl) (fun _ _ _ h => h) (Or.inl ⟨by rfl, ?y7⟩) (by assumption) ?r7
    case y7 => (intro w0 hSw; (try dsimp only at hSw); (try simp only [List.getElem_toArray, List.getElem_cons_succ, List.getElem_cons_zero]); go_simp; try with_reducible rfl)
    (try simp only [Act.put, List.setIfInBounds_toArray, List.set_cons_zero, List.set_cons_succ, List.getElem_toArray, List.getElem_cons_succ, List.getElem_cons_zero])
    refine wpAnyH_ready (rs := [7, 11]) (by kernel_rfl) (by simp) ?_
    refine AllReadyH.cons rfl (fun K hK => ?_) ?_
    · (try simp only [Act.put, List.setIfInBounds_toArray, List.set_cons_zero, List.set_cons_succ, List.getElem_toArray, List.getElem_cons_succ, List.getElem_cons_zero])
      go_simp
      refine (CC.out _ HBd.out).mono ?_
      rintro e Wy ⟨v, er, rfl, HE, HD, hbel⟩
      obtain ⟨r, rfl, hown⟩ := HD.out.own
      have HO := hid hown
      obtain ⟨s1, A1, n1, c1, x1, f1⟩ := r
      have HBy := hid (HBd.out.trans (hbel.out.mono HBd.out.size))
      try dsimp only
      refine hK.out _ _ (CF.out _ HBy.out) (fun hHeld => ?_)
      clear hK K
      (try simp only [Act.put, List.setIfInBounds_toArray, List.set_cons_zero, List.set_cons_succ, List.getElem_toArray, List.getElem_cons_succ, List.getElem_cons_zero])
      refine wpAnyH_take (i := 8) (v := ?v8) rfl (by kernel_rfl) (by kernel_rfl) (by kernel_rfl) (fun _ _ _ h => h) (Or.inl ⟨by rfl, ?y8⟩) (by assumption) ?r8
      case y8 => (intro w0 hSw; (try dsimp only at hSw); (try simp only [List.getElem_toArray, List.getElem_cons_succ, List.getElem_cons_zero]); go_simp; try with_reducible rfl)
      (try simp only [Act.put, List.setIfInBounds_toArray, List.set_cons_zero, List.set_cons_succ, List.getElem_toArray, List.getElem_cons_succ, List.getElem_cons_zero])
      refine wpAnyH_take (i := 9) (v := ?v9) rfl (by kernel_rfl) (by kernel_rfl) (by kernel_rfl) (fun _ _ _ h => h) (Or.inl ⟨by rfl, ?y9⟩) (by assumption) ?r9
      case y9 => (intro w0 hSw; (try dsimp only at hSw); (try simp only [List.getElem_toArray, List.getElem_cons_succ, List.getElem_cons_zero]); go_simp; try with_reducible rfl)
      (try simp only [Act.put, List.setIfInBounds_toArray, List.set_cons_zero, List.set_cons_succ, List.getElem_toArray, List.getElem_cons_succ, List.getElem_cons_zero])
      refine wpAnyH_take (i := 10) (v := ?v10) rfl (by kernel_rfl) (by kernel_rfl) (by kernel_rfl) (fun _ _ _ h => h) (Or.inl ⟨by rfl, ?y10⟩) (by assumption) ?r10
      case y10 => (intro w0 hSw; (try dsimp only at hSw); (try simp only [List.getElem_toArray, List.getElem_cons_succ, List.getElem_cons_zero]); go_simp; try with_reducible rfl)
      (try simp only [Act.put, List.setIfInBounds_toArray, List.set_cons_zero, List.set_cons_succ, List.getElem_toArray, List.getElem_cons_succ, List.getElem_cons_zero])
      refine wpAnyH_ready (rs := [11]) (by kernel_rfl) (by simp) ?_
      refine AllReadyH.cons rfl (fun K hK => ?_) ?_
      · (try simp only [Act.put, List.setIfInBounds_toArray, List.set_cons_zero, List.set_cons_succ, List.getElem_toArray, List.getElem_cons_succ, List.getElem_cons_zero])
        go_simp
        refine hK.out _ _ (CF.out _ (HBy.out.alloc HBy.out.size _)) (fun hHeld => ?_)
        clear hK K
        (try simp only [Act.put, List.setIfInBounds_toArray, List.set_cons_zero, List.set_cons_succ, List.getElem_toArray, List.getElem_cons_succ, List.getElem_cons_zero])
        refine wpAnyH_ready (rs := [12]) (by kernel_rfl) (by simp) ?_
        refine AllReadyH.cons rfl (fun K hK => ?_) ?_
        · (try simp only [Act.put, List.getElem_toArray, List.getElem_cons_succ, List.getElem_cons_zero])
          go_simp
          refine hK.out _ _ (CF.out _ (HBy.out.alloc HBy.out.size _)) (fun hHeld => ?_)
          clear hK K
          (try simp only [Act.put, List.getElem_toArray, List.getElem_cons_succ, List.getElem_cons_zero])
          refine wpAnyH_take (i := 13) (v := ?v11) rfl (by kernel_rfl) (by kernel_rfl) (by kernel_rfl) (fun _ _ _ h => h) (Or.inl ⟨by rfl, ?y11⟩) (by assumption) ?r11
          case y11 => (intro w0 hSw; (try dsimp only at hSw); (try simp only [List.getElem_toArray, List.getElem_cons_succ, List.getElem_cons_zero]); go_simp; try with_reducible rfl)
          (try simp only [Act.put, List.setIfInBounds_toArray, List.set_cons_zero, List.set_cons_succ, List.getElem_toArray, List.getElem_cons_succ, List.getElem_cons_zero])
          refine wpAnyH_done (by kernel_rfl) ?_ _
          obtain ⟨Wz, hWz⟩ : ∃ Wz, Wz = Wy.alloc (.cells #[.bool s1, .slice A1 n1 c1, .int .i64 x1] 24) := ⟨_, rfl⟩
          rw [← hWz]
          have HBz : Hid (Below Wx.heap.size Wx Wz) := hid (hWz ▸ HBy.out.alloc HBy.out.size _)
          have Hbx : Hid (Dbox Wz Wy.heap.size s1 (.slice A1 n1 c1) x1) := hid (hWz ▸ heap_alloc_new Wy _)
          have Ho : Hid (Owd Wx.heap.size Wz (resD er (M k + N k)) ⟨s1, A1, n1, c1, x1, f1⟩) := hid (hWz ▸ Owd.below HO.out ((Below.refl _ Wy).alloc (Nat.le_refl _) _))
          clear hWz
          have hcase := HE.out.1 ⟨Hs.out.1, Hs.out.2.1⟩
          rw [Hs.out.2.2] at hcase
          have Rz := hid (HRb.out.below HBz.out HRb.out.lt)
          have E0z := hid (HE0.out.below HBz.out HE0.out.lt)
          have F0z := hid (Boxed.below' HF0.out HBz.out HF0.out.lt)
          have Q1z := hid (HQ1.out.below HBz.out HQ1.out.lt)
          have Q2z := hid (Boxed.below' HQ2.out HBz.out HQ2.out.lt)
          have Bz := hid (HB.out.trans (HBz.out.mono HB.out.size))
          have t0 := Hbx.out.c0
          have t1 := Hbx.out.c1
          have t2 := Hbx.out.c2
          rcases hcase with ⟨hok, rfl⟩ | ⟨hno, rfl⟩
          · obtain ⟨z0, z1, z2⟩ := Rz.out.cell Hk.out
            have g0 := Rz.out.frozen (3 * k)
            have g1 := Rz.out.frozen (3 * k + 1)
            have g2 := Rz.out.frozen (3 * k + 2)
            have HOk := hid hok
            have Ho := Ho.out
            rw [resD_ok rfl, Hs.out.2.2] at Ho
            have Ro := hid Ho
            clear hok Ho hHeld
            gi_wp2
            show KeepsFrom _ _ (mput Wz w.heap.size k ⟨s1, A1, n1, c1, x1, f1⟩) ∧ Kb _ _ (mput Wz w.heap.size k ⟨s1, A1, n1, c1, x1, f1⟩) ∧ JoI w H D E _ _ _ (mput Wz w.heap.size k ⟨s1, A1, n1, c1, x1, f1⟩)
            clear z0 z1 z2 g0 g1 g2 t0 t1 t2
            refine ⟨keeps_mput (keeps_below HBz.out), ((kb_below HBz.out ?kbA).mput ?n1A), ?invA⟩
            case kbA => intro b hb; have hb2 : b = W.heap.size ∨ b = W.heap.size + 1 := hb; have := Hs1.out; have := HZ.out; omega
            case n1A => intro hb; have hb2 : w.heap.size = W.heap.size ∨ w.heap.size = W.heap.size + 1 := hb; have := Hsz.out; omega
            case invA =>
              have e1 := Hsz.out
              have e2 := Hs1.out
              have e3 := HZ.out
              have e4 := Hkl.out
              refine ⟨E0z.out.mput_far (k := k) (d := ⟨s1, A1, n1, c1, x1, f1⟩) (by omega), Boxed.mput (k := k) (d := ⟨s1, A1, n1, c1, x1, f1⟩) F0z.out (by omega), Q1z.out.mput_far (k := k) (d := ⟨s1, A1, n1, c1, x1, f1⟩) (by omega), Boxed.mput (k := k) (d := ⟨s1, A1, n1, c1, x1, f1⟩) Q2z.out (by omega), below_mput (k := k) (d := ⟨s1, A1, n1, c1, x1, f1⟩) Bz.out (Nat.le_refl _), updD R k ⟨s1, A1, n1, c1, x1, f1⟩, Rz.out.put Hk.out ⟨s1, A1, n1, c1, x1, f1⟩, fun j hj hj2 => ?_, fun j hj hj2 => ?_⟩
              · rw [List.length_append, List.length_singleton] at hj2
                by_cases hjk : j = k
                · subst hjk
                  rw [updD_same]
                  exact ⟨(Ro.out.mono (by omega)).mput (by omega), HOk.out⟩
                · rw [updD_ne _ _ hjk]
                  exact ⟨((HT.out j hj (by omega)).1.below HBz.out).mput (by omega), (HT.out j hj (by omega)).2⟩
              · rw [List.length_append, List.length_singleton] at hj2
                rw [updD_ne _ _ (by omega)]
                exact HS.out j hj (by omega)
          · have HNo := hid hno
            have gz := grown_mstore Wz (w.heap.size + 1 + 1 + 1) D0
            have Q1s := hid (Q1z.out.store D0)
            have Q2s := hid (Boxed.grown' Q2z.out gz (by omega))
            have Bs := hid (below_row Bz.out gz Bz.out.size (by omega))
            have w0 := Q2s.out.cell
            have w1 := Q2s.out.frozen
            rw [show w.heap.size + 4 = w.heap.size + 1 + 1 + 1 + 1 from rfl] at w0 w1
            have Q1zz : Hid (Mbox Wz (w.heap.size + 1 + 1 + 1) D0) := Q1z
            have Gz := hid gz
            clear hno gz hHeld
            gi_wp2_with (first
              | (with_reducible refine wpin_mzero rfl (.tmp 6) (.tmp 28) rfl (w.heap.size + 1 + 1 + 1) D0 rfl rfl Q1zz.out ?_)
              | fail)
            show KeepsFrom _ _ ((mstore Wz (w.heap.size + 3) D0).setCell ⟨w.heap.size + 4, 0, none⟩ (.int .i64 10)) ∧ JoX w H ((mstore Wz (w.heap.size + 3) D0).setCell ⟨w.heap.size + 4, 0, none⟩ (.int .i64 10))
            have e1 := Hsz.out
            have e2 := Hs1.out
            exact ⟨(keeps_below HBz.out).trans ((KeepsFrom.of_grownBy Gz.out (fun j h => by injection h with h; omega)).trans ((KeepsOthers.setCell _ _ _).from _)),
              (Below.heap_setCell _ ⟨w.heap.size + 4, 0, none⟩ _ _ (by show w.heap.size + 3 ≠ w.heap.size + 4; omega)).trans Q1s.out, Q2s.out.set _, Bs.out.setCell (p := ⟨w.heap.size + 4, 0, none⟩) (by show w.heap.size ≤ w.heap.size + 4; omega) _, k, Hk.out, HNo.out⟩
        · exact AllReadyH.nil
      · exact AllReadyH.nil
    refine AllReadyH.cons rfl (fun K hK => ?_) AllReadyH.nil
    (try simp only [Act.put, List.setIfInBounds_toArray, List.set_cons_zero, List.set_cons_succ, List.getElem_toArray, List.getElem_cons_succ, List.getElem_cons_zero])
    go_simp
    have HBa := hid (HBd.out.alloc HBd.out.size (.cells #[.bool false, .slice none 0 0, .int .i64 0] 24))
    refine hK.out _ _ (CF.out _ HBa.out) (fun hHeld => ?_)
    clear hK K
    (try simp only [Act.put, List.setIfInBounds_toArray, List.set_cons_zero, List.set_cons_succ, List.getElem_toArray, List.getElem_cons_succ, List.getElem_cons_zero])
    refine wpAnyH_ready (rs := [7]) (by kernel_rfl) (by simp) ?_
    refine AllReadyH.cons rfl (fun K hK => ?_) AllReadyH.nil
    (try simp only [Act.put, List.setIfInBounds_toArray, List.set_cons_zero, List.set_cons_succ, List.getElem_toArray, List.getElem_cons_succ, List.getElem_cons_zero])
    go_simp
    refine (CC.out _ HBa.out).mono ?_
    rintro e Wy ⟨v, er, rfl, HE, HD, hbel⟩
    obtain ⟨r, rfl, hown⟩ := HD.out.own
    have HO := hid hown
    obtain ⟨s1, A1, n1, c1, x1, f1⟩ := r
    have Bx : Hid (Dbox Wy Wx.heap.size false (.slice none 0 0) 0) := hid (Dbox.below (show Dbox (Wx.drew.alloc (.cells #[.bool false, .slice none 0 0, .int .i64 0] 24)) Wx.heap.size false (.slice none 0 0) 0 from heap_alloc_new Wx.drew _) hbel.out (by simp))
    have HBy := hid (HBa.out.trans (hbel.out.mono HBa.out.size))
    have b0 := Bx.out.c0
    have b1 := Bx.out.c1
    have b2 := Bx.out.c2
    have g0 := Bx.out.frozen 0
    have g1 := Bx.out.frozen 1
    have g2 := Bx.out.frozen 2
    try dsimp only
    refine hK.out _ _ (CF.out _ HBy.out) (fun hHeld => ?_)
    clear hK K
    (try simp only [Act.put, List.setIfInBounds_toArray, List.set_cons_zero, List.set_cons_succ, List.getElem_toArray, List.getElem_cons_succ, List.getElem_cons_zero])
    refine wpAnyH_take (i := 8) (v := ?v12) rfl (by kernel_rfl) (by kernel_rfl) (by kernel_rfl) (fun _ _ _ h => h) (Or.inl ⟨by rfl, ?y12⟩) (by assumption) ?r12
    case y12 => (intro w0 hSw; (try dsimp only at hSw); (try simp only [List.getElem_toArray, List.getElem_cons_succ, List.getElem_cons_zero]); go_simp; try with_reducible rfl)
    (try simp only [Act.put, List.setIfInBounds_toArray, List.set_cons_zero, List.set_cons_succ, List.getElem_toArray, List.getElem_cons_succ, List.getElem_cons_zero])
    refine wpAnyH_take (i := 9) (v := ?v13) rfl (by kernel_rfl) (by kernel_rfl) (by kernel_rfl) (fun _ _ _ h => h) (Or.inl ⟨by rfl, ?y13⟩) (by assumption) ?r13
    case y13 => (intro w0 hSw; (try dsimp only at hSw); (try simp only [List.getElem_toArray, List.getElem_cons_succ, List.getElem_cons_zero]); go_simp; try with_reducible rfl)
    (try simp only [Act.put, List.setIfInBounds_toArray, List.set_cons_zero, List.set_cons_succ, List.getElem_toArray, List.getElem_cons_succ, List.getElem_cons_zero])
    refine wpAnyH_take (i := 10) (v := ?v14) rfl (by kernel_rfl) (by kernel_rfl) (by kernel_rfl) (fun _ _ _ h => h) (Or.inl ⟨by rfl, ?y14⟩) (by assumption) ?r14
    case y14 => (intro w0 hSw; (try dsimp only at hSw); (try simp only [List.getElem_toArray, List.getElem_cons_succ, List.getElem_cons_zero]); go_simp; try with_reducible rfl)
    (try simp only [Act.put, List.setIfInBounds_toArray, List.set_cons_zero, List.set_cons_succ, List.getElem_toArray, List.getElem_cons_succ, List.getElem_cons_zero])
    refine wpAnyH_ready (rs := [12]) (by kernel_rfl) (by simp) ?_
    refine AllReadyH.cons rfl (fun K hK => ?_) AllReadyH.nil
    (try simp only [Act.put, List.getElem_toArray, List.getElem_cons_succ, List.getElem_cons_zero])
    go_simp
    refine hK.out _ _ (CF.out _ (below_put3 HBy.out (Nat.le_refl _))) (fun hHeld => ?_)
    clear hK K
    (try simp only [Act.put, List.getElem_toArray, List.getElem_cons_succ, List.getElem_cons_zero])
    refine wpAnyH_take (i := 13) (v := ?v15) rfl (by kernel_rfl) (by kernel_rfl) (by kernel_rfl) (fun _ _ _ h => h) (Or.inl ⟨by rfl, ?y15⟩) (by assumption) ?r15
    case y15 => (intro w0 hSw; (try dsimp only at hSw); (try simp only [List.getElem_toArray, List.getElem_cons_succ, List.getElem_cons_zero]); go_simp; try with_reducible rfl)
    (try simp only [Act.put, List.setIfInBounds_toArray, List.set_cons_zero, List.set_cons_succ, List.getElem_toArray, List.getElem_cons_succ, List.getElem_cons_zero])
    refine wpAnyH_done (by kernel_rfl) ?_ _
    change Exit.then _ _ _ _ (put3 Wy Wx.heap.size s1 (.slice A1 n1 c1) x1)
    obtain ⟨Wz, hWz⟩ : ∃ Wz, Wz = put3 Wy Wx.heap.size s1 (.slice A1 n1 c1) x1 := ⟨_, rfl⟩
    rw [← hWz]
    have HBz : Hid (Below Wx.heap.size Wx Wz) := hid (hWz ▸ below_put3 HBy.out (Nat.le_refl _))
    have Hbx : Hid (Dbox Wz Wx.heap.size s1 (.slice A1 n1 c1) x1) := hid (hWz ▸ Bx.out.store)
    have Ho : Hid (Owd Wx.heap.size Wz (resD er (M k + N k)) ⟨s1, A1, n1, c1, x1, f1⟩) := hid (hWz ▸ ⟨(((HO.out.lim.far_ (g := Wx.heap.size) (by simp) 0 (.bool s1)).far_ (g := Wx.heap.size) (by simp) 1 (.slice A1 n1 c1)).far_ (g := Wx.heap.size) (by simp) 2 (.int .i64 x1)).mono (by simp), HO.out.may, HO.out.val⟩)
    clear hWz b0 b1 b2 g0 g1 g2
    have hcase := HE.out.1 ⟨Hs.out.1, Hs.out.2.1⟩
    rw [Hs.out.2.2] at hcase
    have Rz := hid (HRb.out.below HBz.out HRb.out.lt)
    have E0z := hid (HE0.out.below HBz.out HE0.out.lt)
    have F0z := hid (Boxed.below' HF0.out HBz.out HF0.out.lt)
    have Q1z := hid (HQ1.out.below HBz.out HQ1.out.lt)
    have Q2z := hid (Boxed.below' HQ2.out HBz.out HQ2.out.lt)
    have Bz := hid (HB.out.trans (HBz.out.mono HB.out.size))
    have t0 := Hbx.out.c0
    have t1 := Hbx.out.c1
    have t2 := Hbx.out.c2
    rcases hcase with ⟨hok, rfl⟩ | ⟨hno, rfl⟩
    · obtain ⟨z0, z1, z2⟩ := Rz.out.cell Hk.out
      have g0 := Rz.out.frozen (3 * k)
      have g1 := Rz.out.frozen (3 * k + 1)
      have g2 := Rz.out.frozen (3 * k + 2)
      have HOk := hid hok
      have Ho := Ho.out
      rw [resD_ok rfl, Hs.out.2.2] at Ho
      have Ro := hid Ho
      clear hok Ho hHeld
      gi_wp2
      show KeepsFrom _ _ (mput Wz w.heap.size k ⟨s1, A1, n1, c1, x1, f1⟩) ∧ Kb _ _ (mput Wz w.heap.size k ⟨s1, A1, n1, c1, x1, f1⟩) ∧ JoI w H D E _ _ _ (mput Wz w.heap.size k ⟨s1, A1, n1, c1, x1, f1⟩)
      clear z0 z1 z2 g0 g1 g2 t0 t1 t2
      refine ⟨keeps_mput (keeps_below HBz.out), ((kb_below HBz.out ?kbB).mput ?n1B), ?invB⟩
      case kbB => intro b hb; have hb2 : b = W.heap.size ∨ b = W.heap.size + 1 := hb; have := Hs1.out; have := HZ.out; omega
      case n1B => intro hb; have hb2 : w.heap.size = W.heap.size ∨ w.heap.size = W.heap.size + 1 := hb; have := Hsz.out; omega
      case invB =>
        have e1 := Hsz.out
        have e2 := Hs1.out
        have e3 := HZ.out
        have e4 := Hkl.out
        refine ⟨E0z.out.mput_far (k := k) (d := ⟨s1, A1, n1, c1, x1, f1⟩) (by omega), Boxed.mput (k := k) (d := ⟨s1, A1, n1, c1, x1, f1⟩) F0z.out (by omega), Q1z.out.mput_far (k := k) (d := ⟨s1, A1, n1, c1, x1, f1⟩) (by omega), Boxed.mput (k := k) (d := ⟨s1, A1, n1, c1, x1, f1⟩) Q2z.out (by omega), below_mput (k := k) (d := ⟨s1, A1, n1, c1, x1, f1⟩) Bz.out (Nat.le_refl _), updD R k ⟨s1, A1, n1, c1, x1, f1⟩, Rz.out.put Hk.out ⟨s1, A1, n1, c1, x1, f1⟩, fun j hj hj2 => ?_, fun j hj hj2 => ?_⟩
        · rw [List.length_append, List.length_singleton] at hj2
          by_cases hjk : j = k
          · subst hjk
            rw [updD_same]
            exact ⟨(Ro.out.mono (by omega)).mput (by omega), HOk.out⟩
          · rw [updD_ne _ _ hjk]
            exact ⟨((HT.out j hj (by omega)).1.below HBz.out).mput (by omega), (HT.out j hj (by omega)).2⟩
        · rw [List.length_append, List.length_singleton] at hj2
          rw [updD_ne _ _ (by omega)]
          exact HS.out j hj (by omega)
    · have HNo := hid hno
      have gz := grown_mstore Wz (w.heap.size + 1 + 1 + 1) D0
      have Q1s := hid (Q1z.out.store D0)
      have Q2s := hid (Boxed.grown' Q2z.out gz (by omega))
      have Bs := hid (below_row Bz.out gz Bz.out.size (by omega))
      have w0 := Q2s.out.cell
      have w1 := Q2s.out.frozen
      rw [show w.heap.size + 4 = w.heap.size + 1 + 1 + 1 + 1 from rfl] at w0 w1
      have Q1zz : Hid (Mbox Wz (w.heap.size + 1 + 1 + 1) D0) := Q1z
      have Gz := hid gz
      clear hno gz hHeld
      gi_wp2_with (first
        | (with_reducible refine wpin_mzero rfl (.tmp 6) (.tmp 28) rfl (w.heap.size + 1 + 1 + 1) D0 rfl rfl Q1zz.out ?_)
        | fail)
      show KeepsFrom _ _ ((mstore Wz (w.heap.size + 3) D0).setCell ⟨w.heap.size + 4, 0, none⟩ (.int .i64 10)) ∧ JoX w H ((mstore Wz (w.heap.size + 3) D0).setCell ⟨w.heap.size + 4, 0, none⟩ (.int .i64 10))
      have e1 := Hsz.out
      have e2 := Hs1.out
      exact ⟨(keeps_below HBz.out).trans ((KeepsFrom.of_grownBy Gz.out (fun j h => by injection h with h; omega)).trans ((KeepsOthers.setCell _ _ _).from _)),
        (Below.heap_setCell _ ⟨w.heap.size + 4, 0, none⟩ _ _ (by show w.heap.size + 3 ≠ w.heap.size + 4; omega)).trans Q1s.out, Q2s.out.set _, Bs.out.setCell (p := ⟨w.heap.size + 4, 0, none⟩) (by show w.heap.size ≤ w.heap.size + 4; omega) _, k, Hk.out, HNo.out⟩
  case done =>
    rintro D' ys Wx rfl hys ⟨hE, hF, hQ, hQ2, hB, R, hR, hT, hS⟩ hK
    have e1 := Hsz.out
    have e2 := Hs1.out
    have hl := fst4_pre hys
    have HP := hid hR
    have HQ : Hid (Mbox Wx (w.heap.size + 1 + 1 + 1) D0) := hid hQ
    have g1 := grown_mstore Wx (w.heap.size + 3) R
    have hK1 := (g1.block W1.heap.size (lt_of_heap hK) (by intro e; injection e with e; omega)).trans hK
    have b2 := Boxed.grown' hQ2 g1 (by omega)
    have x0 := b2.cell
    have x1 := b2.frozen
    have hB1 := below_row hB g1 hB.size (by omega)
    have hO1 : ∀ k, k < 4 → Owd (W1.heap.size + 2) (mstore Wx (w.heap.size + 3) R) (H k) (R k) := fun k hk => (hT k hk (by omega)).1.grown g1 (by omega)
    have hM1 := hQ.store R
    generalize hX1 : mstore Wx (w.heap.size + 3) R = X1 at *
    have HX1 := hid hX1
    have HO4 := hid (show All4 (fun k => Okay (H k)) from fun k hk => (hT k hk (by omega)).2)
    have hK2 := (KeepsOthers.setCell X1 ⟨w.heap.size + 4, 0, none⟩ (.int .i64 0)).same W1.heap.size _ hK1 rfl
    have HB2 := hid (hB1.setCell (p := ⟨w.heap.size + 4, 0, none⟩) (by show w.heap.size ≤ w.heap.size + 4; omega) (.int .i64 0))
    have HO2 := hid (show ∀ k, k < 4 → Owd (W1.heap.size + 2) (X1.setCell ⟨w.heap.size + 4, 0, none⟩ (.int .i64 0)) (H k) (R k) from fun k hk => ⟨(hO1 k hk).lim.far_ (by omega) _ _, (hO1 k hk).may, (hO1 k hk).val⟩)
    have HM2 := hid (show Mbox (X1.setCell ⟨w.heap.size + 4, 0, none⟩ (.int .i64 0)) (w.heap.size + 3) R from (Below.heap_setCell _ ⟨w.heap.size + 4, 0, none⟩ _ _ (by show w.heap.size + 3 ≠ w.heap.size + 4; omega)).trans hM1)
    have HE2 := hid (b2.set (.int .i64 0))
    have HK := hid hK2
    have He1 := hid e1
    have He2 := hid e2
    clear e1 e2 hl hR hQ hB hT hS hK g1 hK1 b2 hB1 hO1 hM1 hX1 hK2 hI0 hQ2 hE hF
    rw [show w.heap.size + 4 = w.heap.size + 1 + 1 + 1 + 1 from rfl] at x0 x1
    go_wp2_with (first
      | (with_reducible refine wp_mload rfl (.tmp 3) rfl w.heap.size R rfl HP.out ?_)
      | (with_reducible refine wp_mstore rfl (.tmp 6) (.tmp 33) rfl (w.heap.size + 1 + 1 + 1) D0 R rfl rfl HQ.out ?_; rw [HX1.out])
      | fail)
    refine ⟨by simp, .inl ⟨_, _, rfl, run_takeDeferred HK.out, ?_⟩⟩
    have e1 := He1.out
    have e2 := He2.out
    have g2 := grownBy_putObj' (X1.setCell ⟨w.heap.size + 4, 0, none⟩ (.int .i64 0)) W1.heap.size (.deferred none)
    exact ⟨_, mass_cells rfl _ _ (w.heap.size + 3) (w.heap.size + 4) R 0 rfl rfl (HM2.out.grown g2 (by omega)) (Boxed.grown' HE2.out g2 (by omega)), R, 0, rfl, .inl ⟨HO4.out, rfl⟩, (fun k hk => ((HO2.out k hk).grown g2 (by omega)).mono (by omega)), below_row HB2.out g2 HB2.out.size (by omega)⟩
  case stop =>
    rintro D' pre Wx rfl ⟨k, hk, hpre⟩ ⟨hQ, hQ2, hB, hN⟩ hK
    have HN := hid hN
    clear hN hpre
    gi_wp2
    refine ⟨by simp, .inl ⟨_, _, rfl, run_takeDeferred hK, ?_⟩⟩
    have e1 := Hsz.out
    have e2 := Hs1.out
    have g2 := grownBy_putObj' Wx W1.heap.size (.deferred none)
    exact ⟨_, mass_cells rfl _ _ (w.heap.size + 3) (w.heap.size + 4) D0 10 rfl rfl (hQ.grown g2 (by omega)) (Boxed.grown' hQ2 g2 (by omega)), D0, 10, rfl, .inr ⟨fun h => HN.out.elim fun j hj => hj.2 (h j hj.1), rfl⟩, Mow.zero _ _, below_row hB g2 hB.size (by omega)⟩

set_option maxRecDepth 100000 in
set_option maxHeartbeats 4000000 in
theorem mjoined_sub {w : World} {q p : Nat → Prop} {M N H : Nat → Int} {D E : Nat → Dy} (h : Mar w q M D) (h2 : Mar w p N E) (hq : All4 q) (hp : All4 p) (hH : ∀ k, k < 4 → M k - N k = H k) (hT : Tab w) :
    Calls Tryd.prog 26 #[.agg (mcells D), .agg (mcells E), .func (.func 30) #[] #[]] w (MRes w (Merr H) H) := by
  obtain ⟨W, hW⟩ : ∃ W, W = ((((w.alloc (.cells (mcells D) 26)).alloc (.cells (mcells E) 26)).alloc (.cells #[.func (.func 30) #[] #[]] 53)).alloc (.cells #[.bool false, .slice none 0 0, .int .i64 0, .bool false, .slice none 0 0, .int .i64 0, .bool false, .slice none 0 0, .int .i64 0, .bool false, .slice none 0 0, .int .i64 0] 26)).alloc (.cells #[.int .i64 0] 29) := ⟨_, rfl⟩
  have B0 := hid (show Below w.heap.size w W from hW ▸ (((((Below.refl _ w).alloc (Nat.le_refl _) _).alloc (by simp) _).alloc (by simp; omega) _).alloc (by simp; omega) _).alloc (by simp; omega) _)
  have P0 : Hid (Mbox W w.heap.size D) := hid (hW ▸ ((((show Mbox (w.alloc _) w.heap.size D from new_at rfl).alloc _).alloc _).alloc _).alloc _)
  have P1 : Hid (Mbox W (w.heap.size + 1) E) := hid (hW ▸ (((show Mbox ((w.alloc _).alloc _) (w.heap.size + 1) E from new_at (by simp)).alloc _).alloc _).alloc _)
  have P2 : Hid (Boxed W (w.heap.size + 2) 53 (.func (.func 30) #[] #[])) := hid (hW ▸ (Boxed.alloc_ (Boxed.alloc_ (show Boxed (((w.alloc _).alloc _).alloc _) (w.heap.size + 2) _ _ from new_at (by simp)) _) _))
  have P3 : Hid (Mbox W (w.heap.size + 3) D0) := hid (hW ▸ ((show Mbox ((((w.alloc _).alloc _).alloc _).alloc _) (w.heap.size + 3) D0 from new_at (by simp)).alloc _))
  have P4 : Hid (Boxed W (w.heap.size + 4) 29 (.int .i64 0)) := hid (hW ▸ (new_at (by simp)))
  have HR := hid h
  have HR2 := hid h2
  have HW := hid hW
  have HQ := hid hq
  have HP := hid hp
  have HH := hid hH
  have HTb := hid hT
  clear hW h h2 hq hp hH hT
  refine (callsIn_wide (n := 9)).1 ?_
  refine callsIn_of_wp_marks Tryd.func26 rfl trivial (wpIn_wide.2 ?_) rfl
  simp only [Tryd.ntmps26, List.size_toArray, List.length_cons, List.length_nil, Nat.reduceAdd, Nat.reduceSub, Array.replicate_succ, Array.replicate_zero, List.push_toArray, List.append_toArray, List.nil_append, List.cons_append]
  go_upto_region 1 with fail
  rw [← HW.out]
  go_wp2_with fail
  refine (callsIn_wide.1 (pairs_any 9 w.heap.size (w.heap.size + 1) W)).mono ?_
  rintro e W1 ⟨rfl, hW1⟩
  have bS : Boxed W1 W.heap.size 63 (.pointer (some ⟨w.heap.size, 0, none⟩)) := by rw [hW1]; exact heap_alloc2_old W _ _
  have bT : Boxed W1 (W.heap.size + 1) 63 (.pointer (some ⟨w.heap.size + 1, 0, none⟩)) := by rw [hW1]; exact heap_alloc2_new W _ _
  have B1 : Below W.heap.size W W1 := by rw [hW1]; exact ((Below.refl _ W).alloc (Nat.le_refl _) _).alloc (by simp) _
  have hsz : w.heap.size + 5 = W.heap.size := by rw [HW.out]; simp
  have Q0 := hid (P0.out.below B1 P0.out.lt)
  have Q1 := hid (P1.out.below B1 P1.out.lt)
  have Q2 := hid (Boxed.below' P2.out B1 P2.out.lt)
  have Q3 := hid (P3.out.below B1 P3.out.lt)
  have Q4 := hid (Boxed.below' P4.out B1 P4.out.lt)
  have hs1 : W.heap.size + 2 = W1.heap.size := by rw [hW1]; simp
  have Hsz := hid hsz
  have Hs1 := hid hs1
  have HB1 := hid (B0.out.trans (B1.mono (by omega)))
  have HbS := hid bS
  have HbT := hid bT
  have hI0 : JoI w H D E 30 (W1.heap.size + 2) [] W1 := ⟨Q1.out, Q2.out, Q3.out, Q4.out, HB1.out, D, Q0.out, fun k _ hk => absurd hk (Nat.not_lt_zero _), fun _ _ _ => rfl⟩
  clear hW1 B1 bS bT hsz hs1
  go_wp2_with fail
  refine wpIn_wide.1 (range_overG (F := Fence.wide) (n := 9) (gf := 59) rfl (by omega) rfl trivial (enters_of Tryd.func59 (by kernel_rfl) rfl) (K := fun b => b = W.heap.size ∨ b = W.heap.size + 1) (g := W.heap.size) (.inl rfl) ?kw
    (pairs_comesG 8 (by omega) HbS.out.cell HbT.out.cell HbS.out.lt HbT.out.lt ?kw2) (fun _ => rfl) (JoI w H D E 30 (W1.heap.size + 2)) (fun _ => JoX w H)
    ?keep ?keepx
    (fun s X Y r h _ _ => h) hI0 ?a1 ?assign ?body ?done ?stop)
  case kw => intro b hb; have hb2 : b = W.heap.size ∨ b = W.heap.size + 1 := hb; have := Hs1.out; omega
  case kw2 => intro b hb; have hb2 : b = W.heap.size ∨ b = W.heap.size + 1 := hb; have := Hs1.out; omega
  case keep =>
    rintro s X Y r ⟨g1, g2, g3, g4, g5, R, h3, h4, h5⟩ hg hr
    have a1 := Hsz.out
    have a2 := Hs1.out
    exact ⟨g1.grown hg (by omega), Boxed.grown' g2 hg (by omega), g3.grown hg (by omega), Boxed.grown' g4 hg (by omega), below_row g5 hg g5.size (by omega), R, h3.grown hg (by omega), fun k hk hk2 => ⟨(h4 k hk hk2).1.grown hg (by omega), (h4 k hk hk2).2⟩, h5⟩
  case keepx =>
    rintro s X Y r ⟨h1, h1b, h2, h3⟩ hg hr
    have a1 := Hsz.out
    have a2 := Hs1.out
    exact ⟨h1.grown hg (by omega), Boxed.grown' h1b hg (by omega), below_row h2 hg h2.size (by omega), h3⟩
  case assign =>
    intro l x W K hK
    gi_wp2
    exact hK
  case body =>
    intro l pre x Wx hpre hZ hI
    obtain ⟨k, hk⟩ := x
    obtain ⟨hkl, -⟩ := hpre.front
    dsimp only at hkl
    obtain ⟨hE, hF, hQ, hQ2, hB, R, hR, hT, hS⟩ := hI
    have hRk := hS k hk (by omega)
    have HE0 := hid hE
    have HF0 := hid hF
    have HQ1 := hid hQ
    have HQ2 := hid hQ2
    have HB := hid hB
    have HRb := hid hR
    have HT := hid hT
    have HS := hid hS
    have HZ := hid hZ
    have Hk := hid hk
    have Hkl := hid hkl
    have hd := (HR.out k hk).below hB
    have hd2 := (HR2.out k hk).below hB
    have hqk := HQ.out k hk
    have hpk := HP.out k hk
    have hHk := HH.out k hk
    have hTb := HTb.out.below hB HTb.out.lt
    obtain ⟨m, hmm⟩ : ∃ m, m = D k := ⟨_, rfl⟩
    obtain ⟨m2, hmm2⟩ : ∃ m, m = E k := ⟨_, rfl⟩
    rw [← hmm] at hd
    rw [← hmm2] at hd2
    obtain ⟨y0, y1, y2⟩ := mcells_at hR hk (hRk.trans hmm.symm)
    obtain ⟨v0, v1, v2⟩ := mcells_at hE hk hmm2.symm
    have u0 := hF.cell
    clear hmm hmm2 hB hR hT hS hQ hQ2 hI0 hZ hkl hRk hpre hE hF
    have CC : Hid (∀ w', Below Wx.heap.size Wx w' → Calls Tryd.prog 30 #[dyv m, dyv m2] w' (DRes w' (Derrs (q k ∧ p k) (M k - N k)) (M k - N k))) := hid (fun w' hb => dsub_any (hd.arg.below hb) (hd2.arg.below hb) (hTb.below hb hTb.lt))
    have Hs := hid (And.intro hqk (And.intro hpk hHk))
    clear hd hd2 hqk hpk hHk hTb
    obtain ⟨s, A, n, c, xx, f⟩ := m
    obtain ⟨s2, A2, n2, c2, xx2, f2⟩ := m2
    dsimp only at y0 y1 y2 v0 v1 v2 CC
    have CF : Hid (∀ w', Below Wx.heap.size Wx w' → (w'.cell? ⟨w.heap.size + 1 + 1, 0, none⟩ = some (.func (.func 30) #[] #[]) ∧ w'.cell? ⟨w.heap.size, 3 * k, none⟩ = some (.bool s) ∧ w'.cell? ⟨w.heap.size, 3 * k + 1, none⟩ = some (.slice A n c) ∧ w'.cell? ⟨w.heap.size, 3 * k + 2, none⟩ = some (.int .i64 xx) ∧
        w'.cell? ⟨w.heap.size + 1, 3 * k, none⟩ = some (.bool s2) ∧ w'.cell? ⟨w.heap.size + 1, 3 * k + 1, none⟩ = some (.slice A2 n2 c2) ∧ w'.cell? ⟨w.heap.size + 1, 3 * k + 2, none⟩ = some (.int .i64 xx2))) := hid fun w' hb =>
      ⟨(hb.cell (p := ⟨_, 0, none⟩) HF0.out.lt).trans u0, (hb.cell (p := ⟨_, 3 * k, none⟩) HRb.out.lt).trans y0, (hb.cell (p := ⟨_, 3 * k + 1, none⟩) HRb.out.lt).trans y1, (hb.cell (p := ⟨_, 3 * k + 2, none⟩) HRb.out.lt).trans y2, (hb.cell (p := ⟨_, 3 * k, none⟩) HE0.out.lt).trans v0, (hb.cell (p := ⟨_, 3 * k + 1, none⟩) HE0.out.lt).trans v1, (hb.cell (p := ⟨_, 3 * k + 2, none⟩) HE0.out.lt).trans v2⟩
    have HBd : Hid (Below Wx.heap.size Wx Wx.drew) := hid (Below.refl Wx.heap.size Wx).drew
    clear y0 y1 y2 v0 v1 v2 u0
    unfold pptr
    gi_wp2_with fail
    refine region_held (S := fun w' => w'.cell? ⟨w.heap.size + 1 + 1, 0, none⟩ = some (.func (.func 30) #[] #[]) ∧ w'.cell? ⟨w.heap.size, 3 * k, none⟩ = some (.bool s) ∧ w'.cell? ⟨w.heap.size, 3 * k + 1, none⟩ = some (.slice A n c) ∧ w'.cell? ⟨w.heap.size, 3 * k + 2, none⟩ = some (.int .i64 xx) ∧
        w'.cell? ⟨w.heap.size + 1, 3 * k, none⟩ = some (.bool s2) ∧ w'.cell? ⟨w.heap.size + 1, 3 * k + 1, none⟩ = some (.slice A2 n2 c2) ∧ w'.cell? ⟨w.heap.size + 1, 3 * k + 2, none⟩ = some (.int .i64 xx2)) (by kernel_rfl) (by kernel_rfl) (by rintro ⟨a, w, h⟩; exact h) (CF.out _ HBd.out) (fun hHeld => ?_)
    refine wpAnyH_take (i := 0) (v := ?v16) rfl (by kernel_rfl) (by kernel_rfl) (by kernel_rfl) (fun _ _ _ h => h) (Or.inl ⟨by rfl, ?y16⟩) (by assumption) ?r16
    case y16 => (intro w0 hSw; (try dsimp only at hSw); (try simp only [List.getElem_toArray, List.getElem_cons_zero]); go_simp; try with_reducible rfl)
    (try simp only [Act.put, List.setIfInBounds_toArray, List.set_cons_zero, List.set_cons_succ, List.getElem_toArray, List.getElem_cons_zero])
    refine wpAnyH_take (i := 1) (v := ?v17) rfl (by kernel_rfl) (by kernel_rfl) (by kernel_rfl) (fun _ _ _ h => h) (Or.inl ⟨by rfl, ?y17⟩) (by assumption) ?r17
    case y17 => (intro w0 hSw; (try dsimp only at hSw); (try simp only [List.getElem_toArray, List.getElem_cons_succ, List.getElem_cons_zero]); go_simp; try with_reducible rfl)
    (try simp only [Act.put, List.setIfInBounds_toArray, List.set_cons_zero, List.set_cons_succ, List.getElem_toArray, List.getElem_cons_succ, List.getElem_cons_zero])
    refine wpAnyH_take (i := 2) (v := ?v18) rfl (by kernel_rfl) (by kernel_rfl) (by kernel_rfl) (fun _ _ _ h => h) (Or.inl ⟨by rfl, ?y18⟩) (by assumption) ?r18
    case y18 => (intro w0 hSw; (try dsimp only at hSw); (try simp only [List.getElem_toArray, List.getElem_cons_succ, List.getElem_cons_zero]); go_simp; try with_reducible rfl)
    (try simp only [Act.put, List.setIfInBounds_toArray, List.set_cons_zero, List.set_cons_succ, List.getElem_toArray, List.getElem_cons_succ, List.getElem_cons_zero])
    refine wpAnyH_take (i := 3) (v := ?v19) rfl (by kernel_rfl) (by kernel_rfl) (by kernel_rfl) (fun _ _ _ h => h) (Or.inl ⟨by rfl, ?y19⟩) (by assumption) ?r19
    case y19 => (intro w0 hSw; (try dsimp only at hSw); (try simp only [List.getElem_toArray, List.getElem_cons_succ, List.getElem_cons_zero]); go_simp; try with_reducible rfl)
    (try simp only [Act.put, List.setIfInBounds_toArray, List.set_cons_zero, List.set_cons_succ, List.getElem_toArray, List.getElem_cons_succ, List.getElem_cons_zero])
    refine wpAnyH_take (i := 4) (v := ?v20) rfl (by kernel_rfl) (by kernel_rfl) (by kernel_rfl) (fun _ _ _ h => h) (Or.inl ⟨by rfl, ?y20⟩) (by assumption) ?r20
    case y20 => (intro w0 hSw; (try dsimp only at hSw); (try simp only [List.getElem_toArray, List.getElem_cons_succ, List.getElem_cons_zero]); go_simp; try with_reducible rfl)
    (try simp only [Act.put, List.setIfInBounds_toArray, List.set_cons_zero, List.set_cons_succ, List.getElem_toArray, List.getElem_cons_succ, List.getElem_cons_zero])
    refine wpAnyH_take (i := 5) (v := ?v21) rfl (by kernel_rfl) (by kernel_rfl) (by kernel_rfl) (fun _ _ _ h => h) (Or.inl ⟨by rfl, ?y21⟩) (by assumption) ?r21
    case y21 => (intro w0 hSw; (try dsimp only at hSw); (try simp only [List.getElem_toArray, List.getElem_cons_succ, List.getElem_cons_zero]); go_simp; try with_reducible rfl)
    (try simp only [Act.put, List.setIfInBounds_toArray, List.set_cons_zero, List.set_cons_succ, List.getElem_toArray, List.getElem_cons_succ, List.getElem_cons_zero])
    refine wpAnyH_take (i := 6) (v := ?v22) rfl (by kernel_rfl) (by kernel_rfl) (by kernel_rfl) (fun _ _ _ h => h) (Or.inl ⟨by rfl, ?y22⟩) (by assumption) ?r22
    case y22 => (intro w0 hSw; (try dsimp only at hSw); (try simp only [List.getElem_toArray, List.getElem_cons_succ, List.getElem_cons_zero]); go_simp; try with_reducible rfl)
    (try simp only [Act.put, List.setIfInBounds_toArray, List.set_cons_zero, List.set_cons_succ, List.getElem_toArray, List.getElem_cons_succ, List.getElem_cons_zero])
    refine wpAnyH_ready (rs := [7, 11]) (by kernel_rfl) (by simp) ?_
    refine AllReadyH.cons rfl (fun K hK => ?_) ?_
    · (try simp only [Act.put, List.setIfInBounds_toArray, List.set_cons_zero, List.set_cons_succ, List.getElem_toArray, List.getElem_cons_succ, List.getElem_cons_zero])
      go_simp
      refine (CC.out _ HBd.out).mono ?_
      rintro e Wy ⟨v, er, rfl, HE, HD, hbel⟩
      obtain ⟨r, rfl, hown⟩ := HD.out.own
      have HO := hid hown
      obtain ⟨s1, A1, n1, c1, x1, f1⟩ := r
      have HBy := hid (HBd.out.trans (hbel.out.mono HBd.out.size))
      try dsimp only
      refine hK.out _ _ (CF.out _ HBy.out) (fun hHeld => ?_)
      clear hK K
      (try simp only [Act.put, List.setIfInBounds_toArray, List.set_cons_zero, List.set_cons_succ, List.getElem_toArray, List.getElem_cons_succ, List.getElem_cons_zero])
      refine wpAnyH_take (i := 8) (v := ?v23) rfl (by kernel_rfl) (by kernel_rfl) (by kernel_rfl) (fun _ _ _ h => h) (Or.inl ⟨by rfl, ?y23⟩) (by assumption) ?r23
      case y23 => (intro w0 hSw; (try dsimp only at hSw); (try simp only [List.getElem_toArray, List.getElem_cons_succ, List.getElem_cons_zero]); go_simp; try with_reducible rfl)
      (try simp only [Act.put, List.setIfInBounds_toArray, List.set_cons_zero, List.set_cons_succ, List.getElem_toArray, List.getElem_cons_succ, List.getElem_cons_zero])
      refine wpAnyH_take (i := 9) (v := ?v24) rfl (by kernel_rfl) (by kernel_rfl) (by kernel_rfl) (fun _ _ _ h => h) (Or.inl ⟨by rfl, ?y24⟩) (by assumption) ?r24
      case y24 => (intro w0 hSw; (try dsimp only at hSw); (try simp only [List.getElem_toArray, List.getElem_cons_succ, List.getElem_cons_zero]); go_simp; try with_reducible rfl)
      (try simp only [Act.put, List.setIfInBounds_toArray, List.set_cons_zero, List.set_cons_succ, List.getElem_toArray, List.getElem_cons_succ, List.getElem_cons_zero])
      refine wpAnyH_take (i := 10) (v := ?v25) rfl (by kernel_rfl) (by kernel_rfl) (by kernel_rfl) (fun _ _ _ h => h) (Or.inl ⟨by rfl, ?y25⟩) (by assumption) ?r25
      case y25 => (intro w0 hSw; (try dsimp only at hSw); (try simp only [List.getElem_toArray, List.getElem_cons_succ, List.getElem_cons_zero]); go_simp; try with_reducible rfl)
      (try simp only [Act.put, List.setIfInBounds_toArray, List.set_cons_zero, List.set_cons_succ, List.getElem_toArray, List.getElem_cons_succ, List.getElem_cons_zero])
      refine wpAnyH_ready (rs := [11]) (by kernel_rfl) (by simp) ?_
      refine AllReadyH.cons rfl (fun K hK => ?_) ?_
      · (try simp only [Act.put, List.setIfInBounds_toArray, List.set_cons_zero, List.set_cons_succ, List.getElem_toArray, List.getElem_cons_succ, List.getElem_cons_zero])
        go_simp
        refine hK.out _ _ (CF.out _ (HBy.out.alloc HBy.out.size _)) (fun hHeld => ?_)
        clear hK K
        (try simp only [Act.put, List.setIfInBounds_toArray, List.set_cons_zero, List.set_cons_succ, List.getElem_toArray, List.getElem_cons_succ, List.getElem_cons_zero])
        refine wpAnyH_ready (rs := [12]) (by kernel_rfl) (by simp) ?_
        refine AllReadyH.cons rfl (fun K hK => ?_) ?_
        · (try simp only [Act.put, List.getElem_toArray, List.getElem_cons_succ, List.getElem_cons_zero])
          go_simp
          refine hK.out _ _ (CF.out _ (HBy.out.alloc HBy.out.size _)) (fun hHeld => ?_)
          clear hK K
          (try simp only [Act.put, List.getElem_toArray, List.getElem_cons_succ, List.getElem_cons_zero])
          refine wpAnyH_take (i := 13) (v := ?v26) rfl (by kernel_rfl) (by kernel_rfl) (by kernel_rfl) (fun _ _ _ h => h) (Or.inl ⟨by rfl, ?y26⟩) (by assumption) ?r26
          case y26 => (intro w0 hSw; (try dsimp only at hSw); (try simp only [List.getElem_toArray, List.getElem_cons_succ, List.getElem_cons_zero]); go_simp; try with_reducible rfl)
          (try simp only [Act.put, List.setIfInBounds_toArray, List.set_cons_zero, List.set_cons_succ, List.getElem_toArray, List.getElem_cons_succ, List.getElem_cons_zero])
          refine wpAnyH_done (by kernel_rfl) ?_ _
          obtain ⟨Wz, hWz⟩ : ∃ Wz, Wz = Wy.alloc (.cells #[.bool s1, .slice A1 n1 c1, .int .i64 x1] 24) := ⟨_, rfl⟩
          rw [← hWz]
          have HBz : Hid (Below Wx.heap.size Wx Wz) := hid (hWz ▸ HBy.out.alloc HBy.out.size _)
          have Hbx : Hid (Dbox Wz Wy.heap.size s1 (.slice A1 n1 c1) x1) := hid (hWz ▸ heap_alloc_new Wy _)
          have Ho : Hid (Owd Wx.heap.size Wz (resD er (M k - N k)) ⟨s1, A1, n1, c1, x1, f1⟩) := hid (hWz ▸ Owd.below HO.out ((Below.refl _ Wy).alloc (Nat.le_refl _) _))
          clear hWz
          have hcase := HE.out.1 ⟨Hs.out.1, Hs.out.2.1⟩
          rw [Hs.out.2.2] at hcase
          have Rz := hid (HRb.out.below HBz.out HRb.out.lt)
          have E0z := hid (HE0.out.below HBz.out HE0.out.lt)
          have F0z := hid (Boxed.below' HF0.out HBz.out HF0.out.lt)
          have Q1z := hid (HQ1.out.below HBz.out HQ1.out.lt)
          have Q2z := hid (Boxed.below' HQ2.out HBz.out HQ2.out.lt)
          have Bz := hid (HB.out.trans (HBz.out.mono HB.out.size))
          have t0 := Hbx.out.c0
          have t1 := Hbx.out.c1
          have t2 := Hbx.out.c2
          rcases hcase with ⟨hok, rfl⟩ | ⟨hno, rfl⟩
          · obtain ⟨z0, z1, z2⟩ := Rz.out.cell Hk.out
            have g0 := Rz.out.frozen (3 * k)
            have g1 := Rz.out.frozen (3 * k + 1)
            have g2 := Rz.out.frozen (3 * k + 2)
            have HOk := hid hok
            have Ho := Ho.out
            rw [resD_ok rfl, Hs.out.2.2] at Ho
            have Ro := hid Ho
            clear hok Ho hHeld
            gi_wp2
            show KeepsFrom _ _ (mput Wz w.heap.size k ⟨s1, A1, n1, c1, x1, f1⟩) ∧ Kb _ _ (mput Wz w.heap.size k ⟨s1, A1, n1, c1, x1, f1⟩) ∧ JoI w H D E _ _ _ (mput Wz w.heap.size k ⟨s1, A1, n1, c1, x1, f1⟩)
            clear z0 z1 z2 g0 g1 g2 t0 t1 t2
            refine ⟨keeps_mput (keeps_below HBz.out), ((kb_below HBz.out ?kbA).mput ?n1A), ?invA⟩
            case kbA => intro b hb; have hb2 : b = W.heap.size ∨ b = W.heap.size + 1 := hb; have := Hs1.out; have := HZ.out; omega
            case n1A => intro hb; have hb2 : w.heap.size = W.heap.size ∨ w.heap.size = W.heap.size + 1 := hb; have := Hsz.out; omega
            case invA =>
              have e1 := Hsz.out
              have e2 := Hs1.out
              have e3 := HZ.out
              have e4 := Hkl.out
              refine ⟨E0z.out.mput_far (k := k) (d := ⟨s1, A1, n1, c1, x1, f1⟩) (by omega), Boxed.mput (k := k) (d := ⟨s1, A1, n1, c1, x1, f1⟩) F0z.out (by omega), Q1z.out.mput_far (k := k) (d := ⟨s1, A1, n1, c1, x1, f1⟩) (by omega), Boxed.mput (k := k) (d := ⟨s1, A1, n1, c1, x1, f1⟩) Q2z.out (by omega), below_mput (k := k) (d := ⟨s1, A1, n1, c1, x1, f1⟩) Bz.out (Nat.le_refl _), updD R k ⟨s1, A1, n1, c1, x1, f1⟩, Rz.out.put Hk.out ⟨s1, A1, n1, c1, x1, f1⟩, fun j hj hj2 => ?_, fun j hj hj2 => ?_⟩
              · rw [List.length_append, List.length_singleton] at hj2
                by_cases hjk : j = k
                · subst hjk
                  rw [updD_same]
                  exact ⟨(Ro.out.mono (by omega)).mput (by omega), HOk.out⟩
                · rw [updD_ne _ _ hjk]
                  exact ⟨((HT.out j hj (by omega)).1.below HBz.out).mput (by omega), (HT.out j hj (by omega)).2⟩
              · rw [List.length_append, List.length_singleton] at hj2
                rw [updD_ne _ _ (by omega)]
                exact HS.out j hj (by omega)
          · have HNo := hid hno
            have gz := grown_mstore Wz (w.heap.size + 1 + 1 + 1) D0
            have Q1s := hid (Q1z.out.store D0)
            have Q2s := hid (Boxed.grown' Q2z.out gz (by omega))
            have Bs := hid (below_row Bz.out gz Bz.out.size (by omega))
            have w0 := Q2s.out.cell
            have w1 := Q2s.out.frozen
            rw [show w.heap.size + 4 = w.heap.size + 1 + 1 + 1 + 1 from rfl] at w0 w1
            have Q1zz : Hid (Mbox Wz (w.heap.size + 1 + 1 + 1) D0) := Q1z
            have Gz := hid gz
            clear hno gz hHeld
            gi_wp2_with (first
              | (with_reducible refine wpin_mzero rfl (.tmp 6) (.tmp 28) rfl (w.heap.size + 1 + 1 + 1) D0 rfl rfl Q1zz.out ?_)
              | fail)
            show KeepsFrom _ _ ((mstore Wz (w.heap.size + 3) D0).setCell ⟨w.heap.size + 4, 0, none⟩ (.int .i64 10)) ∧ JoX w H ((mstore Wz (w.heap.size + 3) D0).setCell ⟨w.heap.size + 4, 0, none⟩ (.int .i64 10))
            have e1 := Hsz.out
            have e2 := Hs1.out
            exact ⟨(keeps_below HBz.out).trans ((KeepsFrom.of_grownBy Gz.out (fun j h => by injection h with h; omega)).trans ((KeepsOthers.setCell _ _ _).from _)),
              (Below.heap_setCell _ ⟨w.heap.size + 4, 0, none⟩ _ _ (by show w.heap.size + 3 ≠ w.heap.size + 4; omega)).trans Q1s.out, Q2s.out.set _, Bs.out.setCell (p := ⟨w.heap.size + 4, 0, none⟩) (by show w.heap.size ≤ w.heap.size + 4; omega) _, k, Hk.out, HNo.out⟩
        · exact AllReadyH.nil
      · exact AllReadyH.nil
    refine AllReadyH.cons rfl (fun K hK => ?_) AllReadyH.nil
    (try simp only [Act.put, List.setIfInBounds_toArray, List.set_cons_zero, List.set_cons_succ, List.getElem_toArray, List.getElem_cons_succ, List.getElem_cons_zero])
    go_simp
    have HBa := hid (HBd.out.alloc HBd.out.size (.cells #[.bool false, .slice none 0 0, .int .i64 0] 24))
    refine hK.out _ _ (CF.out _ HBa.out) (fun hHeld => ?_)
    clear hK K
    (try simp only [Act.put, List.setIfInBounds_toArray, List.set_cons_zero, List.set_cons_succ, List.getElem_toArray, List.getElem_cons_succ, List.getElem_cons_zero])
    refine wpAnyH_ready (rs := [7]) (by kernel_rfl) (by simp) ?_
    refine AllReadyH.cons rfl (fun K hK => ?_) AllReadyH.nil
    (try simp only [Act.put, List.setIfInBounds_toArray, List.set_cons_zero, List.set_cons_succ, List.getElem_toArray, List.getElem_cons_succ, List.getElem_cons_zero])
    go_simp
    refine (CC.out _ HBa.out).mono ?_
    rintro e Wy ⟨v, er, rfl, HE, HD, hbel⟩
    obtain ⟨r, rfl, hown⟩ := HD.out.own
    have HO := hid hown
    obtain ⟨s1, A1, n1, c1, x1, f1⟩ := r
    have Bx : Hid (Dbox Wy Wx.heap.size false (.slice none 0 0) 0) := hid (Dbox.below (show Dbox (Wx.drew.alloc (.cells #[.bool false, .slice none 0 0, .int .i64 0] 24)) Wx.heap.size false (.slice none 0 0) 0 from heap_alloc_new Wx.drew _) hbel.out (by simp))
    have HBy := hid (HBa.out.trans (hbel.out.mono HBa.out.size))
    have b0 := Bx.out.c0
    have b1 := Bx.out.c1
    have b2 := Bx.out.c2
    have g0 := Bx.out.frozen 0
    have g1 := Bx.out.frozen 1
    have g2 := Bx.out.frozen 2
    try dsimp only
    refine hK.out _ _ (CF.out _ HBy.out) (fun hHeld => ?_)
    clear hK K
    (try simp only [Act.put, List.setIfInBounds_toArray, List.set_cons_zero, List.set_cons_succ, List.getElem_toArray, List.getElem_cons_succ, List.getElem_cons_zero])
    refine wpAnyH_take (i := 8) (v := ?v27) rfl (by kernel_rfl) (by kernel_rfl) (by kernel_rfl) (fun _ _ _ h => h) (Or.inl ⟨by rfl, ?y27⟩) (by assumption) ?r27
    case y27 => (intro w0 hSw; (try dsimp only at hSw); (try simp only [List.getElem_toArray, List.getElem_cons_succ, List.getElem_cons_zero]); go_simp; try with_reducible rfl)
    (try simp only [Act.put, List.setIfInBounds_toArray, List.set_cons_zero, List.set_cons_succ, List.getElem_toArray, List.getElem_cons_succ, List.getElem_cons_zero])
    refine wpAnyH_take (i := 9) (v := ?v28) rfl (by kernel_rfl) (by kernel_rfl) (by kernel_rfl) (fun _ _ _ h => h) (Or.inl ⟨by rfl, ?y28⟩) (by assumption) ?r28
    case y28 => (intro w0 hSw; (try dsimp only at hSw); (try simp only [List.getElem_toArray, List.getElem_cons_succ, List.getElem_cons_zero]); go_simp; try with_reducible rfl)
    (try simp only [Act.put, List.setIfInBounds_toArray, List.set_cons_zero, List.set_cons_succ, List.getElem_toArray, List.getElem_cons_succ, List.getElem_cons_zero])
    refine wpAnyH_take (i := 10) (v := ?v29) rfl (by kernel_rfl) (by kernel_rfl) (by kernel_rfl) (fun _ _ _ h => h) (Or.inl ⟨by rfl, ?y29⟩) (by assumption) ?r29
    case y29 => (intro w0 hSw; (try dsimp only at hSw); (try simp only [List.getElem_toArray, List.getElem_cons_succ, List.getElem_cons_zero]); go_simp; try with_reducible rfl)
    (try simp only [Act.put, List.setIfInBounds_toArray, List.set_cons_zero, List.set_cons_succ, List.getElem_toArray, List.getElem_cons_succ, List.getElem_cons_zero])
    refine wpAnyH_ready (rs := [12]) (by kernel_rfl) (by simp) ?_
    refine AllReadyH.cons rfl (fun K hK => ?_) AllReadyH.nil
    (try simp only [Act.put, List.getElem_toArray, List.getElem_cons_succ, List.getElem_cons_zero])
    go_simp
    refine hK.out _ _ (CF.out _ (below_put3 HBy.out (Nat.le_refl _))) (fun hHeld => ?_)
    clear hK K
    (try simp only [Act.put, List.getElem_toArray, List.getElem_cons_succ, List.getElem_cons_zero])
    refine wpAnyH_take (i := 13) (v := ?v30) rfl (by kernel_rfl) (by kernel_rfl) (by kernel_rfl) (fun _ _ _ h => h) (Or.inl ⟨by rfl, ?y30⟩) (by assumption) ?r30
    case y30 => (intro w0 hSw; (try dsimp only at hSw); (try simp only [List.getElem_toArray, List.getElem_cons_succ, List.getElem_cons_zero]); go_simp; try with_reducible rfl)
    (try simp only [Act.put, List.setIfInBounds_toArray, List.set_cons_zero, List.set_cons_succ, List.getElem_toArray, List.getElem_cons_succ, List.getElem_cons_zero])
    refine wpAnyH_done (by kernel_rfl) ?_ _
    change Exit.then _ _ _ _ (put3 Wy Wx.heap.size s1 (.slice A1 n1 c1) x1)
    obtain ⟨Wz, hWz⟩ : ∃ Wz, Wz = put3 Wy Wx.heap.size s1 (.slice A1 n1 c1) x1 := ⟨_, rfl⟩
    rw [← hWz]
    have HBz : Hid (Below Wx.heap.size Wx Wz) := hid (hWz ▸ below_put3 HBy.out (Nat.le_refl _))
    have Hbx : Hid (Dbox Wz Wx.heap.size s1 (.slice A1 n1 c1) x1) := hid (hWz ▸ Bx.out.store)
    have Ho : Hid (Owd Wx.heap.size Wz (resD er (M k - N k)) ⟨s1, A1, n1, c1, x1, f1⟩) := hid (hWz ▸ ⟨(((HO.out.lim.far_ (g := Wx.heap.size) (by simp) 0 (.bool s1)).far_ (g := Wx.heap.size) (by simp) 1 (.slice A1 n1 c1)).far_ (g := Wx.heap.size) (by simp) 2 (.int .i64 x1)).mono (by simp), HO.out.may, HO.out.val⟩)
    clear hWz b0 b1 b2 g0 g1 g2
    have hcase := HE.out.1 ⟨Hs.out.1, Hs.out.2.1⟩
    rw [Hs.out.2.2] at hcase
    have Rz := hid (HRb.out.below HBz.out HRb.out.lt)
    have E0z := hid (HE0.out.below HBz.out HE0.out.lt)
    have F0z := hid (Boxed.below' HF0.out HBz.out HF0.out.lt)
    have Q1z := hid (HQ1.out.below HBz.out HQ1.out.lt)
    have Q2z := hid (Boxed.below' HQ2.out HBz.out HQ2.out.lt)
    have Bz := hid (HB.out.trans (HBz.out.mono HB.out.size))
    have t0 := Hbx.out.c0
    have t1 := Hbx.out.c1
    have t2 := Hbx.out.c2
    rcases hcase with ⟨hok, rfl⟩ | ⟨hno, rfl⟩
    · obtain ⟨z0, z1, z2⟩ := Rz.out.cell Hk.out
      have g0 := Rz.out.frozen (3 * k)
      have g1 := Rz.out.frozen (3 * k + 1)
      have g2 := Rz.out.frozen (3 * k + 2)
      have HOk := hid hok
      have Ho := Ho.out
      rw [resD_ok rfl, Hs.out.2.2] at Ho
      have Ro := hid Ho
      clear hok Ho hHeld
      gi_wp2
      show KeepsFrom _ _ (mput Wz w.heap.size k ⟨s1, A1, n1, c1, x1, f1⟩) ∧ Kb _ _ (mput Wz w.heap.size k ⟨s1, A1, n1, c1, x1, f1⟩) ∧ JoI w H D E _ _ _ (mput Wz w.heap.size k ⟨s1, A1, n1, c1, x1, f1⟩)
      clear z0 z1 z2 g0 g1 g2 t0 t1 t2
      refine ⟨keeps_mput (keeps_below HBz.out), ((kb_below HBz.out ?kbB).mput ?n1B), ?invB⟩
      case kbB => intro b hb; have hb2 : b = W.heap.size ∨ b = W.heap.size + 1 := hb; have := Hs1.out; have := HZ.out; omega
      case n1B => intro hb; have hb2 : w.heap.size = W.heap.size ∨ w.heap.size = W.heap.size + 1 := hb; have := Hsz.out; omega
      case invB =>
        have e1 := Hsz.out
        have e2 := Hs1.out
        have e3 := HZ.out
        have e4 := Hkl.out
        refine ⟨E0z.out.mput_far (k := k) (d := ⟨s1, A1, n1, c1, x1, f1⟩) (by omega), Boxed.mput (k := k) (d := ⟨s1, A1, n1, c1, x1, f1⟩) F0z.out (by omega), Q1z.out.mput_far (k := k) (d := ⟨s1, A1, n1, c1, x1, f1⟩) (by omega), Boxed.mput (k := k) (d := ⟨s1, A1, n1, c1, x1, f1⟩) Q2z.out (by omega), below_mput (k := k) (d := ⟨s1, A1, n1, c1, x1, f1⟩) Bz.out (Nat.le_refl _), updD R k ⟨s1, A1, n1, c1, x1, f1⟩, Rz.out.put Hk.out ⟨s1, A1, n1, c1, x1, f1⟩, fun j hj hj2 => ?_, fun j hj hj2 => ?_⟩
        · rw [List.length_append, List.length_singleton] at hj2
          by_cases hjk : j = k
          · subst hjk
            rw [updD_same]
            exact ⟨(Ro.out.mono (by omega)).mput (by omega), HOk.out⟩
          · rw [updD_ne _ _ hjk]
            exact ⟨((HT.out j hj (by omega)).1.below HBz.out).mput (by omega), (HT.out j hj (by omega)).2⟩
        · rw [List.length_append, List.length_singleton] at hj2
          rw [updD_ne _ _ (by omega)]
          exact HS.out j hj (by omega)
    · have HNo := hid hno
      have gz := grown_mstore Wz (w.heap.size + 1 + 1 + 1) D0
      have Q1s := hid (Q1z.out.store D0)
      have Q2s := hid (Boxed.grown' Q2z.out gz (by omega))
      have Bs := hid (below_row Bz.out gz Bz.out.size (by omega))
      have w0 := Q2s.out.cell
      have w1 := Q2s.out.frozen
      rw [show w.heap.size + 4 = w.heap.size + 1 + 1 + 1 + 1 from rfl] at w0 w1
      have Q1zz : Hid (Mbox Wz (w.heap.size + 1 + 1 + 1) D0) := Q1z
      have Gz := hid gz
      clear hno gz hHeld
      gi_wp2_with (first
        | (with_reducible refine wpin_mzero rfl (.tmp 6) (.tmp 28) rfl (w.heap.size + 1 + 1 + 1) D0 rfl rfl Q1zz.out ?_)
        | fail)
      show KeepsFrom _ _ ((mstore Wz (w.heap.size + 3) D0).setCell ⟨w.heap.size + 4, 0, none⟩ (.int .i64 10)) ∧ JoX w H ((mstore Wz (w.heap.size + 3) D0).setCell ⟨w.heap.size + 4, 0, none⟩ (.int .i64 10))
      have e1 := Hsz.out
      have e2 := Hs1.out
      exact ⟨(keeps_below HBz.out).trans ((KeepsFrom.of_grownBy Gz.out (fun j h => by injection h with h; omega)).trans ((KeepsOthers.setCell _ _ _).from _)),
        (Below.heap_setCell _ ⟨w.heap.size + 4, 0, none⟩ _ _ (by show w.heap.size + 3 ≠ w.heap.size + 4; omega)).trans Q1s.out, Q2s.out.set _, Bs.out.setCell (p := ⟨w.heap.size + 4, 0, none⟩) (by show w.heap.size ≤ w.heap.size + 4; omega) _, k, Hk.out, HNo.out⟩
  case done =>
    rintro D' ys Wx rfl hys ⟨hE, hF, hQ, hQ2, hB, R, hR, hT, hS⟩ hK
    have e1 := Hsz.out
    have e2 := Hs1.out
    have hl := fst4_pre hys
    have HP := hid hR
    have HQ : Hid (Mbox Wx (w.heap.size + 1 + 1 + 1) D0) := hid hQ
    have g1 := grown_mstore Wx (w.heap.size + 3) R
    have hK1 := (g1.block W1.heap.size (lt_of_heap hK) (by intro e; injection e with e; omega)).trans hK
    have b2 := Boxed.grown' hQ2 g1 (by omega)
    have x0 := b2.cell
    have x1 := b2.frozen
    have hB1 := below_row hB g1 hB.size (by omega)
    have hO1 : ∀ k, k < 4 → Owd (W1.heap.size + 2) (mstore Wx (w.heap.size + 3) R) (H k) (R k) := fun k hk => (hT k hk (by omega)).1.grown g1 (by omega)
    have hM1 := hQ.store R
    generalize hX1 : mstore Wx (w.heap.size + 3) R = X1 at *
    have HX1 := hid hX1
    have HO4 := hid (show All4 (fun k => Okay (H k)) from fun k hk => (hT k hk (by omega)).2)
    have hK2 := (KeepsOthers.setCell X1 ⟨w.heap.size + 4, 0, none⟩ (.int .i64 0)).same W1.heap.size _ hK1 rfl
    have HB2 := hid (hB1.setCell (p := ⟨w.heap.size + 4, 0, none⟩) (by show w.heap.size ≤ w.heap.size + 4; omega) (.int .i64 0))
    have HO2 := hid (show ∀ k, k < 4 → Owd (W1.heap.size + 2) (X1.setCell ⟨w.heap.size + 4, 0, none⟩ (.int .i64 0)) (H k) (R k) from fun k hk => ⟨(hO1 k hk).lim.far_ (by omega) _ _, (hO1 k hk).may, (hO1 k hk).val⟩)
    have HM2 := hid (show Mbox (X1.setCell ⟨w.heap.size + 4, 0, none⟩ (.int .i64 0)) (w.heap.size + 3) R from (Below.heap_setCell _ ⟨w.heap.size + 4, 0, none⟩ _ _ (by show w.heap.size + 3 ≠ w.heap.size + 4; omega)).trans hM1)
    have HE2 := hid (b2.set (.int .i64 0))
    have HK := hid hK2
    have He1 := hid e1
    have He2 := hid e2
    clear e1 e2 hl hR hQ hB hT hS hK g1 hK1 b2 hB1 hO1 hM1 hX1 hK2 hI0 hQ2 hE hF
    rw [show w.heap.size + 4 = w.heap.size + 1 + 1 + 1 + 1 from rfl] at x0 x1
    go_wp2_with (first
      | (with_reducible refine wp_mload rfl (.tmp 3) rfl w.heap.size R rfl HP.out ?_)
      | (with_reducible refine wp_mstore rfl (.tmp 6) (.tmp 33) rfl (w.heap.size + 1 + 1 + 1) D0 R rfl rfl HQ.out ?_; rw [HX1.out])
      | fail)
    refine ⟨by simp, .inl ⟨_, _, rfl, run_takeDeferred HK.out, ?_⟩⟩
    have e1 := He1.out
    have e2 := He2.out
    have g2 := grownBy_putObj' (X1.setCell ⟨w.heap.size + 4, 0, none⟩ (.int .i64 0)) W1.heap.size (.deferred none)
    exact ⟨_, mass_cells rfl _ _ (w.heap.size + 3) (w.heap.size + 4) R 0 rfl rfl (HM2.out.grown g2 (by omega)) (Boxed.grown' HE2.out g2 (by omega)), R, 0, rfl, .inl ⟨HO4.out, rfl⟩, (fun k hk => ((HO2.out k hk).grown g2 (by omega)).mono (by omega)), below_row HB2.out g2 HB2.out.size (by omega)⟩
  case stop =>
    rintro D' pre Wx rfl ⟨k, hk, hpre⟩ ⟨hQ, hQ2, hB, hN⟩ hK
    have HN := hid hN
    clear hN hpre
    gi_wp2
    refine ⟨by simp, .inl ⟨_, _, rfl, run_takeDeferred hK, ?_⟩⟩
    have e1 := Hsz.out
    have e2 := Hs1.out
    have g2 := grownBy_putObj' Wx W1.heap.size (.deferred none)
    exact ⟨_, mass_cells rfl _ _ (w.heap.size + 3) (w.heap.size + 4) D0 10 rfl rfl (hQ.grown g2 (by omega)) (Boxed.grown' hQ2 g2 (by omega)), D0, 10, rfl, .inr ⟨fun h => HN.out.elim fun j hj => hj.2 (h j hj.1), rfl⟩, Mow.zero _ _, below_row hB g2 hB.size (by omega)⟩

end Go.Proofs.YtelalanhalbicaaDoor
