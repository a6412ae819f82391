/- Package mass: joined, over dyad.Add and over dyad.Sub. -/
/- Package mass: Same. -/
/- Package mass: Add, Sub. -/
/- Package mass: Split. -/
import Derived.Test.YtejngjhdmneaiaaVaj

namespace Go.Proofs.Ytejngjhdmneaiaa
set_option maxRecDepth 100000
open Go.RowKit Go.Shelf
attribute [local go_sem] Oper.semAt_some

theorem new_at {w : World} {o : Obj} {g : Nat} (hg : g = w.heap.size) : (w.alloc o).heap[g]? = some o := by
  subst hg
  exact heap_alloc_new w o
theorem Boxed.alloc_ {W : World} {B : Nat} {t : TypeId} {v : Value} (h : Boxed W B t v) (o : Obj) : Boxed (W.alloc o) B t v := (Below.heap_alloc W o B h.lt).trans h
def JoX (w : World) (H : Nat → Int) (X : World) : Prop := Mbox X (w.heap.size + 3) D0 ∧ Boxed X (w.heap.size + 4) 32 (.int .i64 10) ∧ Below w.heap.size w X ∧ ∃ k, k < 4 ∧ ¬ Okay (H k)

end Go.Proofs.Ytejngjhdmneaiaa


namespace Go.Proofs.Ytejngjhdmneaiaa
set_option maxRecDepth 100000
open Go.RowKit Go.Shelf
attribute [local go_sem] Oper.semAt_some

/-- All of two dyads is the same. -/
def Dsm (d e : Dy) : Prop := d.s = e.s ∧ d.x = e.x ∧ d.n = e.n ∧ ∀ j, d.f j = e.f j
def SaI (w : World) (D E : Nat → Dy) (pre : List (Idx 4)) (X : World) : Prop :=
  Mbox X w.heap.size D ∧ Mbox X (w.heap.size + 1) E ∧ Boxed X (w.heap.size + 2) 4 (.bool false) ∧ Below w.heap.size w X ∧ ∀ p ∈ pre, Dsm (D p.1) (E p.1)
def SaX (w : World) (D E : Nat → Dy) (X : World) : Prop := Boxed X (w.heap.size + 2) 4 (.bool false) ∧ Below w.heap.size w X ∧ ¬ ∀ k, k < 4 → Dsm (D k) (E k)

set_option maxRecDepth 100000 in
set_option maxHeartbeats 4000000 in
theorem msame_raw {w : World} {D E : Nat → Dy} {P : Prop} (h : Mrd w w.heap.size D) (h2 : Mrd w w.heap.size E) (HP : Hid (P ↔ ∀ k, k < 4 → Dsm (D k) (E k))) :
    Calls Try.prog 26 #[.agg (mcells D), .agg (mcells E)] w (Says w P) := by
  obtain ⟨W, hW⟩ : ∃ W, W = ((w.alloc (.cells (mcells D) 27)).alloc (.cells (mcells E) 27)).alloc (.cells #[.bool false] 4) := ⟨_, rfl⟩
  have B0 := hid (show Below w.heap.size w W from hW ▸ (((Below.refl _ w).alloc (Nat.le_refl _) _).alloc (by simp) _).alloc (by simp; omega) _)
  have P0 : Hid (Mbox W w.heap.size D) := hid (hW ▸ ((show Mbox (w.alloc _) w.heap.size D from new_at rfl).alloc _).alloc _)
  have P1 : Hid (Mbox W (w.heap.size + 1) E) := hid (hW ▸ (show Mbox ((w.alloc _).alloc _) (w.heap.size + 1) E from new_at (by simp)).alloc _)
  have P2 : Hid (Boxed W (w.heap.size + 2) 4 (.bool false)) := hid (hW ▸ (new_at (by simp)))
  have HR := hid h
  have HR2 := hid h2
  have HW := hid hW
  clear hW h h2
  refine (callsIn_wide (n := 9)).1 ?_
  refine callsIn_of_wp_marks Try.func26 rfl trivial (wpIn_wide.2 ?_) rfl
  simp only [Try.ntmps26, List.size_toArray, List.length_cons, List.length_nil, Nat.reduceAdd, Nat.reduceSub, Array.replicate_succ, Array.replicate_zero, List.push_toArray, List.append_toArray, List.nil_append, List.cons_append]
  go_upto_region 1 with fail
  rw [← HW.out]
  go_wp2_with fail
  refine (callsIn_wide.1 (pairs_any 9 w.heap.size (w.heap.size + 1) W)).mono ?_
  rintro e W1 ⟨rfl, hW1⟩
  have bS : Boxed W1 W.heap.size 81 (.pointer (some ⟨w.heap.size, 0, none⟩)) := by rw [hW1]; exact heap_alloc2_old W _ _
  have bT : Boxed W1 (W.heap.size + 1) 81 (.pointer (some ⟨w.heap.size + 1, 0, none⟩)) := by rw [hW1]; exact heap_alloc2_new W _ _
  have B1 : Below W.heap.size W W1 := by rw [hW1]; exact ((Below.refl _ W).alloc (Nat.le_refl _) _).alloc (by simp) _
  have hsz : w.heap.size + 3 = W.heap.size := by rw [HW.out]; simp
  have Q0 := hid (P0.out.below B1 P0.out.lt)
  have Q1 := hid (P1.out.below B1 P1.out.lt)
  have Q2 := hid (Boxed.below' P2.out B1 P2.out.lt)
  have hs1 : W.heap.size + 2 = W1.heap.size := by rw [hW1]; simp
  have Hsz := hid hsz
  have Hs1 := hid hs1
  have HB1 := hid (B0.out.trans (B1.mono (by omega)))
  have HbS := hid bS
  have HbT := hid bT
  have hI0 : SaI w D E [] W1 := ⟨Q0.out, Q1.out, Q2.out, HB1.out, fun p hp => by cases hp⟩
  clear hW1 B1 bS bT hsz hs1
  go_wp2_with fail
  refine wpIn_wide.1 (range_overG (F := Fence.wide) (n := 9) (gf := 65) rfl (by omega) rfl trivial (enters_of Try.func65 (by kernel_rfl) rfl) (K := fun b => b = W.heap.size ∨ b = W.heap.size + 1) (g := W.heap.size) (.inl rfl) ?kw
    (pairs_comesG 8 (by omega) HbS.out.cell HbT.out.cell HbS.out.lt HbT.out.lt ?kw2) (fun _ => rfl) (SaI w D E) (fun _ => SaX w D E)
    ?keep ?keepx
    (fun s X Y r h _ _ => h) hI0 ?a1 ?assign ?body ?done ?stop)
  case kw => intro b hb; have hb2 : b = W.heap.size ∨ b = W.heap.size + 1 := hb; have := Hs1.out; omega
  case kw2 => intro b hb; have hb2 : b = W.heap.size ∨ b = W.heap.size + 1 := hb; have := Hs1.out; omega
  case keep =>
    rintro s X Y r ⟨g1, g2, g3, g4, h5⟩ hg hr
    have a1 := Hsz.out
    have a2 := Hs1.out
    exact ⟨g1.grown hg (by omega), g2.grown hg (by omega), Boxed.grown' g3 hg (by omega), below_row g4 hg g4.size (by omega), h5⟩
  case keepx =>
    rintro s X Y r ⟨h1, h2, h3⟩ hg hr
    have a1 := Hsz.out
    have a2 := Hs1.out
    exact ⟨Boxed.grown' h1 hg (by omega), below_row h2 hg h2.size (by omega), h3⟩
  case assign =>
    intro l x W K hK
    gi_wp2
    exact hK
  case body =>
    intro l pre x Wx hpre hZ hI
    obtain ⟨k, hk⟩ := x
    obtain ⟨hA, hE, hQ, hB, hp⟩ := hI
    have HA0 := hid hA
    have HE0 := hid hE
    have HQ0 := hid hQ
    have HB := hid hB
    have Hp := hid hp
    have HZ := hid hZ
    have Hk := hid hk
    have hd := ((HR.out k hk).below hB).mono hB.size
    have hd2 := ((HR2.out k hk).below hB).mono hB.size
    obtain ⟨m, hmm⟩ : ∃ m, m = D k := ⟨_, rfl⟩
    obtain ⟨m2, hmm2⟩ : ∃ m, m = E k := ⟨_, rfl⟩
    rw [← hmm] at hd
    rw [← hmm2] at hd2
    obtain ⟨y0, y1, y2⟩ := mcells_at hA hk hmm.symm
    obtain ⟨v0, v1, v2⟩ := mcells_at hE hk hmm2.symm
    obtain ⟨P1, hP1⟩ : ∃ P1 : Prop, P1 ↔ Dsm m m2 := ⟨_, Iff.rfl⟩
    have HP1 : Hid (P1 ↔ Dsm (D k) (E k)) := hid (by rw [hP1, hmm, hmm2])
    clear hmm hmm2 hA hE hQ hB hp hI0 hZ hpre
    obtain ⟨s, A, n, c, xx, f⟩ := m
    obtain ⟨s2, A2, n2, c2, xx2, f2⟩ := m2
    dsimp only at y0 y1 y2 v0 v1 v2 hd hd2
    have CC := hid (fun w' (hb : Below Wx.heap.size Wx w') => dsame_raw (s := s) (t := s2) (x := xx) (y := xx2) ((hd.below hb).mono hb.size) ((hd2.below hb).mono hb.size) (hid hP1))
    clear hd hd2 hP1
    have CF : Hid (∀ w', Below Wx.heap.size Wx w' → (w'.cell? ⟨w.heap.size, 3 * k, none⟩ = some (.bool s) ∧ w'.cell? ⟨w.heap.size, 3 * k + 1, none⟩ = some (.slice A n c) ∧ w'.cell? ⟨w.heap.size, 3 * k + 2, none⟩ = some (.int .i64 xx) ∧
        w'.cell? ⟨w.heap.size + 1, 3 * k, none⟩ = some (.bool s2) ∧ w'.cell? ⟨w.heap.size + 1, 3 * k + 1, none⟩ = some (.slice A2 n2 c2) ∧ w'.cell? ⟨w.heap.size + 1, 3 * k + 2, none⟩ = some (.int .i64 xx2))) := hid fun w' hb =>
      ⟨(hb.cell (p := ⟨_, 3 * k, none⟩) HA0.out.lt).trans y0, (hb.cell (p := ⟨_, 3 * k + 1, none⟩) HA0.out.lt).trans y1, (hb.cell (p := ⟨_, 3 * k + 2, none⟩) HA0.out.lt).trans y2, (hb.cell (p := ⟨_, 3 * k, none⟩) HE0.out.lt).trans v0, (hb.cell (p := ⟨_, 3 * k + 1, none⟩) HE0.out.lt).trans v1, (hb.cell (p := ⟨_, 3 * k + 2, none⟩) HE0.out.lt).trans v2⟩
    have HBd : Hid (Below Wx.heap.size Wx Wx.drew) := hid (Below.refl Wx.heap.size Wx).drew
    clear y0 y1 y2 v0 v1 v2
    unfold pptr
    gi_wp2_with fail
    refine region_held (S := fun w' => w'.cell? ⟨w.heap.size, 3 * k, none⟩ = some (.bool s) ∧ w'.cell? ⟨w.heap.size, 3 * k + 1, none⟩ = some (.slice A n c) ∧ w'.cell? ⟨w.heap.size, 3 * k + 2, none⟩ = some (.int .i64 xx) ∧
        w'.cell? ⟨w.heap.size + 1, 3 * k, none⟩ = some (.bool s2) ∧ w'.cell? ⟨w.heap.size + 1, 3 * k + 1, none⟩ = some (.slice A2 n2 c2) ∧ w'.cell? ⟨w.heap.size + 1, 3 * k + 2, none⟩ = some (.int .i64 xx2)) (by kernel_rfl) (by kernel_rfl) (by rintro ⟨a, w, h⟩; exact h) (CF.out _ HBd.out) (fun hHeld => ?_)
    refine wpAnyH_take (i := 0) (v := ?v1) rfl (by kernel_rfl) (by kernel_rfl) (by kernel_rfl) (fun _ _ _ h => h) (Or.inl ⟨by rfl, ?y1⟩) (by assumption) ?r1
    case y1 => (intro w0 hSw; (try dsimp only at hSw); (try simp only [List.getElem_toArray, List.getElem_cons_zero]); go_simp; try with_reducible rfl)
    (try simp only [Act.put, List.setIfInBounds_toArray, List.set_cons_zero, List.set_cons_succ, List.getElem_toArray, List.getElem_cons_zero])
    refine wpAnyH_take (i := 1) (v := ?v2) rfl (by kernel_rfl) (by kernel_rfl) (by kernel_rfl) (fun _ _ _ h => h) (Or.inl ⟨by rfl, ?y2⟩) (by assumption) ?r2
    case y2 => (intro w0 hSw; (try dsimp only at hSw); (try simp only [List.getElem_toArray, List.getElem_cons_succ, List.getElem_cons_zero]); go_simp; try with_reducible rfl)
    (try simp only [Act.put, List.setIfInBounds_toArray, List.set_cons_zero, List.set_cons_succ, List.getElem_toArray, List.getElem_cons_succ, List.getElem_cons_zero])
    refine wpAnyH_take (i := 2) (v := ?v3) rfl (by kernel_rfl) (by kernel_rfl) (by kernel_rfl) (fun _ _ _ h => h) (Or.inl ⟨by rfl, ?y3⟩) (by assumption) ?r3
    case y3 => (intro w0 hSw; (try dsimp only at hSw); (try simp only [List.getElem_toArray, List.getElem_cons_succ, List.getElem_cons_zero]); go_simp; try with_reducible rfl)
    (try simp only [Act.put, List.setIfInBounds_toArray, List.set_cons_zero, List.set_cons_succ, List.getElem_toArray, List.getElem_cons_succ, List.getElem_cons_zero])
    refine wpAnyH_take (i := 3) (v := ?v4) rfl (by kernel_rfl) (by kernel_rfl) (by kernel_rfl) (fun _ _ _ h => h) (Or.inl ⟨by rfl, ?y4⟩) (by assumption) ?r4
    case y4 => (intro w0 hSw; (try dsimp only at hSw); (try simp only [List.getElem_toArray, List.getElem_cons_succ, List.getElem_cons_zero]); go_simp; try with_reducible rfl)
    (try simp only [Act.put, List.setIfInBounds_toArray, List.set_cons_zero, List.set_cons_succ, List.getElem_toArray, List.getElem_cons_succ, List.getElem_cons_zero])
    refine wpAnyH_take (i := 4) (v := ?v5) rfl (by kernel_rfl) (by kernel_rfl) (by kernel_rfl) (fun _ _ _ h => h) (Or.inl ⟨by rfl, ?y5⟩) (by assumption) ?r5
    case y5 => (intro w0 hSw; (try dsimp only at hSw); (try simp only [List.getElem_toArray, List.getElem_cons_succ, List.getElem_cons_zero]); go_simp; try with_reducible rfl)
    (try simp only [Act.put, List.setIfInBounds_toArray, List.set_cons_zero, List.set_cons_succ, List.getElem_toArray, List.getElem_cons_succ, List.getElem_cons_zero])
    refine wpAnyH_take (i := 5) (v := ?v6) rfl (by kernel_rfl) (by kernel_rfl) (by kernel_rfl) (fun _ _ _ h => h) (Or.inl ⟨by rfl, ?y6⟩) (by assumption) ?r6
    case y6 => (intro w0 hSw; (try dsimp only at hSw); (try simp only [List.getElem_toArray, List.getElem_cons_succ, List.getElem_cons_zero]); go_simp; try with_reducible rfl)
    (try simp only [Act.put, List.setIfInBounds_toArray, List.set_cons_zero, List.set_cons_succ, List.getElem_toArray, List.getElem_cons_succ, List.getElem_cons_zero])
    refine wpAnyH_ready (rs := [6]) (by kernel_rfl) (by simp) ?_
    refine AllReadyH.cons rfl (fun K hK => ?_) AllReadyH.nil
    (try simp only [Act.put, List.setIfInBounds_toArray, List.set_cons_zero, List.set_cons_succ, List.getElem_toArray, List.getElem_cons_succ, List.getElem_cons_zero])
    go_simp
    refine (CC.out _ HBd.out).mono ?_
    rintro e Wy ⟨r, rfl, Hr, hbel⟩
    have HBy := hid (HBd.out.trans (hbel.out.mono HBd.out.size))
    try dsimp only
    refine hK.out _ _ (CF.out _ HBy.out) (fun hHeld => ?_)
    clear hK K
    (try simp only [Act.put, List.setIfInBounds_toArray, List.set_cons_zero, List.set_cons_succ, List.getElem_toArray, List.getElem_cons_succ, List.getElem_cons_zero])
    refine wpAnyH_take (i := 7) (v := ?v7) rfl (by kernel_rfl) (by kernel_rfl) (by kernel_rfl) (fun _ _ _ h => h) (Or.inl ⟨by rfl, ?y7⟩) (by assumption) ?r7
    case y7 => (intro w0 hSw; (try dsimp only at hSw); (try simp only [List.getElem_toArray, List.getElem_cons_succ, List.getElem_cons_zero]); go_simp; try with_reducible rfl)
    (try simp only [Act.put, List.setIfInBounds_toArray, List.set_cons_zero, List.set_cons_succ, List.getElem_toArray, List.getElem_cons_succ, List.getElem_cons_zero])
    refine wpAnyH_done (by kernel_rfl) ?_ _
    clear hHeld
    have HQy := hid (Boxed.below' HQ0.out HBy.out HQ0.out.lt)
    have By := hid (HB.out.trans (HBy.out.mono HB.out.size))
    have q0 := HQy.out.cell
    have q1 := HQy.out.frozen
    cases r with
    | true =>
      clear q0 q1
      gi_wp2
      refine ⟨keeps_below HBy.out, kb_below HBy.out ?kb, HA0.out.below HBy.out HA0.out.lt, HE0.out.below HBy.out HE0.out.lt, HQy.out, By.out, ?_⟩
      case kb => intro b hb; have hb2 : b = W.heap.size ∨ b = W.heap.size + 1 := hb; have := Hs1.out; have := HZ.out; omega
      intro p hp
      rcases List.mem_append.1 hp with h | h
      · exact Hp.out p h
      · obtain rfl : p = ⟨k, Hk.out⟩ := by simpa using h
        exact HP1.out.1 (Hr.out.1 (by trivial))
    | false =>
      gi_wp2
      refine ⟨(keeps_below HBy.out).trans ((KeepsOthers.setCell _ ⟨w.heap.size + 2, 0, none⟩ _).from _), HQy.out.set _, By.out.setCell (p := ⟨w.heap.size + 2, 0, none⟩) (by show w.heap.size ≤ w.heap.size + 2; omega) _, fun hall => ?_⟩
      have := Hr.out.2 (HP1.out.2 (hall k Hk.out))
      cases this
  case done =>
    rintro D' ys Wx rfl hys ⟨hA, hE, hQ, hB, hp⟩ hK
    have e1 := Hsz.out
    have e2 := Hs1.out
    have q0 := hQ.cell
    have q1 := hQ.frozen
    have hK2 := (KeepsOthers.setCell Wx ⟨w.heap.size + 2, 0, none⟩ (.bool true)).same W1.heap.size _ hK rfl
    have g2 := grownBy_putObj' (Wx.setCell ⟨w.heap.size + 2, 0, none⟩ (.bool true)) W1.heap.size (.deferred none)
    have hc := (Boxed.grown' (hQ.set (.bool true)) g2 (by omega)).cell
    have hB2 := (hB.setCell (p := ⟨w.heap.size + 2, 0, none⟩) (by show w.heap.size ≤ w.heap.size + 2; omega) (.bool true))
    have HB2 := hid (below_row hB2 g2 hB2.size (by omega))
    have HK := hid hK2
    have Hc := hid hc
    have HY := hid (show ∀ k, k < 4 → Dsm (D k) (E k) from fun k hk => by obtain ⟨p, hm, e⟩ := mem_fst hys hk; have := hp p hm; rw [e] at this; exact this)
    clear e1 e2 hA hE hQ hB hp hK hK2 g2 hc hB2 hys hI0
    go_wp2
    refine ⟨by simp, .inl ⟨_, _, rfl, run_takeDeferred HK.out, ?_⟩⟩
    have hc := Hc.out
    refine ⟨.bool true, by simp [results, Try.f26, go_sem, hc], true, rfl, ⟨fun _ => HP.out.2 HY.out, fun _ => rfl⟩, HB2.out⟩
  case stop =>
    rintro D' pre Wx rfl ⟨k, hk, hpre⟩ ⟨hQ, hB, hN⟩ hK
    have HN := hid hN
    clear hN hpre
    gi_wp2
    refine ⟨by simp, .inl ⟨_, _, rfl, run_takeDeferred hK, ?_⟩⟩
    have e1 := Hsz.out
    have e2 := Hs1.out
    have g2 := grownBy_putObj' Wx W1.heap.size (.deferred none)
    have hc := (Boxed.grown' hQ g2 (by omega)).cell
    refine ⟨.bool false, by simp [results, Try.f26, go_sem, hc], false, rfl, ⟨(fun h => by cases h), fun h => absurd (HP.out.1 h) HN.out⟩, below_row hB g2 hB.size (by omega)⟩

end Go.Proofs.Ytejngjhdmneaiaa


namespace Go.Proofs.Ytejngjhdmneaiaa
open Go.RowKit Go.Shelf

theorem ret_mass {fn : Func} {R : Ending → World → Prop} {a : Act} {w : World} {p u : Tmp} {g : Nat} {D : Nat → Dy} {er : Value} (h : fn.results = #[.cell p 27, .tmp u]) (hp : a.tmps.getD p undef = .pointer (some ⟨g, 0, none⟩)) (hu : a.tmps.getD u undef = er)
    (hd : a.defers = []) (hg : Mbox w g D) (hR : R (.returned (.tuple #[.agg (mcells D), er])) w) : bodyPost Try.prog fn R .ret a w := by
  refine bodyPost_ret ?_ hd hR
  rw [← hu]
  exact cells_agg_tmp h a.tmps w g _ _ _ _ hp hg Try.underlying27 rfl (mass_size_ D)

end Go.Proofs.Ytejngjhdmneaiaa


namespace Go.Proofs.Ytejngjhdmneaiaa
open Go.RowKit Go.Shelf

theorem yields_mload {ops : Array Oper} {S : World → Prop} {o : Oper} {a : Act} (hw : Region.wanted o (yielded ops a.tmps) = true) (x : Operand) (ho : o.op = .load 27 x)
    (g : Nat) (D : Nat → Dy) (hx : a.eval x = .pointer (some ⟨g, 0, none⟩)) (hS : ∀ w, S w → Mbox w g D) : YieldsIf Try.prog ops S o (.agg (mcells D)) a :=
  .inl ⟨hw, fun w hw' => by
    unfold execOp
    simp only [ho, hx, Instr.loadAt, Instr.sureAddr, Sem.run_bind, Sem.run_pure, Result.andThen_ok, run_loadVar_row w g _ 27 _ _ _ (hS w hw') Try.underlying27 rfl (mass_size_ D)]⟩
theorem wp1_mstore {o : Oper} {a : Act} {w : World} {K : Act → World → Prop} {Q : Exit → Act → World → Prop} (x y : Operand) (ho : o.op = .store 27 x y)
    (g : Nat) (D E : Nat → Dy) (hx : a.eval x = .pointer (some ⟨g, 0, none⟩)) (hy : a.eval y = .agg (mcells E)) (hg : Mbox w g D) (h : K (a.put o.dst undef) (mstore w g E)) : o.wp Try.prog a w K Q :=
  wp_store_mid _ x y ho g 0 (mcells E) hx hy (hg.there E) (mass_size_ E) (mcells_one E) h
theorem results_cct {fn : Func} {p q u : Tmp} {ty tz : TypeId} (h : fn.results = #[.cell p ty, .cell q tz, .tmp u]) (tmps : Array Value) (P : Program) (w : World) :
    (results fn tmps).run P w =
      ((asAddr (tmps.getD p undef)).run P w).andThen fun a w₁ => ((loadVar ty a).run P w₁).andThen fun x w₂ => ((asAddr (tmps.getD q undef)).run P w₂).andThen fun b w₃ => ((loadVar tz b).run P w₃).andThen fun y w₄ => .ok (.tuple #[x, y, tmps.getD u undef]) w₄ := by
  simp only [results, h]
  simp [Sem.run_bind, Result.andThen]
theorem ret_masses {fn : Func} {R : Ending → World → Prop} {a : Act} {w : World} {p q u : Tmp} {g k : Nat} {D E : Nat → Dy} {er : Value} (h : fn.results = #[.cell p 27, .cell q 27, .tmp u]) (hp : a.tmps.getD p undef = .pointer (some ⟨g, 0, none⟩)) (hq : a.tmps.getD q undef = .pointer (some ⟨k, 0, none⟩)) (hu : a.tmps.getD u undef = er)
    (hd : a.defers = []) (hg : Mbox w g D) (hk : Mbox w k E) (hR : R (.returned (.tuple #[.agg (mcells D), .agg (mcells E), er])) w) : bodyPost Try.prog fn R .ret a w := by
  refine bodyPost_ret ?_ hd hR
  have e1 := run_loadVar_row w g _ 27 _ _ _ hg Try.underlying27 rfl (mass_size_ D)
  have e2 := run_loadVar_row w k _ 27 _ _ _ hk Try.underlying27 rfl (mass_size_ E)
  rw [results_cct h, hp, hq, hu]
  simp only [asAddr, Result.andThen, Sem.run_pure, e1, e2]
theorem Mbox.at_ {w : World} {g : Nat} {D : Nat → Dy} (h : Mbox w g D) (j : Nat) (v : Value) (hv : (mcells D)[j]? = some v) : w.cell? ⟨g, j, none⟩ = some v := by
  rw [cell_of_row w g j _ _ (0, 0) h]
  exact hv
theorem ite_go {c P Q : Prop} [Decidable c] (hc : c) (h : P) : if c then P else Q := by rw [if_pos hc]; exact h
/-- Four of a kind. -/
def of4 {α : Type} (a b c d : α) : Nat → α
  | 0 => a
  | 1 => b
  | 2 => c
  | _ => d
theorem all_of4 {P : Nat → Prop} (h0 : P 0) (h1 : P 1) (h2 : P 2) (h3 : P 3) : ∀ k, k < 4 → P k := fun k hk => by
  have hc : k = 0 ∨ k = 1 ∨ k = 2 ∨ k = 3 := by omega
  rcases hc with rfl | rfl | rfl | rfl <;> assumption
/-- The dyad of nothing. -/
abbrev d0 : Dy := ⟨false, none, 0, 0, 0, fun _ => 0⟩
/-- The error of a split. -/
def Serr (p : Prop) (H0 H1 : Int) (er : Int) : Prop := (p → ((Okay H0 ∧ Okay H1) ∧ er = 0) ∨ (¬ (Okay H0 ∧ Okay H1) ∧ er = 10)) ∧ (¬ p → er = 8)
/-- What a split hands back: what is kept lies in memory that was made behind what is sent. -/
def SRes (w : World) (p : Prop) (M : Nat → Int) (H0 H1 : Int) (e : Ending) (w' : World) : Prop :=
  ∃ K S er, e = .returned (.tuple #[.agg (mcells K), .agg (mcells S), .int .i64 er]) ∧ Hid (Serr p H0 H1 er) ∧
    Hid (∃ B, w.heap.size ≤ B ∧ Mow B w' (resM er (of4 H0 H1 (M 2) (M 3))) K ∧ Mow w.heap.size w' (resM er (of4 H0 H1 0 0)) S ∧ Mrd w' B S) ∧ Hid (Below w.heap.size w w')

/-- What the last statement keeps. -/
def SpS (w : World) (g k B : Nat) (MK MS : Nat → Int) (K S : Nat → Dy) (X : World) : Prop :=
  Mbox X g K ∧ Mbox X k S ∧ Mow B X MK K ∧ Mow w.heap.size X MS S ∧ Mrd X B S ∧ Below w.heap.size w X ∧ w.heap.size ≤ g ∧ w.heap.size ≤ k ∧ g < B ∧ k < B ∧ g < k
theorem Mrd.grown_ {B r : Nat} {X Y : World} {S : Nat → Dy} {MS : Nat → Int} {C : Nat} (h : Mrd X B S) (ho : Mow C X MS S) (hg : X.grownBy Y (some r)) (hr : r < C) : Mrd Y B S := fun k hk =>
  ⟨(h k hk).cap, (h k hk).max, (h k hk).lt, (h k hk).out, fun hn => by
    obtain ⟨b, off, hA, hB, hc⟩ := (h k hk).at_ hn
    refine ⟨b, off, hA, hB, fun j hj => ?_⟩
    have hne : b ≠ r := by
      rcases (ho k hk).lim.own with ⟨_, h0, _⟩ | ⟨g, cs, hA2, hB2, _⟩
      · omega
      · rw [hA2] at hA
        injection hA with hA
        injection hA with hA
        omega
    have hlt : b < X.heap.size := block_lt_of_cell (hc j hj)
    rw [← hc j hj]
    exact World.cell?_of_block (hg.block b hlt (by intro e; injection e with e; exact hne e))⟩

theorem Mrd.zero (B : Nat) (w : World) : Mrd w B D0 := fun _ _ => Rd.nil w B
theorem drew_below (B : Nat) (w : World) : Below B w w.drew := (Below.refl B w).drew
theorem SpS.drew_ {w : World} {g k B C : Nat} {MK MS : Nat → Int} {K S : Nat → Dy} {X : World} (h : SpS w g k B MK MS K S X ∧ Mow C X MS S) : SpS w g k B MK MS K S X.drew ∧ Mow C X.drew MS S := by
  obtain ⟨⟨a1, a2, a3, a4, a5, a6, a7, a8, a9, a10, a11⟩, h2⟩ := h
  exact ⟨⟨a1, a2, a3.below (drew_below _ _), a4.below (drew_below _ _), a5.below (drew_below _ _), a6.drew, a7, a8, a9, a10, a11⟩, h2.below (drew_below _ _)⟩

theorem SpS.put {w : World} {g k B C : Nat} {MK MS : Nat → Int} {K S : Nat → Dy} {X Y : World} {r : Nat} (h : SpS w g k B MK MS K S X) (hS : Mow C X MS S) (hC : w.heap.size ≤ C) (hgC : g < C) (hkC : k < C) (hg : X.grownBy Y (some r)) (hr : r = g ∨ r = k) (h1 : Mbox Y g K) (h2 : Mbox Y k S) : SpS w g k B MK MS K S Y ∧ Mow C Y MS S := by
  obtain ⟨a1, a2, a3, a4, a5, a6, a7, a8, a9, a10, a11⟩ := h
  have hS2 : Mow C Y MS S := fun j hj => (hS j hj).grown hg (by omega)
  exact ⟨⟨h1, h2, fun j hj => (a3 j hj).grown hg (by omega), fun j hj => (hS2 j hj).mono hC, a5.grown_ hS hg (by omega), below_row a6 hg a6.size (by omega), a7, a8, a9, a10, a11⟩, hS2⟩


end Go.Proofs.Ytejngjhdmneaiaa

