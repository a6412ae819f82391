/- Package mail: Check. -/
/- A mail that may be: its content, as it is written. -/
/- What the reader reads, of which bytes. No program is walked here. -/
import Derived.Test.YtbankbehfjogpaaGreatVam
import Derived.Test.YtbankbehfjogpaaGreatVan
namespace Go.Proofs.YtbankbehfjogpaaGreat
open Go.RowKit Go.Shelf Go.Lib
set_option maxRecDepth 100000
theorem yields_pload {ops : Array Oper} {S : World → Prop} {o : Oper} {a : Act} (hw : Region.wanted o (yielded ops a.tmps) = true) (x : Operand) (ho : o.op = .load 31 x)
    (g : Nat) (m : Md) (hx : a.eval x = .pointer (some ⟨g, 0, none⟩)) (hS : ∀ w, S w → Pbox w g m) : YieldsIf Tryz.prog ops S o (.agg (mdc m)) a :=
  .inl ⟨hw, fun w hw' => by
    unfold execOp
    simp only [ho, hx, Instr.loadAt, Instr.sureAddr, Sem.run_bind, Sem.run_pure, Result.andThen_ok, run_loadVar_row w g _ 31 _ _ _ (hS w hw') Tryz.underlying31 rfl (mail_size_ m)]⟩
theorem head_yes {w : World} {m : Md} (h : HMay m) : Calls Tryz.prog 35 #[.agg (mdc m)] w fun e w' => e = .returned (.bool true) ∧ Hid (Below w.heap.size w w') :=
  (mayHead_any (P := True) (hid ⟨fun _ => h, fun _ => trivial⟩)).mono fun _ _ ⟨r, he, hr, hb⟩ => ⟨by rw [he, hr.out.2 trivial], hb⟩
theorem head_no {w : World} {m : Md} (h : ¬ HMay m) : Calls Tryz.prog 35 #[.agg (mdc m)] w fun e w' => e = .returned (.bool false) ∧ Hid (Below w.heap.size w w') :=
  (mayHead_any (P := False) (hid ⟨fun h => h.elim, fun x => h x⟩)).mono fun _ _ ⟨r, he, hr, hb⟩ => ⟨by cases r with | false => exact he | true => exact (hr.out.1 rfl).elim, hb⟩
theorem use_yes {w : World} {m : Md} {l : List De} {t : Nat → Nat} (hp : Prd w w.heap.size m l t) (h : UMay m l t) : Calls Tryz.prog 36 #[.agg (mdc m)] w fun e w' => e = .returned (.bool true) ∧ Hid (Below w.heap.size w w') :=
  (mayUse_any (P := True) hp (hid ⟨fun _ => h, fun _ => trivial⟩)).mono fun _ _ ⟨r, he, hr, hb⟩ => ⟨by rw [he, hr.out.2 trivial], hb⟩
theorem use_no {w : World} {m : Md} {l : List De} {t : Nat → Nat} (hp : Prd w w.heap.size m l t) (h : ¬ UMay m l t) : Calls Tryz.prog 36 #[.agg (mdc m)] w fun e w' => e = .returned (.bool false) ∧ Hid (Below w.heap.size w w') :=
  (mayUse_any (P := False) hp (hid ⟨fun h => h.elim, fun x => h x⟩)).mono fun _ _ ⟨r, he, hr, hb⟩ => ⟨by cases r with | false => exact he | true => exact (hr.out.1 rfl).elim, hb⟩
theorem dsm_iff {D E : Dy} {d : Ddy} (h : DV E d) (hx : 0 ≤ D.x) : Dsm D E ↔ ddy D = d := by
  obtain ⟨h1, h2, h3, h4⟩ := h
  constructor
  · rintro ⟨a, b, c, e⟩
    exact dy_ext (a.trans h1) (c.trans h2) (fun j => (e j).trans (by rw [h3])) (by show D.x.toNat = d.x; omega)
  · intro e
    have e1 := congrArg Ddy.s e
    have e2 := congrArg Ddy.n e
    have e3 := congrArg Ddy.f e
    have e4 := congrArg Ddy.x e
    simp only [ddy] at e1 e2 e3 e4
    exact ⟨e1.trans h1.symm, by omega, e2.trans h2.symm, fun j => by rw [h3, ← e3]⟩
theorem psm_out {w w' : World} {B C : Nat} {Dv : World → Dy → Prop} {m m' : Md} {l : List De} {t : Nat → Nat} {M : Ml} (h : Prd w C m l t) (hx : ∀ k, k < 4 → 0 ≤ (m.D k).x) (ho : Out Dv w' B m' M) :
    PSm m m' l M.ls t (fun j => (M.le[j]?).getD 0) ↔ mlOf m l t = M := by
  have d0 := dsm_iff ho.S (hx 0 (by omega))
  have d1 := dsm_iff ho.W (hx 1 (by omega))
  have d2 := dsm_iff ho.C (hx 2 (by omega))
  have d3 := dsm_iff ho.A (hx 3 (by omega))
  have hl := ho.tg.rd.1
  obtain ⟨kd, fr, tu, ep, nu, ab, S, W, Cc, A, wa, ls, ha, mn, mx, le⟩ := M
  dsimp only at *
  have ht : (m.k = m'.k ∧ ∀ j, t j = (le[j]?).getD 0) ↔ (List.range m.k).map t = le := by
    constructor
    · rintro ⟨a, b⟩
      apply List.ext_getElem?
      intro j
      rcases Nat.lt_or_ge j m.k with hj | hj
      · have hj2 : j < le.length := by omega
        rw [List.getElem?_map, List.getElem?_range hj, List.getElem?_eq_getElem hj2]
        have := b j
        rw [List.getElem?_eq_getElem hj2] at this
        exact congrArg some this
      · rw [List.getElem?_eq_none (by simpa using hj), List.getElem?_eq_none (by omega)]
    · intro e
      refine ⟨by rw [← hl, ← e]; simp, fun j => ?_⟩
      rw [← e, range_map_get m.k t h.tg.out j]
  unfold PSm ISm mlOf
  rw [ho.kd, ho.fr, ho.tu, ho.ep, ho.nu, ho.ab, ho.wa, ho.ha, ho.mn, ho.mx, ht]
  simp only [Ml.mk.injEq]
  constructor
  · rintro ⟨⟨a1, a2, a3, a4, a5, a6⟩, hd, a7, a8, ⟨a9, a10, a11⟩, a12⟩
    exact ⟨a1, a2, a3, a4, a5, a6, d0.1 (hd 0 (by omega)), d1.1 (hd 1 (by omega)), d2.1 (hd 2 (by omega)), d3.1 (hd 3 (by omega)), a7, a8, a9, a10, a11, a12⟩
  · rintro ⟨a1, a2, a3, a4, a5, a6, b0, b1, b2, b3, a7, a8, a9, a10, a11, a12⟩
    refine ⟨⟨a1, a2, a3, a4, a5, a6⟩, fun k hk => ?_, a7, a8, ⟨a9, a10, a11⟩, a12⟩
    have hc : k = 0 ∨ k = 1 ∨ k = 2 ∨ k = 3 := by omega
    rcases hc with rfl | rfl | rfl | rfl
    · exact d0.2 b0
    · exact d1.2 b1
    · exact d2.2 b2
    · exact d3.2 b3
theorem along_kd {σ : Type} (W : Walker σ) (s : σ) (M : Ml) : (alongP W s M).1.kd = M.kd := by
  unfold alongP kindP hedP mz
  split
  · rfl
  split
  · rfl
  split
  · rfl
  split
  · rfl
  split
  · rfl
  split <;> rfl
theorem bad_no {l : List De} (h : kchk l = 0) : l.length ≤ 64 ∧ ∀ d ∈ l, 0 ≤ d.1 ∧ d.1 < 8 ∧ 0 ≤ d.2 ∧ d.2 ≤ 2147483647 := by
  obtain ⟨h1, h2⟩ := chk_zero.1 h
  refine ⟨h1, fun d hd => ?_⟩
  have h3 := List.any_eq_false.1 h2 d hd
  unfold bad at h3
  simp only [Bool.or_eq_true, decide_eq_true_eq, not_or, Int.not_lt, Int.not_le] at h3
  omega
theorem alok_of {m : Md} {l : List De} {t : Nat → Nat} (hk : m.kd < 256) (h1 : HMay m) (h2 : UMay m l t) : AlOk Wid () (mlOf m l t) := by
  obtain ⟨_, a1, a2, a3, a4⟩ := h1
  obtain ⟨b1, _, b3, b4, b5⟩ := h2
  obtain ⟨c1, c2⟩ := bad_no b3
  have e : -2147483648 ≤ m.mn ∧ m.mn < 2147483648 ∧ -2147483648 ≤ m.mx ∧ m.mx < 2147483648 := by
    unfold EMay at b4
    split at b4 <;> omega
  have := b5.1
  exact ⟨hk, ⟨a1.1, by show m.fr < _; omega⟩, ⟨a2.1, by show m.tu < _; omega⟩, ⟨a3.1, by show m.ep < _; omega⟩, ⟨a4.1, by show m.nu < _; omega⟩, ⟨b1.1, by show m.ab < _; omega⟩, fun d hd => by obtain ⟨x1, x2, x3, x4⟩ := c2 d hd; omega, by show l.length ≤ 1000; omega, ⟨e.1, e.2.1⟩, ⟨e.2.2.1, e.2.2.2⟩, by show ((List.range m.k).map t).length ≤ 1000; simp; omega, fun s n hn => hn⟩
set_option maxHeartbeats 12800000 in
theorem check_head {w : World} {m : Md} {l : List De} {t : Nat → Nat} (h : Prd w w.heap.size m l t) (hn : ¬ HMay m) :
    Calls Tryz.prog 11 #[.agg (mdc m)] w fun e w' => e = .returned (.int .i64 100) ∧ Hid (Below w.heap.size w w') := by
  obtain ⟨W, hW⟩ : ∃ W, W = w.alloc (.cells (mdc m) 31) := ⟨_, rfl⟩
  have K := hid (show Below w.heap.size w W from hW ▸ (Below.refl _ w).alloc (Nat.le_refl _) _)
  have X := hid (show Pbox W w.heap.size m from hW ▸ heap_alloc_new w _)
  have HW := hid hW
  have H := hid h
  have CH := hid (fun Y => head_no (w := Y) hn)
  clear hn
  clear hW h
  go_enter Tryz.func11, Tryz.ntmps11
  go_upto_region 1 with fail
  rw [← HW.out]
  clear HW
  have CF : Hid (∀ Y, Below W.heap.size W Y → Pbox Y w.heap.size m) := hid fun Y hb => X.out.below hb X.out.lt
  have BX : Hid (Below W.heap.size W W.drew) := hid (Below.refl W.heap.size W).drew
  refine wp_region_held_drew (S := fun X => Pbox X w.heap.size m) (by kernel_rfl) (CF.out _ BX.out) (fun hHeld => ?_)
  refine wpAnyH_take (i := 0) rfl (by kernel_rfl) (by kernel_rfl) (by kernel_rfl) (fun _ _ _ h => h) (yields_pload (by rfl) (.tmp 1) rfl w.heap.size m rfl (fun X hX => hX)) hHeld ?_
  (try simp only [Act.put, List.setIfInBounds_toArray, List.set_cons_zero, List.set_cons_succ, List.getElem_toArray, List.getElem_cons_zero])
  refine wpAnyH_ready (rs := [1]) (by kernel_rfl) (by simp) ?_
  refine AllReadyH.cons rfl (fun K' hK => ?_) AllReadyH.nil
  (try simp only [Act.put, List.setIfInBounds_toArray, List.set_cons_zero, List.set_cons_succ, List.getElem_toArray, List.getElem_cons_succ, List.getElem_cons_zero])
  go_simp
  refine (CH.out _).mono ?_
  rintro e y1 ⟨rfl, hb⟩
  replace BX := hid (BX.out.trans (hb.out.mono BX.out.size))
  clear hb
  try dsimp only
  refine hK.out _ _ (CF.out _ BX.out) (fun hHeld => ?_)
  clear hK K'
  (try simp only [Act.put, List.setIfInBounds_toArray, List.set_cons_zero, List.set_cons_succ, List.getElem_toArray, List.getElem_cons_succ, List.getElem_cons_zero])
  refine wpAnyH_take (i := 2) (v := ?v1) rfl (by kernel_rfl) (by kernel_rfl) (by kernel_rfl) (fun _ _ _ h => h) (Or.inl ⟨by rfl, ?y1⟩) (by assumption) ?r1
  case y1 => (intro w0 hSw; (try dsimp only at hSw); (try simp only [List.getElem_toArray, List.getElem_cons_succ, List.getElem_cons_zero]); go_simp; try with_reducible rfl)
  (try simp only [Act.put, List.setIfInBounds_toArray, List.set_cons_zero, List.set_cons_succ, List.getElem_toArray, List.getElem_cons_succ, List.getElem_cons_zero])
  refine wpAnyH_take (i := 3) rfl (by kernel_rfl) (by kernel_rfl) (by kernel_rfl) (fun _ _ _ h => h) (Or.inr ⟨by rfl, rfl⟩) hHeld ?_
  (try simp only [Act.put, List.setIfInBounds_toArray, List.set_cons_zero, List.set_cons_succ, List.getElem_toArray, List.getElem_cons_succ, List.getElem_cons_zero])
  refine wpAnyH_take (i := 4) rfl (by kernel_rfl) (by kernel_rfl) (by kernel_rfl) (fun _ _ _ h => h) (Or.inr ⟨by rfl, rfl⟩) hHeld ?_
  (try simp only [Act.put, List.setIfInBounds_toArray, List.set_cons_zero, List.set_cons_succ, List.getElem_toArray, List.getElem_cons_succ, List.getElem_cons_zero])
  refine wpAnyH_take (i := 5) (v := ?v2) rfl (by kernel_rfl) (by kernel_rfl) (by kernel_rfl) (fun _ _ _ h => h) (Or.inl ⟨by rfl, ?y2⟩) (by assumption) ?r2
  case y2 => (intro w0 hSw; (try dsimp only at hSw); (try simp only [List.getElem_toArray, List.getElem_cons_succ, List.getElem_cons_zero]); go_simp; try with_reducible rfl)
  (try simp only [Act.put, List.setIfInBounds_toArray, List.set_cons_zero, List.set_cons_succ, List.getElem_toArray, List.getElem_cons_succ, List.getElem_cons_zero])
  refine wpAnyH_take (i := 6) (v := ?v3) rfl (by kernel_rfl) (by kernel_rfl) (by kernel_rfl) (fun _ _ _ h => h) (Or.inl ⟨by rfl, ?y3⟩) (by assumption) ?r3
  case y3 => (intro w0 hSw; (try dsimp only at hSw); (try simp only [List.getElem_toArray, List.getElem_cons_succ, List.getElem_cons_zero]); go_simp; try with_reducible rfl)
  (try simp only [Act.put, List.setIfInBounds_toArray, List.set_cons_zero, List.set_cons_succ, List.getElem_toArray, List.getElem_cons_succ, List.getElem_cons_zero])
  refine wpAnyH_take (i := 7) rfl (by kernel_rfl) (by kernel_rfl) (by kernel_rfl) (fun _ _ _ h => h) (Or.inr ⟨by rfl, rfl⟩) hHeld ?_
  (try simp only [Act.put, List.setIfInBounds_toArray, List.set_cons_zero, List.set_cons_succ, List.getElem_toArray, List.getElem_cons_succ, List.getElem_cons_zero])
  refine wpAnyH_take (i := 8) rfl (by kernel_rfl) (by kernel_rfl) (by kernel_rfl) (fun _ _ _ h => h) (Or.inr ⟨by rfl, rfl⟩) hHeld ?_
  (try simp only [Act.put, List.setIfInBounds_toArray, List.set_cons_zero, List.set_cons_succ, List.getElem_toArray, List.getElem_cons_succ, List.getElem_cons_zero])
  refine wpAnyH_take (i := 9) rfl (by kernel_rfl) (by kernel_rfl) (by kernel_rfl) (fun _ _ _ h => h) (Or.inr ⟨by rfl, rfl⟩) hHeld ?_
  (try simp only [Act.put, List.setIfInBounds_toArray, List.set_cons_zero, List.set_cons_succ, List.getElem_toArray, List.getElem_cons_succ, List.getElem_cons_zero])
  refine wpAnyH_take (i := 10) rfl (by kernel_rfl) (by kernel_rfl) (by kernel_rfl) (fun _ _ _ h => h) (Or.inr ⟨by rfl, rfl⟩) hHeld ?_
  (try simp only [Act.put, List.setIfInBounds_toArray, List.set_cons_zero, List.set_cons_succ, List.getElem_toArray, List.getElem_cons_succ, List.getElem_cons_zero])
  refine wpAnyH_take (i := 11) (v := ?v4) rfl (by kernel_rfl) (by kernel_rfl) (by kernel_rfl) (fun _ _ _ h => h) (Or.inl ⟨by rfl, ?y4⟩) (by assumption) ?r4
  case y4 => (intro w0 hSw; (try dsimp only at hSw); (try simp only [List.getElem_toArray, List.getElem_cons_succ, List.getElem_cons_zero]); go_simp; try with_reducible rfl)
  (try simp only [Act.put, List.setIfInBounds_toArray, List.set_cons_zero, List.set_cons_succ, List.getElem_toArray, List.getElem_cons_succ, List.getElem_cons_zero])
  refine wpAnyH_done (by kernel_rfl) ?_ _
  clear CH
  go_wp2
  go_ret
  exact ⟨rfl, hid (K.out.trans (BX.out.mono K.out.size))⟩
set_option maxHeartbeats 12800000 in
theorem check_use {w : World} {m : Md} {l : List De} {t : Nat → Nat} (h : Prd w w.heap.size m l t) (hy : HMay m) (hn : ¬ UMay m l t) :
    Calls Tryz.prog 11 #[.agg (mdc m)] w fun e w' => e = .returned (.int .i64 100) ∧ Hid (Below w.heap.size w w') := by
  obtain ⟨W, hW⟩ : ∃ W, W = w.alloc (.cells (mdc m) 31) := ⟨_, rfl⟩
  have K := hid (show Below w.heap.size w W from hW ▸ (Below.refl _ w).alloc (Nat.le_refl _) _)
  have X := hid (show Pbox W w.heap.size m from hW ▸ heap_alloc_new w _)
  have HW := hid hW
  have H := hid h
  have CH := hid (fun Y => head_yes (w := Y) hy)
  have CU := hid (fun Y (hb : Below w.heap.size w Y) => use_no (H.out.on hb) hn)
  clear hn hy
  clear hW h
  go_enter Tryz.func11, Tryz.ntmps11
  go_upto_region 1 with fail
  rw [← HW.out]
  clear HW
  have CF : Hid (∀ Y, Below W.heap.size W Y → Pbox Y w.heap.size m) := hid fun Y hb => X.out.below hb X.out.lt
  have BX : Hid (Below W.heap.size W W.drew) := hid (Below.refl W.heap.size W).drew
  refine wp_region_held_drew (S := fun X => Pbox X w.heap.size m) (by kernel_rfl) (CF.out _ BX.out) (fun hHeld => ?_)
  refine wpAnyH_take (i := 0) rfl (by kernel_rfl) (by kernel_rfl) (by kernel_rfl) (fun _ _ _ h => h) (yields_pload (by rfl) (.tmp 1) rfl w.heap.size m rfl (fun X hX => hX)) hHeld ?_
  (try simp only [Act.put, List.setIfInBounds_toArray, List.set_cons_zero, List.set_cons_succ, List.getElem_toArray, List.getElem_cons_zero])
  refine wpAnyH_ready (rs := [1]) (by kernel_rfl) (by simp) ?_
  refine AllReadyH.cons rfl (fun K' hK => ?_) AllReadyH.nil
  (try simp only [Act.put, List.setIfInBounds_toArray, List.set_cons_zero, List.set_cons_succ, List.getElem_toArray, List.getElem_cons_succ, List.getElem_cons_zero])
  go_simp
  refine (CH.out _).mono ?_
  rintro e y1 ⟨rfl, hb⟩
  replace BX := hid (BX.out.trans (hb.out.mono BX.out.size))
  clear hb
  try dsimp only
  refine hK.out _ _ (CF.out _ BX.out) (fun hHeld => ?_)
  clear hK K'
  (try simp only [Act.put, List.setIfInBounds_toArray, List.set_cons_zero, List.set_cons_succ, List.getElem_toArray, List.getElem_cons_succ, List.getElem_cons_zero])
  refine wpAnyH_take (i := 2) (v := ?v1) rfl (by kernel_rfl) (by kernel_rfl) (by kernel_rfl) (fun _ _ _ h => h) (Or.inl ⟨by rfl, ?y1⟩) (by assumption) ?r1
  case y1 => (intro w0 hSw; (try dsimp only at hSw); (try simp only [List.getElem_toArray, List.getElem_cons_succ, List.getElem_cons_zero]); go_simp; try with_reducible rfl)
  (try simp only [Act.put, List.setIfInBounds_toArray, List.set_cons_zero, List.set_cons_succ, List.getElem_toArray, List.getElem_cons_succ, List.getElem_cons_zero])
  refine wpAnyH_take (i := 3) rfl (by kernel_rfl) (by kernel_rfl) (by kernel_rfl) (fun _ _ _ h => h) (yields_pload (by rfl) (.tmp 1) rfl w.heap.size m rfl (fun X hX => hX)) hHeld ?_
  (try simp only [Act.put, List.setIfInBounds_toArray, List.set_cons_zero, List.set_cons_succ, List.getElem_toArray, List.getElem_cons_succ, List.getElem_cons_zero])
  refine wpAnyH_ready (rs := [4]) (by kernel_rfl) (by simp) ?_
  refine AllReadyH.cons rfl (fun K' hK => ?_) AllReadyH.nil
  (try simp only [Act.put, List.setIfInBounds_toArray, List.set_cons_zero, List.set_cons_succ, List.getElem_toArray, List.getElem_cons_succ, List.getElem_cons_zero])
  go_simp
  refine (CU.out _ (K.out.trans (BX.out.mono K.out.size))).mono ?_
  rintro e y4 ⟨rfl, hb⟩
  replace BX := hid (BX.out.trans (hb.out.mono BX.out.size))
  clear hb
  try dsimp only
  refine hK.out _ _ (CF.out _ BX.out) (fun hHeld => ?_)
  clear hK K'
  (try simp only [Act.put, List.setIfInBounds_toArray, List.set_cons_zero, List.set_cons_succ, List.getElem_toArray, List.getElem_cons_succ, List.getElem_cons_zero])
  refine wpAnyH_take (i := 5) (v := ?v2) rfl (by kernel_rfl) (by kernel_rfl) (by kernel_rfl) (fun _ _ _ h => h) (Or.inl ⟨by rfl, ?y2⟩) (by assumption) ?r2
  case y2 => (intro w0 hSw; (try dsimp only at hSw); (try simp only [List.getElem_toArray, List.getElem_cons_succ, List.getElem_cons_zero]); go_simp; try with_reducible rfl)
  (try simp only [Act.put, List.setIfInBounds_toArray, List.set_cons_zero, List.set_cons_succ, List.getElem_toArray, List.getElem_cons_succ, List.getElem_cons_zero])
  refine wpAnyH_take (i := 6) (v := ?v3) rfl (by kernel_rfl) (by kernel_rfl) (by kernel_rfl) (fun _ _ _ h => h) (Or.inl ⟨by rfl, ?y3⟩) (by assumption) ?r3
  case y3 => (intro w0 hSw; (try dsimp only at hSw); (try simp only [List.getElem_toArray, List.getElem_cons_succ, List.getElem_cons_zero]); go_simp; try with_reducible rfl)
  (try simp only [Act.put, List.setIfInBounds_toArray, List.set_cons_zero, List.set_cons_succ, List.getElem_toArray, List.getElem_cons_succ, List.getElem_cons_zero])
  refine wpAnyH_take (i := 7) rfl (by kernel_rfl) (by kernel_rfl) (by kernel_rfl) (fun _ _ _ h => h) (Or.inr ⟨by rfl, rfl⟩) hHeld ?_
  (try simp only [Act.put, List.setIfInBounds_toArray, List.set_cons_zero, List.set_cons_succ, List.getElem_toArray, List.getElem_cons_succ, List.getElem_cons_zero])
  refine wpAnyH_take (i := 8) rfl (by kernel_rfl) (by kernel_rfl) (by kernel_rfl) (fun _ _ _ h => h) (Or.inr ⟨by rfl, rfl⟩) hHeld ?_
  (try simp only [Act.put, List.setIfInBounds_toArray, List.set_cons_zero, List.set_cons_succ, List.getElem_toArray, List.getElem_cons_succ, List.getElem_cons_zero])
  refine wpAnyH_take (i := 9) rfl (by kernel_rfl) (by kernel_rfl) (by kernel_rfl) (fun _ _ _ h => h) (Or.inr ⟨by rfl, rfl⟩) hHeld ?_
  (try simp only [Act.put, List.setIfInBounds_toArray, List.set_cons_zero, List.set_cons_succ, List.getElem_toArray, List.getElem_cons_succ, List.getElem_cons_zero])
  refine wpAnyH_take (i := 10) rfl (by kernel_rfl) (by kernel_rfl) (by kernel_rfl) (fun _ _ _ h => h) (Or.inr ⟨by rfl, rfl⟩) hHeld ?_
  (try simp only [Act.put, List.setIfInBounds_toArray, List.set_cons_zero, List.set_cons_succ, List.getElem_toArray, List.getElem_cons_succ, List.getElem_cons_zero])
  refine wpAnyH_take (i := 11) (v := ?v4) rfl (by kernel_rfl) (by kernel_rfl) (by kernel_rfl) (fun _ _ _ h => h) (Or.inl ⟨by rfl, ?y4⟩) (by assumption) ?r4
  case y4 => (intro w0 hSw; (try dsimp only at hSw); (try simp only [List.getElem_toArray, List.getElem_cons_succ, List.getElem_cons_zero]); go_simp; try with_reducible rfl)
  (try simp only [Act.put, List.setIfInBounds_toArray, List.set_cons_zero, List.set_cons_succ, List.getElem_toArray, List.getElem_cons_succ, List.getElem_cons_zero])
  refine wpAnyH_done (by kernel_rfl) ?_ _
  clear CH CU
  go_wp2
  go_ret
  exact ⟨rfl, hid (K.out.trans (BX.out.mono K.out.size))⟩
set_option maxHeartbeats 12800000 in
theorem check_same {w : World} {m : Md} {l : List De} {t : Nat → Nat} (h : Prd w w.heap.size m l t) (hy : HMay m) (hu : UMay m l t) (hq : UseOk (mlOf m l t)) :
    Calls Tryz.prog 11 #[.agg (mdc m)] w fun e w' => e = .returned (.int .i64 0) ∧ Hid (Below w.heap.size w w') := by
  obtain ⟨W, hW⟩ : ∃ W, W = w.alloc (.cells (mdc m) 31) := ⟨_, rfl⟩
  have K := hid (show Below w.heap.size w W from hW ▸ (Below.refl _ w).alloc (Nat.le_refl _) _)
  have X := hid (show Pbox W w.heap.size m from hW ▸ heap_alloc_new w _)
  have HW := hid hW
  have H := hid h
  have CH := hid (fun Y => head_yes (w := Y) hy)
  have CU := hid (fun Y (hb : Below w.heap.size w Y) => use_yes (H.out.on hb) hu)
  have hx : ∀ k, k < 4 → 0 ≤ (m.D k).x := fun k hk => (hu.2.1 k hk).2.1
  have hal := alok_of h.kd hy hu
  have CD := hid (fun Y (hb : Below w.heap.size w Y) => used_any (Arg.of (H.out.on hb) hx) hal)
  have HQ := hid (used_iff hal (show 1 ≤ (mlOf m l t).kd ∧ (mlOf m l t).kd ≤ 6 from hy.1))
  have HX := hid hx
  have Hq := hid hq
  clear hy hu hx hal hq
  clear hW h
  go_enter Tryz.func11, Tryz.ntmps11
  go_upto_region 1 with fail
  rw [← HW.out]
  clear HW
  have CF : Hid (∀ Y, Below W.heap.size W Y → Pbox Y w.heap.size m) := hid fun Y hb => X.out.below hb X.out.lt
  have BX : Hid (Below W.heap.size W W.drew) := hid (Below.refl W.heap.size W).drew
  refine wp_region_held_drew (S := fun X => Pbox X w.heap.size m) (by kernel_rfl) (CF.out _ BX.out) (fun hHeld => ?_)
  refine wpAnyH_take (i := 0) rfl (by kernel_rfl) (by kernel_rfl) (by kernel_rfl) (fun _ _ _ h => h) (yields_pload (by rfl) (.tmp 1) rfl w.heap.size m rfl (fun X hX => hX)) hHeld ?_
  (try simp only [Act.put, List.setIfInBounds_toArray, List.set_cons_zero, List.set_cons_succ, List.getElem_toArray, List.getElem_cons_zero])
  refine wpAnyH_ready (rs := [1]) (by kernel_rfl) (by simp) ?_
  refine AllReadyH.cons rfl (fun K' hK => ?_) AllReadyH.nil
  (try simp only [Act.put, List.setIfInBounds_toArray, List.set_cons_zero, List.set_cons_succ, List.getElem_toArray, List.getElem_cons_succ, List.getElem_cons_zero])
  go_simp
  refine (CH.out _).mono ?_
  rintro e y1 ⟨rfl, hb⟩
  replace BX := hid (BX.out.trans (hb.out.mono BX.out.size))
  clear hb
  try dsimp only
  refine hK.out _ _ (CF.out _ BX.out) (fun hHeld => ?_)
  clear hK K'
  (try simp only [Act.put, List.setIfInBounds_toArray, List.set_cons_zero, List.set_cons_succ, List.getElem_toArray, List.getElem_cons_succ, List.getElem_cons_zero])
  refine wpAnyH_take (i := 2) (v := ?v1) rfl (by kernel_rfl) (by kernel_rfl) (by kernel_rfl) (fun _ _ _ h => h) (Or.inl ⟨by rfl, ?y1⟩) (by assumption) ?r1
  case y1 => (intro w0 hSw; (try dsimp only at hSw); (try simp only [List.getElem_toArray, List.getElem_cons_succ, List.getElem_cons_zero]); go_simp; try with_reducible rfl)
  (try simp only [Act.put, List.setIfInBounds_toArray, List.set_cons_zero, List.set_cons_succ, List.getElem_toArray, List.getElem_cons_succ, List.getElem_cons_zero])
  refine wpAnyH_take (i := 3) rfl (by kernel_rfl) (by kernel_rfl) (by kernel_rfl) (fun _ _ _ h => h) (yields_pload (by rfl) (.tmp 1) rfl w.heap.size m rfl (fun X hX => hX)) hHeld ?_
  (try simp only [Act.put, List.setIfInBounds_toArray, List.set_cons_zero, List.set_cons_succ, List.getElem_toArray, List.getElem_cons_succ, List.getElem_cons_zero])
  refine wpAnyH_ready (rs := [4]) (by kernel_rfl) (by simp) ?_
  refine AllReadyH.cons rfl (fun K' hK => ?_) AllReadyH.nil
  (try simp only [Act.put, List.setIfInBounds_toArray, List.set_cons_zero, List.set_cons_succ, List.getElem_toArray, List.getElem_cons_succ, List.getElem_cons_zero])
  go_simp
  refine (CU.out _ (K.out.trans (BX.out.mono K.out.size))).mono ?_
  rintro e y4 ⟨rfl, hb⟩
  replace BX := hid (BX.out.trans (hb.out.mono BX.out.size))
  clear hb
  try dsimp only
  refine hK.out _ _ (CF.out _ BX.out) (fun hHeld => ?_)
  clear hK K'
  (try simp only [Act.put, List.setIfInBounds_toArray, List.set_cons_zero, List.set_cons_succ, List.getElem_toArray, List.getElem_cons_succ, List.getElem_cons_zero])
  refine wpAnyH_take (i := 5) (v := ?v2) rfl (by kernel_rfl) (by kernel_rfl) (by kernel_rfl) (fun _ _ _ h => h) (Or.inl ⟨by rfl, ?y2⟩) (by assumption) ?r2
  case y2 => (intro w0 hSw; (try dsimp only at hSw); (try simp only [List.getElem_toArray, List.getElem_cons_succ, List.getElem_cons_zero]); go_simp; try with_reducible rfl)
  (try simp only [Act.put, List.setIfInBounds_toArray, List.set_cons_zero, List.set_cons_succ, List.getElem_toArray, List.getElem_cons_succ, List.getElem_cons_zero])
  refine wpAnyH_take (i := 6) (v := ?v3) rfl (by kernel_rfl) (by kernel_rfl) (by kernel_rfl) (fun _ _ _ h => h) (Or.inl ⟨by rfl, ?y3⟩) (by assumption) ?r3
  case y3 => (intro w0 hSw; (try dsimp only at hSw); (try simp only [List.getElem_toArray, List.getElem_cons_succ, List.getElem_cons_zero]); go_simp; try with_reducible rfl)
  (try simp only [Act.put, List.setIfInBounds_toArray, List.set_cons_zero, List.set_cons_succ, List.getElem_toArray, List.getElem_cons_succ, List.getElem_cons_zero])
  refine wpAnyH_take (i := 7) rfl (by kernel_rfl) (by kernel_rfl) (by kernel_rfl) (fun _ _ _ h => h) (yields_pload (by rfl) (.tmp 1) rfl w.heap.size m rfl (fun X hX => hX)) hHeld ?_
  (try simp only [Act.put, List.setIfInBounds_toArray, List.set_cons_zero, List.set_cons_succ, List.getElem_toArray, List.getElem_cons_succ, List.getElem_cons_zero])
  refine wpAnyH_take (i := 8) rfl (by kernel_rfl) (by kernel_rfl) (by kernel_rfl) (fun _ _ _ h => h) (yields_pload (by rfl) (.tmp 1) rfl w.heap.size m rfl (fun X hX => hX)) hHeld ?_
  (try simp only [Act.put, List.setIfInBounds_toArray, List.set_cons_zero, List.set_cons_succ, List.getElem_toArray, List.getElem_cons_succ, List.getElem_cons_zero])
  refine wpAnyH_ready (rs := [9]) (by kernel_rfl) (by simp) ?_
  refine AllReadyH.cons rfl (fun K' hK => ?_) AllReadyH.nil
  (try simp only [Act.put, List.setIfInBounds_toArray, List.set_cons_zero, List.set_cons_succ, List.getElem_toArray, List.getElem_cons_succ, List.getElem_cons_zero])
  go_simp
  refine (CD.out _ (K.out.trans (BX.out.mono K.out.size))).mono ?_
  rintro e y9 ⟨m', rfl, hO, hb⟩
  replace BX := hid (BX.out.trans (hb.out.mono BX.out.size))
  have HSz := hid hb.out.size
  clear hb
  try dsimp only
  refine hK.out _ _ (CF.out _ BX.out) (fun hHeld => ?_)
  clear hK K'
  (try simp only [Act.put, List.setIfInBounds_toArray, List.set_cons_zero, List.set_cons_succ, List.getElem_toArray, List.getElem_cons_succ, List.getElem_cons_zero])
  have HPD := hid ((hO.out.prd (by rw [along_kd]; exact H.out.kd) (fun D h => h.mono HSz.out)))
  have HE := hid (psm_out H.out HX.out hO.out)
  have CS := hid (wsame_any (H.out.on (K.out.trans (BX.out.mono K.out.size))) HPD.out (P := True) (hid ⟨fun _ => HE.out.2 (HQ.out.2 Hq.out).symm, fun _ => trivial⟩))
  refine wpAnyH_ready (rs := [10]) (by kernel_rfl) (by simp) ?_
  refine AllReadyH.cons rfl (fun K' hK => ?_) AllReadyH.nil
  (try simp only [Act.put, List.setIfInBounds_toArray, List.set_cons_zero, List.set_cons_succ, List.getElem_toArray, List.getElem_cons_succ, List.getElem_cons_zero])
  go_simp
  refine (CS.out).mono ?_
  rintro e y10 ⟨q, rfl, hr, hb⟩
  replace BX := hid (BX.out.trans (hb.out.mono BX.out.size))
  obtain rfl : q = true := hr.out.2 trivial
  clear hb hr
  try dsimp only
  refine hK.out _ _ (CF.out _ BX.out) (fun hHeld => ?_)
  clear hK K'
  (try simp only [Act.put, List.setIfInBounds_toArray, List.set_cons_zero, List.set_cons_succ, List.getElem_toArray, List.getElem_cons_succ, List.getElem_cons_zero])
  refine wpAnyH_take (i := 11) (v := ?v4) rfl (by kernel_rfl) (by kernel_rfl) (by kernel_rfl) (fun _ _ _ h => h) (Or.inl ⟨by rfl, ?y4⟩) (by assumption) ?r4
  case y4 => (intro w0 hSw; (try dsimp only at hSw); (try simp only [List.getElem_toArray, List.getElem_cons_succ, List.getElem_cons_zero]); go_simp; try with_reducible rfl)
  (try simp only [Act.put, List.setIfInBounds_toArray, List.set_cons_zero, List.set_cons_succ, List.getElem_toArray, List.getElem_cons_succ, List.getElem_cons_zero])
  refine wpAnyH_done (by kernel_rfl) ?_ _
  clear CH CU CD CS
  go_wp2
  go_ret
  exact ⟨rfl, hid (K.out.trans (BX.out.mono K.out.size))⟩
set_option maxHeartbeats 12800000 in
theorem check_other {w : World} {m : Md} {l : List De} {t : Nat → Nat} (h : Prd w w.heap.size m l t) (hy : HMay m) (hu : UMay m l t) (hq : ¬ UseOk (mlOf m l t)) :
    Calls Tryz.prog 11 #[.agg (mdc m)] w fun e w' => e = .returned (.int .i64 100) ∧ Hid (Below w.heap.size w w') := by
  obtain ⟨W, hW⟩ : ∃ W, W = w.alloc (.cells (mdc m) 31) := ⟨_, rfl⟩
  have K := hid (show Below w.heap.size w W from hW ▸ (Below.refl _ w).alloc (Nat.le_refl _) _)
  have X := hid (show Pbox W w.heap.size m from hW ▸ heap_alloc_new w _)
  have HW := hid hW
  have H := hid h
  have CH := hid (fun Y => head_yes (w := Y) hy)
  have CU := hid (fun Y (hb : Below w.heap.size w Y) => use_yes (H.out.on hb) hu)
  have hx : ∀ k, k < 4 → 0 ≤ (m.D k).x := fun k hk => (hu.2.1 k hk).2.1
  have hal := alok_of h.kd hy hu
  have CD := hid (fun Y (hb : Below w.heap.size w Y) => used_any (Arg.of (H.out.on hb) hx) hal)
  have HQ := hid (used_iff hal (show 1 ≤ (mlOf m l t).kd ∧ (mlOf m l t).kd ≤ 6 from hy.1))
  have HX := hid hx
  have Hq := hid hq
  clear hy hu hx hal hq
  clear hW h
  go_enter Tryz.func11, Tryz.ntmps11
  go_upto_region 1 with fail
  rw [← HW.out]
  clear HW
  have CF : Hid (∀ Y, Below W.heap.size W Y → Pbox Y w.heap.size m) := hid fun Y hb => X.out.below hb X.out.lt
  have BX : Hid (Below W.heap.size W W.drew) := hid (Below.refl W.heap.size W).drew
  refine wp_region_held_drew (S := fun X => Pbox X w.heap.size m) (by kernel_rfl) (CF.out _ BX.out) (fun hHeld => ?_)
  refine wpAnyH_take (i := 0) rfl (by kernel_rfl) (by kernel_rfl) (by kernel_rfl) (fun _ _ _ h => h) (yields_pload (by rfl) (.tmp 1) rfl w.heap.size m rfl (fun X hX => hX)) hHeld ?_
  (try simp only [Act.put, List.setIfInBounds_toArray, List.set_cons_zero, List.set_cons_succ, List.getElem_toArray, List.getElem_cons_zero])
  refine wpAnyH_ready (rs := [1]) (by kernel_rfl) (by simp) ?_
  refine AllReadyH.cons rfl (fun K' hK => ?_) AllReadyH.nil
  (try simp only [Act.put, List.setIfInBounds_toArray, List.set_cons_zero, List.set_cons_succ, List.getElem_toArray, List.getElem_cons_succ, List.getElem_cons_zero])
  go_simp
  refine (CH.out _).mono ?_
  rintro e y1 ⟨rfl, hb⟩
  replace BX := hid (BX.out.trans (hb.out.mono BX.out.size))
  clear hb
  try dsimp only
  refine hK.out _ _ (CF.out _ BX.out) (fun hHeld => ?_)
  clear hK K'
  (try simp only [Act.put, List.setIfInBounds_toArray, List.set_cons_zero, List.set_cons_succ, List.getElem_toArray, List.getElem_cons_succ, List.getElem_cons_zero])
  refine wpAnyH_take (i := 2) (v := ?v1) rfl (by kernel_rfl) (by kernel_rfl) (by kernel_rfl) (fun _ _ _ h => h) (Or.inl ⟨by rfl, ?y1⟩) (by assumption) ?r1
  case y1 => (intro w0 hSw; (try dsimp only at hSw); (try simp only [List.getElem_toArray, List.getElem_cons_succ, List.getElem_cons_zero]); go_simp; try with_reducible rfl)
  (try simp only [Act.put, List.setIfInBounds_toArray, List.set_cons_zero, List.set_cons_succ, List.getElem_toArray, List.getElem_cons_succ, List.getElem_cons_zero])
  refine wpAnyH_take (i := 3) rfl (by kernel_rfl) (by kernel_rfl) (by kernel_rfl) (fun _ _ _ h => h) (yields_pload (by rfl) (.tmp 1) rfl w.heap.size m rfl (fun X hX => hX)) hHeld ?_
  (try simp only [Act.put, List.setIfInBounds_toArray, List.set_cons_zero, List.set_cons_succ, List.getElem_toArray, List.getElem_cons_succ, List.getElem_cons_zero])
  refine wpAnyH_ready (rs := [4]) (by kernel_rfl) (by simp) ?_
  refine AllReadyH.cons rfl (fun K' hK => ?_) AllReadyH.nil
  (try simp only [Act.put, List.setIfInBounds_toArray, List.set_cons_zero, List.set_cons_succ, List.getElem_toArray, List.getElem_cons_succ, List.getElem_cons_zero])
  go_simp
  refine (CU.out _ (K.out.trans (BX.out.mono K.out.size))).mono ?_
  rintro e y4 ⟨rfl, hb⟩
  replace BX := hid (BX.out.trans (hb.out.mono BX.out.size))
  clear hb
  try dsimp only
  refine hK.out _ _ (CF.out _ BX.out) (fun hHeld => ?_)
  clear hK K'
  (try simp only [Act.put, List.setIfInBounds_toArray, List.set_cons_zero, List.set_cons_succ, List.getElem_toArray, List.getElem_cons_succ, List.getElem_cons_zero])
  refine wpAnyH_take (i := 5) (v := ?v2) rfl (by kernel_rfl) (by kernel_rfl) (by kernel_rfl) (fun _ _ _ h => h) (Or.inl ⟨by rfl, ?y2⟩) (by assumption) ?r2
  case y2 => (intro w0 hSw; (try dsimp only at hSw); (try simp only [List.getElem_toArray, List.getElem_cons_succ, List.getElem_cons_zero]); go_simp; try with_reducible rfl)
  (try simp only [Act.put, List.setIfInBounds_toArray, List.set_cons_zero, List.set_cons_succ, List.getElem_toArray, List.getElem_cons_succ, List.getElem_cons_zero])
  refine wpAnyH_take (i := 6) (v := ?v3) rfl (by kernel_rfl) (by kernel_rfl) (by kernel_rfl) (fun _ _ _ h => h) (Or.inl ⟨by rfl, ?y3⟩) (by assumption) ?r3
  case y3 => (intro w0 hSw; (try dsimp only at hSw); (try simp only [List.getElem_toArray, List.getElem_cons_succ, List.getElem_cons_zero]); go_simp; try with_reducible rfl)
  (try simp only [Act.put, List.setIfInBounds_toArray, List.set_cons_zero, List.set_cons_succ, List.getElem_toArray, List.getElem_cons_succ, List.getElem_cons_zero])
  refine wpAnyH_take (i := 7) rfl (by kernel_rfl) (by kernel_rfl) (by kernel_rfl) (fun _ _ _ h => h) (yields_pload (by rfl) (.tmp 1) rfl w.heap.size m rfl (fun X hX => hX)) hHeld ?_
  (try simp only [Act.put, List.setIfInBounds_toArray, List.set_cons_zero, List.set_cons_succ, List.getElem_toArray, List.getElem_cons_succ, List.getElem_cons_zero])
  refine wpAnyH_take (i := 8) rfl (by kernel_rfl) (by kernel_rfl) (by kernel_rfl) (fun _ _ _ h => h) (yields_pload (by rfl) (.tmp 1) rfl w.heap.size m rfl (fun X hX => hX)) hHeld ?_
  (try simp only [Act.put, List.setIfInBounds_toArray, List.set_cons_zero, List.set_cons_succ, List.getElem_toArray, List.getElem_cons_succ, List.getElem_cons_zero])
  refine wpAnyH_ready (rs := [9]) (by kernel_rfl) (by simp) ?_
  refine AllReadyH.cons rfl (fun K' hK => ?_) AllReadyH.nil
  (try simp only [Act.put, List.setIfInBounds_toArray, List.set_cons_zero, List.set_cons_succ, List.getElem_toArray, List.getElem_cons_succ, List.getElem_cons_zero])
  go_simp
  refine (CD.out _ (K.out.trans (BX.out.mono K.out.size))).mono ?_
  rintro e y9 ⟨m', rfl, hO, hb⟩
  replace BX := hid (BX.out.trans (hb.out.mono BX.out.size))
  have HSz := hid hb.out.size
  clear hb
  try dsimp only
  refine hK.out _ _ (CF.out _ BX.out) (fun hHeld => ?_)
  clear hK K'
  (try simp only [Act.put, List.setIfInBounds_toArray, List.set_cons_zero, List.set_cons_succ, List.getElem_toArray, List.getElem_cons_succ, List.getElem_cons_zero])
  have HPD := hid ((hO.out.prd (by rw [along_kd]; exact H.out.kd) (fun D h => h.mono HSz.out)))
  have HE := hid (psm_out H.out HX.out hO.out)
  have CS := hid (wsame_any (H.out.on (K.out.trans (BX.out.mono K.out.size))) HPD.out (P := False) (hid ⟨fun h => h.elim, fun h => Hq.out (HQ.out.1 (HE.out.1 h).symm)⟩))
  refine wpAnyH_ready (rs := [10]) (by kernel_rfl) (by simp) ?_
  refine AllReadyH.cons rfl (fun K' hK => ?_) AllReadyH.nil
  (try simp only [Act.put, List.setIfInBounds_toArray, List.set_cons_zero, List.set_cons_succ, List.getElem_toArray, List.getElem_cons_succ, List.getElem_cons_zero])
  go_simp
  refine (CS.out).mono ?_
  rintro e y10 ⟨q, rfl, hr, hb⟩
  replace BX := hid (BX.out.trans (hb.out.mono BX.out.size))
  obtain rfl : q = false := by cases q; rfl; exact (hr.out.1 rfl).elim
  clear hb hr
  try dsimp only
  refine hK.out _ _ (CF.out _ BX.out) (fun hHeld => ?_)
  clear hK K'
  (try simp only [Act.put, List.setIfInBounds_toArray, List.set_cons_zero, List.set_cons_succ, List.getElem_toArray, List.getElem_cons_succ, List.getElem_cons_zero])
  refine wpAnyH_take (i := 11) (v := ?v4) rfl (by kernel_rfl) (by kernel_rfl) (by kernel_rfl) (fun _ _ _ h => h) (Or.inl ⟨by rfl, ?y4⟩) (by assumption) ?r4
  case y4 => (intro w0 hSw; (try dsimp only at hSw); (try simp only [List.getElem_toArray, List.getElem_cons_succ, List.getElem_cons_zero]); go_simp; try with_reducible rfl)
  (try simp only [Act.put, List.setIfInBounds_toArray, List.set_cons_zero, List.set_cons_succ, List.getElem_toArray, List.getElem_cons_succ, List.getElem_cons_zero])
  refine wpAnyH_done (by kernel_rfl) ?_ _
  clear CH CU CD CS
  go_wp2
  go_ret
  exact ⟨rfl, hid (K.out.trans (BX.out.mono K.out.size))⟩
theorem mcheck {w : World} {m : Md} {l : List De} {t : Nat → Nat} {P : Prop} (h : Prd w w.heap.size m l t) (HP : Hid (P ↔ PMay m l t)) :
    Calls Tryz.prog 11 #[.agg (mdc m)] w fun e w' => ∃ er : Int, e = .returned (.int .i64 er) ∧ Hid ((P → er = 0) ∧ (¬ P → er = 100)) ∧ Hid (Below w.heap.size w w') := by
  have hi := HP.out.trans (pmay_iff h)
  by_cases h1 : HMay m
  · by_cases h2 : UMay m l t
    · by_cases h3 : UseOk (mlOf m l t)
      · exact (check_same h h1 h2 h3).mono fun _ _ ⟨he, hb⟩ => ⟨0, he, hid ⟨fun _ => rfl, fun hn => absurd (hi.2 ⟨⟨h1, h2⟩, h3⟩) hn⟩, hb⟩
      · exact (check_other h h1 h2 h3).mono fun _ _ ⟨he, hb⟩ => ⟨100, he, hid ⟨fun hp => absurd (hi.1 hp).2 h3, fun _ => rfl⟩, hb⟩
    · exact (check_use h h1 h2).mono fun _ _ ⟨he, hb⟩ => ⟨100, he, hid ⟨fun hp => absurd (hi.1 hp).1.2 h2, fun _ => rfl⟩, hb⟩
  · exact (check_head h h1).mono fun _ _ ⟨he, hb⟩ => ⟨100, he, hid ⟨fun hp => absurd (hi.1 hp).1.1 h1, fun _ => rfl⟩, hb⟩
open Go.RowKit Go.Shelf Go.Lib
structure FitM (M : Ml) : Prop where
  fit : M.Fit
  S : DMay M.S.s M.S.n M.S.f (M.S.x : Int)
  W : DMay M.W.s M.W.n M.W.f (M.W.x : Int)
  C : DMay M.C.s M.C.n M.C.f (M.C.x : Int)
  A : DMay M.A.s M.A.n M.A.f (M.A.x : Int)
theorem ddy_may {d : Dy} (h : DMay d.s d.n d.f d.x) : DMay (ddy d).s (ddy d).n (ddy d).f ((ddy d).x : Int) := by
  have e : (((ddy d).x : Nat) : Int) = d.x := by have := h.2.1; show (d.x.toNat : Int) = d.x; omega
  rw [e]
  exact h
theorem ddy_fit {w : World} {B : Nat} {d : Dy} (hr : Rd w B d.A d.n d.c d.f) (h : DMay d.s d.n d.f d.x) : (ddy d).Fit :=
  ⟨by have := h.1.1; show d.n < 256; omega, by have := h.2.2.1; show d.x.toNat < 65536; omega, hr.lt, hr.out⟩
theorem fit_of {w : World} {B : Nat} {m : Md} {l : List De} {t : Nat → Nat} (h : Prd w B m l t) (hm : PMay m l t) : FitM (mlOf m l t) := by
  obtain ⟨⟨⟨a0, a1, a2, a3, a4⟩, b1, b2, b3, b4, b5⟩, u1, u2, u3, u4, u5⟩ := (pmay_iff h).1 hm
  obtain ⟨c1, c2⟩ := bad_no b3
  have e : -2147483647 ≤ m.mn ∧ m.mn ≤ 2147483647 ∧ -2147483647 ≤ m.mx ∧ m.mx ≤ 2147483647 := by
    unfold EMay at b4
    split at b4 <;> omega
  have e0 : m.ha = false → m.mn = 0 ∧ m.mx = 0 := by
    intro hf
    unfold EMay at b4
    rw [if_neg (by rw [hf]; decide)] at b4
    exact b4
  have k8 := b5.1
  refine ⟨⟨a0, ⟨a1.1, by show m.fr < 8; omega⟩, ⟨a2.1, by show m.tu < 8; omega⟩, a3, a4, b1, fun h3 h4 => ?_, ddy_fit (h.ms 0 (by omega)) (b2 0 (by omega)), ddy_fit (h.ms 1 (by omega)) (b2 1 (by omega)), ddy_fit (h.ms 2 (by omega)) (b2 2 (by omega)), ddy_fit (h.ms 3 (by omega)) (b2 3 (by omega)),
    fun hk => u2.resolve_left hk, fun h2 h3 => (u3.resolve_left h2).resolve_left h3, c2, c1, fun hk => u4.resolve_left hk, e0, e, fun x hx => ?_, by show ((List.range m.k).map t).length ≤ 8; simp; omega, fun hk => ?_⟩,
    ddy_may (b2 0 (by omega)), ddy_may (b2 1 (by omega)), ddy_may (b2 2 (by omega)), ddy_may (b2 3 (by omega))⟩
  · rcases u1 with u | u | u
    · exact absurd u h3
    · exact absurd u h4
    · exact u
  · obtain ⟨j, _, rfl⟩ := List.mem_map.1 hx
    exact h.tg.lt j
  · obtain ⟨p, _, _, q⟩ := u5.resolve_left hk
    exact ⟨p, q⟩
theorem pn_ok {xs : List Nat} {V z : Nat} (h1 : 1 ≤ z) (h8 : z ≤ 8) (hV : V < 256 ^ z) (hx : xs.length ≤ 3800) : pnR xs V z = xs ++ be V z := if_pos ⟨⟨h1, h8, hV⟩, by omega⟩
theorem pd_ok {xs : List Nat} {d : Ddy} (h : DMay d.s d.n d.f (d.x : Int)) (hx : xs.length ≤ 3700) : pdR xs d = xs ++ dfx d := if_pos ⟨h, by have := h.1.1; omega⟩
theorem dfx_len {d : Ddy} (h : DMay d.s d.n d.f (d.x : Int)) : (dfx d).length ≤ 164 := by
  unfold dfx
  rw [dtx_length]
  have := h.1.1
  omega
theorem lsx_snoc (l : List De) (d : De) : lsx (l ++ [d]) = lsx l ++ (be d.1.toNat 1 ++ be d.2.toNat 4) := by simp [lsx]
theorem tgx_snoc (l : List Nat) (d : Nat) : tgx (l ++ [d]) = tgx l ++ be d 4 := by simp [tgx]
theorem lsx_len5 (l : List De) : (lsx l).length = 5 * l.length := by
  induction l with
  | nil => rfl
  | cons d l ih =>
    unfold lsx at ih ⊢
    rw [List.flatMap_cons, List.length_append, ih, List.length_append, be_length, be_length, List.length_cons]
    omega
theorem tgx_len4 (l : List Nat) : (tgx l).length = 4 * l.length := by
  induction l with
  | nil => rfl
  | cons d l ih =>
    unfold tgx at ih ⊢
    rw [List.flatMap_cons, List.length_append, ih, be_length, List.length_cons]
    omega
theorem lis_wr {l : List De} (h : LFit l) (hl : l.length ≤ 64) {s : List Nat} (hs : s.length ≤ 1000) : ∀ k, k ≤ l.length → (lisP Wwr l s k).2 = s ++ lsx (l.take k)
  | 0, _ => by simp [lisP, lsx]
  | k + 1, hk => by
    show (dscP Wwr (lisP Wwr l s k).2 _).2 = _
    rw [lis_wr h hl hs k (by omega), List.getElem?_eq_getElem (show k < l.length by omega)]
    have hd := h _ (List.getElem_mem (show k < l.length by omega))
    generalize hde : l[k]'(by omega) = d at hd
    have hlen := lsx_len5 (l.take k)
    rw [List.length_take] at hlen
    show pnR (pnR (s ++ lsx (l.take k)) d.1.toNat 1) d.2.toNat 4 = _
    rw [pn_ok (V := d.1.toNat) (by omega) (by omega) (by show d.1.toNat < 256; omega) (by rw [List.length_append]; omega), pn_ok (V := d.2.toNat) (by omega) (by omega) (by show d.2.toNat < 4294967296; omega) (by rw [List.length_append, List.length_append, be_length]; omega)]
    rw [List.take_add_one, List.getElem?_eq_getElem (show k < l.length by omega), hde]
    show _ = s ++ lsx (l.take k ++ [d])
    rw [lsx_snoc]
    simp only [List.append_assoc]
theorem tgs_wr {l : List Nat} (h : ∀ t ∈ l, t < 4294967296) (hl : l.length ≤ 64) {s : List Nat} (hs : s.length ≤ 1000) : ∀ k, k ≤ l.length → (tgsP Wwr l s k).2 = s ++ tgx (l.take k)
  | 0, _ => by simp [tgsP, tgx]
  | k + 1, hk => by
    show pnR (tgsP Wwr l s k).2 ((l[k]?).getD 0) 4 = _
    rw [tgs_wr h hl hs k (by omega), List.getElem?_eq_getElem (show k < l.length by omega)]
    have hd := h _ (List.getElem_mem (show k < l.length by omega))
    generalize hde : l[k]'(by omega) = d at hd
    have hlen := tgx_len4 (l.take k)
    rw [List.length_take] at hlen
    show pnR (s ++ tgx (l.take k)) d 4 = _
    rw [pn_ok (V := d) (by omega) (by omega) (by show d < 4294967296; omega) (by rw [List.length_append]; omega)]
    rw [List.take_add_one, List.getElem?_eq_getElem (show k < l.length by omega), hde]
    show _ = s ++ tgx (l.take k ++ [d])
    rw [tgx_snoc]
    simp only [List.append_assoc]
theorem head_wr {M : Ml} (h : M.Fit) : (headP Wwr [] M).2 = be M.fr.toNat 1 ++ be M.tu.toNat 1 ++ be M.ep.toNat 2 ++ be M.nu.toNat 3 := by
  have := h.fr
  have := h.tu
  have := h.ep
  have := h.nu
  show pnR (pnR (pnR (pnR [] M.fr.toNat 1) M.tu.toNat 1) M.ep.toNat 2) M.nu.toNat 3 = _
  rw [pn_ok (xs := []) (V := M.fr.toNat) (by omega) (by omega) (by show M.fr.toNat < 256; omega) (by simp), pn_ok (V := M.tu.toNat) (by omega) (by omega) (by show M.tu.toNat < 256; omega) (by simp [be_length]), pn_ok (V := M.ep.toNat) (by omega) (by omega) (by show M.ep.toNat < 65536; omega) (by simp [be_length]), pn_ok (V := M.nu.toNat) (by omega) (by omega) (by show M.nu.toNat < 16777216; omega) (by simp [be_length])]
  simp
theorem along_wr {M : Ml} (h : FitM M) : (alongP Wwr [] M).2 = cont M := by
  have hh := head_wr h.fit
  have hkd := h.fit.kd
  have hab := h.fit.ab
  have hls := h.fit.lsn
  have hle := h.fit.len
  have hed := h.fit.ed1
  have hc : M.kd = 1 ∨ M.kd = 2 ∨ M.kd = 3 ∨ M.kd = 4 ∨ M.kd = 5 ∨ M.kd = 6 := by omega
  have hl7 : (be M.fr.toNat 1 ++ be M.tu.toNat 1 ++ be M.ep.toNat 2 ++ be M.nu.toNat 3).length = 7 := by simp [be_length]
  unfold alongP kindP cont body
  rw [hh]
  generalize be M.fr.toNat 1 ++ be M.tu.toNat 1 ++ be M.ep.toNat 2 ++ be M.nu.toNat 3 = H at hl7
  have dS := dfx_len h.S
  have dC := dfx_len h.C
  rcases hc with e | e | e | e | e | e
  · rw [if_pos e, if_neg (by omega), if_pos e]
    show pdR (pdR H M.S) M.W = _
    rw [pd_ok h.S (by omega), pd_ok h.W (by rw [List.length_append]; omega)]
    simp
  · rw [if_neg (by omega), if_pos e, if_neg (by omega), if_neg (by omega), if_pos (by omega)]
    show pdR (pdR H M.C) M.A = _
    rw [pd_ok h.C (by omega), pd_ok h.A (by rw [List.length_append]; omega)]
    simp
  · rw [if_neg (by omega), if_neg (by omega), if_pos e, if_pos (by omega), if_neg (by omega), if_pos (by omega)]
    show pdR (pdR (pnR H M.ab.toNat 3) M.C) M.A = _
    rw [pn_ok (V := M.ab.toNat) (by omega) (by omega) (by show M.ab.toNat < 16777216; omega) (by omega), pd_ok h.C (by rw [List.length_append, be_length]; omega), pd_ok h.A (by rw [List.length_append, List.length_append, be_length]; omega)]
    simp
  · rw [if_neg (by omega), if_neg (by omega), if_neg (by omega), if_pos e, if_pos (by omega), if_neg (by omega), if_neg (by omega), if_neg (by omega), if_neg (by omega)]
    show pnR H M.ab.toNat 3 = _
    rw [pn_ok (V := M.ab.toNat) (by omega) (by omega) (by show M.ab.toNat < 16777216; omega) (by omega)]
    simp
  · rw [if_neg (by omega), if_neg (by omega), if_neg (by omega), if_neg (by omega), if_pos e, if_neg (by omega), if_neg (by omega), if_neg (by omega), if_pos e]
    show (lisP Wwr M.ls (pnR (pnR H (flg M.wa) 1) M.ls.length 1) M.ls.length).2 = _
    rw [pn_ok (V := flg M.wa) (by omega) (by omega) (flg_lt _) (by omega), pn_ok (V := M.ls.length) (by omega) (by omega) (by show M.ls.length < 256; omega) (by rw [List.length_append, be_length]; omega)]
    rw [lis_wr h.fit.ls (by omega) (by simp only [List.length_append, be_length]; omega) _ (Nat.le_refl _), List.take_length]
    simp
  · rw [if_neg (by omega), if_neg (by omega), if_neg (by omega), if_neg (by omega), if_neg (by omega), if_pos e, if_neg (by omega), if_neg (by omega), if_neg (by omega), if_neg (by omega), if_pos e]
    show (tgsP Wwr M.le (pnR (pnR (pnR (pnR H (flg M.ha) 1) (M.mn + 2147483648).toNat 4) (M.mx + 2147483648).toNat 4) M.le.length 1) M.le.length).2 = _
    rw [pn_ok (V := flg M.ha) (by omega) (by omega) (flg_lt _) (by omega), pn_ok (V := (M.mn + 2147483648).toNat) (by omega) (by omega) (by show (M.mn + 2147483648).toNat < 4294967296; omega) (by rw [List.length_append, be_length]; omega), pn_ok (V := (M.mx + 2147483648).toNat) (by omega) (by omega) (by show (M.mx + 2147483648).toNat < 4294967296; omega) (by simp only [List.length_append, be_length]; omega), pn_ok (V := M.le.length) (by omega) (by omega) (by show M.le.length < 256; omega) (by simp only [List.length_append, be_length]; omega)]
    rw [tgs_wr h.fit.le (by omega) (by simp only [List.length_append, be_length]; omega) _ (Nat.le_refl _), List.take_length]
    simp
theorem cont_len {M : Ml} (h : FitM M) : (cont M).length ≤ 400 := by
  have dS := dfx_len h.S
  have dW := dfx_len h.W
  have dC := dfx_len h.C
  have dA := dfx_len h.A
  have hls := h.fit.lsn
  have hle := h.fit.len
  have l5 := lsx_len5 M.ls
  have l4 := tgx_len4 M.le
  unfold cont body
  simp only [List.length_append, be_length]
  split <;> (try split) <;> (try split) <;> (try split) <;> (try split) <;> simp only [List.length_append, be_length, List.length_nil] <;> omega
open Go.RowKit Go.Shelf Go.Lib
theorem wlk_rd {g : Nat} (Ba : Nat) (hBa : Ba ≤ g) : Wlk Wrd (fun b => b = g) Ba (g + 1) (Rea g) (fun w D => Mk w 75 (g + 1) D.A D.n D.c D.f) 26 27 28 #[.pointer (some ⟨g, 0, none⟩)] where
  gB := fun b h => by subst h; omega
  ab := by omega
  dz := fun _ => Mk.nil _ _ _
  en := enters_of Tryz.func26 (by kernel_rfl) rfl
  ef := enters_of Tryz.func27 (by kernel_rfl) rfl
  ed := enters_of Tryz.func28 (by kernel_rfl) rfl
  inv := fun s w w' h ha => by
    obtain ⟨A, n, c, hg, hB, hp⟩ := h
    exact ⟨A, n, c, (ha.block g (lt_of_heap hg) (.inl (by omega))).trans hg, hB.blocks fun b hb hbl => ha.block b hbl (.inl (by omega)), hp⟩
  dal := fun w w' D h ha => ⟨h.cap, h.max, h.lt, h.out, h.own.imp id (by rintro ⟨b, cs, hA, hb, hh, hs, hc⟩; exact ⟨b, cs, hA, hb, (ha.block b (lt_of_heap hh) (.inr fun cs' t ht e => by rw [hh] at e; injection e with e; injection e with _ e2; exact wty_u32 (e2 ▸ ht))).trans hh, hs, hc⟩)⟩
  dex := fun w w' D h hx => ⟨h.cap, h.max, h.lt, h.out, h.own.imp id (by rintro ⟨b, cs, hA, hb, hh, hs, hc⟩; exact ⟨b, cs, hA, hb, hx.heap hh (by omega), hs, hc⟩)⟩
  num := fun s w V z h _ _ h1 h4 => (rnum_any h V z h1 h4 z rfl).mono (by rintro e w' ⟨rfl, h2, h3⟩; exact ⟨_, rfl, hid ⟨rfl, rnR_lt s h4⟩, h2, h3⟩)
  flag := fun s w b h _ => (rflag_any h b).mono (by rintro e w' ⟨rfl, h2, h3⟩; exact ⟨_, rfl, hid rfl, h2, h3⟩)
  dyad := fun s w D d h hB _ _ => (rdyad_any h D).mono (by rintro e w' ⟨D', rfl, h1, h2, h3, h4⟩; exact ⟨D', rfl, h1, hid (h2.out.mono hB), h3, h4⟩)
def Gd (xs : List Nat) (s : Rst) (H : List Nat) : Prop := s.ft = false → s.xs = xs ∧ xs.take s.p = H ∧ s.p ≤ xs.length
theorem Gd.num {xs H : List Nat} {s : Rst} (hx : ∀ x ∈ xs, x < 256) (h : Gd xs s H) (z : Nat) : Gd xs (rnR s z).2 (H ++ be (rnR s z).1 z) := by
  intro hf
  by_cases hc : s.p + z ≤ s.xs.length
  · have hr : rnR s z = (bn ((s.xs.drop s.p).take z) % 256 ^ z, ⟨s.xs, s.p + z, s.ft⟩) := if_pos hc
    rw [hr] at hf ⊢
    obtain ⟨h1, h2, h3⟩ := h hf
    refine ⟨h1, ?_, by show s.p + z ≤ xs.length; rw [← h1]; exact hc⟩
    show xs.take (s.p + z) = H ++ be (bn ((s.xs.drop s.p).take z) % 256 ^ z) z
    have hl : ((xs.drop s.p).take z).length = z := by rw [List.length_take, List.length_drop, ← h1]; omega
    have hb := be_bn (xs := (xs.drop s.p).take z) fun x hm => hx x (List.mem_of_mem_drop (List.mem_of_mem_take hm))
    have hlt := bn_lt (xs := (xs.drop s.p).take z) fun x hm => hx x (List.mem_of_mem_drop (List.mem_of_mem_take hm))
    rw [hl] at hb hlt
    rw [h1, Nat.mod_eq_of_lt hlt, hb, ← h2, List.take_add]
  · have hr : rnR s z = (0, ⟨[], 0, true⟩) := if_neg hc
    rw [hr] at hf
    cases hf
theorem Gd.flag {xs H : List Nat} {s : Rst} (hx : ∀ x ∈ xs, x < 256) (h : Gd xs s H) : Gd xs (rfR s).2 (H ++ be (flg (rfR s).1) 1) := by
  intro hf
  have hf' : ((rnR s 1).2.ft || decide (1 < (rnR s 1).1)) = false := hf
  rw [Bool.or_eq_false_iff] at hf'
  have h1 := h.num hx 1 hf'.1
  have h2 : ¬ 1 < (rnR s 1).1 := by simpa using hf'.2
  have e : flg (rfR s).1 = (rnR s 1).1 := by
    show flg (decide ((rnR s 1).1 = 1)) = _
    by_cases hq : (rnR s 1).1 = 1
    · rw [decide_eq_true hq, hq]
      rfl
    · rw [decide_eq_false hq]
      show 0 = _
      omega
  rw [e]
  exact h1
theorem dyad_tight {ys : List Nat} (hx : ∀ x ∈ ys, x < 256) (h : dE ys = 0) : dtx (decide (sgOf ys = 1)) (cntOf ys) (limOf ys) (expOf ys) = ys.take (4 + 4 * cntOf ys) ∧ DMay (decide (sgOf ys = 1)) (cntOf ys) (limOf ys) (expOf ys) ∧ 4 + 4 * cntOf ys ≤ ys.length := by
  unfold dE at h
  split at h
  · cases h
  · rename_i hn
    split at h
    · rename_i hm
      refine ⟨?_, hm.2, by omega⟩
      have e1 : be (if decide (sgOf ys = 1) = true then 1 else 0) 1 = ys.take 1 := by
        have hb := be_bn (xs := ys.take 1) fun x hm => hx x (List.mem_of_mem_take hm)
        have hl : (ys.take 1).length = 1 := by rw [List.length_take]; omega
        have h0 := bn_one (xs := ys) (p := 0) (by omega)
        rw [List.drop_zero] at h0
        rw [hl, h0] at hb
        rw [← hb]
        congr 1
        have h1 : sgOf ys ≤ 1 := hm.1
        by_cases hq : sgOf ys = 1
        · rw [if_pos (by simpa using hq)]
          exact hq.symm
        · rw [if_neg (by simpa using hq)]
          show 0 = sgOf ys
          omega
      have e2 : be (expOf ys) 2 = (ys.drop 1).take 2 := by
        have hb := be_bn (xs := (ys.drop 1).take 2) fun x hm => hx x (List.mem_of_mem_drop (List.mem_of_mem_take hm))
        have hl : ((ys.drop 1).take 2).length = 2 := by rw [List.length_take, List.length_drop]; omega
        rw [hl] at hb
        exact hb
      have e3 : be (cntOf ys) 1 = (ys.drop 3).take 1 := by
        have hb := be_bn (xs := (ys.drop 3).take 1) fun x hm => hx x (List.mem_of_mem_drop (List.mem_of_mem_take hm))
        have hl : ((ys.drop 3).take 1).length = 1 := by rw [List.length_take, List.length_drop]; omega
        rw [hl, bn_one (by omega)] at hb
        exact hb
      have e4 : lms (limOf ys) (cntOf ys) = (ys.drop 4).take (4 * cntOf ys) :=
        lms_lof (fun x hm => hx x (List.mem_of_mem_drop hm)) (Nat.le_refl _) (by rw [List.length_drop]; omega)
      unfold dtx
      rw [e1, e2, e3, e4]
      have t1 : ys.take 1 ++ (ys.drop 1).take 2 = ys.take 3 := (List.take_add (i := 1) (j := 2)).symm
      have t2 : ys.take 3 ++ (ys.drop 3).take 1 = ys.take 4 := (List.take_add (i := 3) (j := 1)).symm
      rw [t1, t2, ← List.take_add]
    · cases h
theorem Gd.dyad {xs H : List Nat} {s : Rst} (hx : ∀ x ∈ xs, x < 256) (h : Gd xs s H) : Gd xs (rdR s).2 (H ++ dfx (rdR s).1) := by
  intro hf
  by_cases hc : dE (s.xs.drop s.p) = 0
  · have hr : rdR s = (⟨decide (sgOf (s.xs.drop s.p) = 1), cntOf (s.xs.drop s.p), limOf (s.xs.drop s.p), expOf (s.xs.drop s.p)⟩, ⟨s.xs, s.p + (4 + 4 * cntOf (s.xs.drop s.p)), s.ft⟩) := if_pos hc
    rw [hr] at hf ⊢
    obtain ⟨h1, h2, h3⟩ := h hf
    rw [h1] at hc ⊢
    obtain ⟨t1, _, t3⟩ := dyad_tight (fun x hm => hx x (List.mem_of_mem_drop hm)) hc
    rw [List.length_drop] at t3
    refine ⟨rfl, ?_, by show s.p + (4 + 4 * cntOf (xs.drop s.p)) ≤ xs.length; omega⟩
    show xs.take (s.p + (4 + 4 * cntOf (xs.drop s.p))) = H ++ dfx _
    unfold dfx
    rw [t1, ← h2, List.take_add]
  · have hr : rdR s = (d0z, ⟨[], 0, true⟩) := if_neg hc
    rw [hr] at hf
    cases hf
theorem Gd.lis {xs H : List Nat} {s : Rst} (hx : ∀ x ∈ xs, x < 256) (h : Gd xs s H) (l : List De) : ∀ k, Gd xs (lisP Wrd l s k).2 (H ++ lsx (lisP Wrd l s k).1)
  | 0 => by
    show Gd xs s (H ++ lsx [])
    rw [show lsx [] = [] from rfl, List.append_nil]
    exact h
  | k + 1 => by
    have ih := ((h.lis hx l k).num hx 1).num hx 4
    show Gd xs (rnR (rnR (lisP Wrd l s k).2 1).2 4).2 (H ++ lsx ((lisP Wrd l s k).1 ++ [(((rnR (lisP Wrd l s k).2 1).1 : Int), ((rnR (rnR (lisP Wrd l s k).2 1).2 4).1 : Int))]))
    rw [lsx_snoc, Int.toNat_natCast, Int.toNat_natCast]
    simp only [List.append_assoc] at ih ⊢
    exact ih
theorem Gd.tgs {xs H : List Nat} {s : Rst} (hx : ∀ x ∈ xs, x < 256) (h : Gd xs s H) (l : List Nat) : ∀ k, Gd xs (tgsP Wrd l s k).2 (H ++ tgx (tgsP Wrd l s k).1)
  | 0 => by
    show Gd xs s (H ++ tgx [])
    rw [show tgx [] = [] from rfl, List.append_nil]
    exact h
  | k + 1 => by
    have ih := (h.tgs hx l k).num hx 4
    show Gd xs (rnR (tgsP Wrd l s k).2 4).2 (H ++ tgx ((tgsP Wrd l s k).1 ++ [(rnR (tgsP Wrd l s k).2 4).1]))
    rw [tgx_snoc]
    simp only [List.append_assoc] at ih ⊢
    exact ih
theorem along_good {xs : List Nat} (hx : ∀ x ∈ xs, x < 256) (k : Nat) : Gd xs (alongP Wrd ⟨xs, 0, false⟩ (mz k)).2 (cont (alongP Wrd ⟨xs, 0, false⟩ (mz k)).1) := by
  have h0 : Gd xs ⟨xs, 0, false⟩ [] := fun _ => ⟨rfl, rfl, Nat.zero_le _⟩
  have h1 := (((h0.num hx 1).num hx 1).num hx 2).num hx 3
  have hs : (headP Wrd ⟨xs, 0, false⟩ (mz k)).2 = (rnR (rnR (rnR (rnR ⟨xs, 0, false⟩ 1).2 1).2 2).2 3).2 := rfl
  have hu : (headP Wrd ⟨xs, 0, false⟩ (mz k)).1 = ((rnR ⟨xs, 0, false⟩ 1).1, (rnR (rnR ⟨xs, 0, false⟩ 1).2 1).1, (rnR (rnR (rnR ⟨xs, 0, false⟩ 1).2 1).2 2).1, (rnR (rnR (rnR (rnR ⟨xs, 0, false⟩ 1).2 1).2 2).2 3).1) := rfl
  unfold alongP
  rw [hs]
  have hh : hedP Wrd ⟨xs, 0, false⟩ (mz k) = { mz k with fr := ((rnR ⟨xs, 0, false⟩ 1).1 : Int), tu := ((rnR (rnR ⟨xs, 0, false⟩ 1).2 1).1 : Int), ep := ((rnR (rnR (rnR ⟨xs, 0, false⟩ 1).2 1).2 2).1 : Int), nu := ((rnR (rnR (rnR (rnR ⟨xs, 0, false⟩ 1).2 1).2 2).2 3).1 : Int) } := rfl
  rw [hh]
  generalize (rnR (rnR (rnR (rnR ⟨xs, 0, false⟩ 1).2 1).2 2).2 3).2 = s4 at *
  generalize (rnR ⟨xs, 0, false⟩ 1).1 = U1 at *
  generalize (rnR (rnR ⟨xs, 0, false⟩ 1).2 1).1 = U2 at *
  generalize (rnR (rnR (rnR ⟨xs, 0, false⟩ 1).2 1).2 2).1 = U3 at *
  generalize (rnR (rnR (rnR (rnR ⟨xs, 0, false⟩ 1).2 1).2 2).2 3).1 = U4 at *
  clear hs hu hh h0
  simp only [List.nil_append] at h1
  have ek : (mz k).kd = k := rfl
  have el : ∀ (r : List De), be r.length 1 = be r.length 1 := fun _ => rfl
  unfold kindP cont body
  by_cases k1 : k = 1
  · subst k1
    have h2 := (h1.dyad hx).dyad hx
    simp only [List.append_assoc] at h2
    simpa [mz, Wrd] using h2
  by_cases k2 : k = 2
  · subst k2
    have h2 := (h1.dyad hx).dyad hx
    simp only [List.append_assoc] at h2
    simpa [mz, Wrd] using h2
  by_cases k3 : k = 3
  · subst k3
    have h2 := ((h1.num hx 3).dyad hx).dyad hx
    simp only [List.append_assoc] at h2
    simpa [mz, Wrd] using h2
  by_cases k4 : k = 4
  · subst k4
    have h2 := h1.num hx 3
    simp only [List.append_assoc] at h2
    simpa [mz, Wrd] using h2
  by_cases k5 : k = 5
  · subst k5
    have h2 := ((h1.flag hx).num hx 1).lis hx [] (rnR (rfR s4).2 1).1
    have hl := lisP_length Wrd [] (rnR (rfR s4).2 1).2 (rnR (rfR s4).2 1).1
    simp only [List.append_assoc] at h2
    have e1 : ∀ s' : Rst, Wrd.ff s' (mz 5).wa = rfR s' := fun _ => rfl
    have e2 : ∀ (s' : Rst) V z, Wrd.nf s' V z = rnR s' z := fun _ _ _ => rfl
    simp only [e1, e2, show (mz 5).ls = [] from rfl]
    simp only [mz] at *
    simpa [hl] using h2
  by_cases k6 : k = 6
  · subst k6
    have h2 := ((((h1.flag hx).num hx 4).num hx 4).num hx 1).tgs hx [] (rnR (rnR (rnR (rfR s4).2 4).2 4).2 1).1
    have hl := tgsP_length Wrd [] (rnR (rnR (rnR (rfR s4).2 4).2 4).2 1).2 (rnR (rnR (rnR (rfR s4).2 4).2 4).2 1).1
    simp only [List.append_assoc] at h2
    have e0 : ∀ (s' : Rst) b p q, edgP Wrd s' b p q = (((rfR s').1, (rnR (rfR s').2 4).1, (rnR (rnR (rfR s').2 4).2 4).1), (rnR (rnR (rfR s').2 4).2 4).2) := fun _ _ _ _ => rfl
    have e2 : ∀ (s' : Rst) V z, Wrd.nf s' V z = rnR s' z := fun _ _ _ => rfl
    simp only [e0, e2, show (mz 6).le = [] from rfl]
    simp only [mz] at *
    have c1 : ∀ U : Nat, (((U : Int) - 2147483648) + 2147483648).toNat = U := fun U => by omega
    simpa [hl, c1] using h2
  · have n1 : ¬ (mz k).kd = 1 := k1
    simp [mz, k1, k2, k3, k4, k5, k6]
    simpa using h1
end Go.Proofs.YtbankbehfjogpaaGreat
