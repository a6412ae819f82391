/- Package mail: Check. -/
import Derived.Test.YtbankbehfjogpaaVas
namespace Go.Proofs.Ytbankbehfjogpaa
open Go.RowKit Go.Shelf Go.Lib
set_option maxRecDepth 100000

theorem yields_pload {ops : Array Oper} {S : World → Prop} {o : Oper} {a : Act} (hw : Region.wanted o (yielded ops a.tmps) = true) (x : Operand) (ho : o.op = .load 31 x)
    (g : Nat) (m : Md) (hx : a.eval x = .pointer (some ⟨g, 0, none⟩)) (hS : ∀ w, S w → Pbox w g m) : YieldsIf Try.prog ops S o (.agg (mdc m)) a :=
  .inl ⟨hw, fun w hw' => by
    unfold execOp
    simp only [ho, hx, Instr.loadAt, Instr.sureAddr, Sem.run_bind, Sem.run_pure, Result.andThen_ok, run_loadVar_row w g _ 31 _ _ _ (hS w hw') Try.underlying31 rfl (mail_size_ m)]⟩
theorem head_yes {w : World} {m : Md} (h : HMay m) : Calls Try.prog 18 #[.agg (mdc m)] w fun e w' => e = .returned (.bool true) ∧ Hid (Below w.heap.size w w') :=
  (mayHead_any (P := True) (hid ⟨fun _ => h, fun _ => trivial⟩)).mono fun _ _ ⟨r, he, hr, hb⟩ => ⟨by rw [he, hr.out.2 trivial], hb⟩
theorem head_no {w : World} {m : Md} (h : ¬ HMay m) : Calls Try.prog 18 #[.agg (mdc m)] w fun e w' => e = .returned (.bool false) ∧ Hid (Below w.heap.size w w') :=
  (mayHead_any (P := False) (hid ⟨fun h => h.elim, fun x => h x⟩)).mono fun _ _ ⟨r, he, hr, hb⟩ => ⟨by cases r with | false => exact he | true => exact (hr.out.1 rfl).elim, hb⟩
theorem use_yes {w : World} {m : Md} {l : List De} {t : Nat → Nat} (hp : Prd w w.heap.size m l t) (h : UMay m l t) : Calls Try.prog 19 #[.agg (mdc m)] w fun e w' => e = .returned (.bool true) ∧ Hid (Below w.heap.size w w') :=
  (mayUse_any (P := True) hp (hid ⟨fun _ => h, fun _ => trivial⟩)).mono fun _ _ ⟨r, he, hr, hb⟩ => ⟨by rw [he, hr.out.2 trivial], hb⟩
theorem use_no {w : World} {m : Md} {l : List De} {t : Nat → Nat} (hp : Prd w w.heap.size m l t) (h : ¬ UMay m l t) : Calls Try.prog 19 #[.agg (mdc m)] w fun e w' => e = .returned (.bool false) ∧ Hid (Below w.heap.size w w') :=
  (mayUse_any (P := False) hp (hid ⟨fun h => h.elim, fun x => h x⟩)).mono fun _ _ ⟨r, he, hr, hb⟩ => ⟨by cases r with | false => exact he | true => exact (hr.out.1 rfl).elim, hb⟩
theorem dsm_iff {D E : Dy} {d : Ddy} (h : DV E d) (hx : 0 ≤ D.x) : Dsm D E ↔ ddy D = d := by
  obtain ⟨h1, h2, h3, h4⟩ := h
  constructor
  · rintro ⟨a, b, c, e⟩
    exact dy_ext (a.trans h1) (c.trans h2) (fun j => (e j).trans (by rw [h3])) (by show D.x.toNat = d.x; omega)
  · intro e
    have e1 := congrArg Ddy.s e
    have e2 := congrArg Ddy.n e
    have e3 := congrArg Ddy.f e
    have e4 := congrArg Ddy.x e
    simp only [ddy] at e1 e2 e3 e4
    exact ⟨e1.trans h1.symm, by omega, e2.trans h2.symm, fun j => by rw [h3, ← e3]⟩
theorem psm_out {w w' : World} {B C : Nat} {Dv : World → Dy → Prop} {m m' : Md} {l : List De} {t : Nat → Nat} {M : Ml} (h : Prd w C m l t) (hx : ∀ k, k < 4 → 0 ≤ (m.D k).x) (ho : Out Dv w' B m' M) :
    PSm m m' l M.ls t (fun j => (M.le[j]?).getD 0) ↔ mlOf m l t = M := by
  have d0 := dsm_iff ho.S (hx 0 (by omega))
  have d1 := dsm_iff ho.W (hx 1 (by omega))
  have d2 := dsm_iff ho.C (hx 2 (by omega))
  have d3 := dsm_iff ho.A (hx 3 (by omega))
  have hl := ho.tg.rd.1
  obtain ⟨kd, fr, tu, ep, nu, ab, S, W, Cc, A, wa, ls, ha, mn, mx, le⟩ := M
  dsimp only at *
  have ht : (m.k = m'.k ∧ ∀ j, t j = (le[j]?).getD 0) ↔ (List.range m.k).map t = le := by
    constructor
    · rintro ⟨a, b⟩
      apply List.ext_getElem?
      intro j
      rcases Nat.lt_or_ge j m.k with hj | hj
      · have hj2 : j < le.length := by omega
        rw [List.getElem?_map, List.getElem?_range hj, List.getElem?_eq_getElem hj2]
        have := b j
        rw [List.getElem?_eq_getElem hj2] at this
        exact congrArg some this
      · rw [List.getElem?_eq_none (by simpa using hj), List.getElem?_eq_none (by omega)]
    · intro e
      refine ⟨by rw [← hl, ← e]; simp, fun j => ?_⟩
      rw [← e, range_map_get m.k t h.tg.out j]
  unfold PSm ISm mlOf
  rw [ho.kd, ho.fr, ho.tu, ho.ep, ho.nu, ho.ab, ho.wa, ho.ha, ho.mn, ho.mx, ht]
  simp only [Ml.mk.injEq]
  constructor
  · rintro ⟨⟨a1, a2, a3, a4, a5, a6⟩, hd, a7, a8, ⟨a9, a10, a11⟩, a12⟩
    exact ⟨a1, a2, a3, a4, a5, a6, d0.1 (hd 0 (by omega)), d1.1 (hd 1 (by omega)), d2.1 (hd 2 (by omega)), d3.1 (hd 3 (by omega)), a7, a8, a9, a10, a11, a12⟩
  · rintro ⟨a1, a2, a3, a4, a5, a6, b0, b1, b2, b3, a7, a8, a9, a10, a11, a12⟩
    refine ⟨⟨a1, a2, a3, a4, a5, a6⟩, fun k hk => ?_, a7, a8, ⟨a9, a10, a11⟩, a12⟩
    have hc : k = 0 ∨ k = 1 ∨ k = 2 ∨ k = 3 := by omega
    rcases hc with rfl | rfl | rfl | rfl
    · exact d0.2 b0
    · exact d1.2 b1
    · exact d2.2 b2
    · exact d3.2 b3
theorem along_kd {σ : Type} (W : Walker σ) (s : σ) (M : Ml) : (alongP W s M).1.kd = M.kd := by
  unfold alongP kindP hedP mz
  split
  · rfl
  split
  · rfl
  split
  · rfl
  split
  · rfl
  split
  · rfl
  split <;> rfl
theorem bad_no {l : List De} (h : kchk l = 0) : l.length ≤ 64 ∧ ∀ d ∈ l, 0 ≤ d.1 ∧ d.1 < 8 ∧ 0 ≤ d.2 ∧ d.2 ≤ 2147483647 := by
  obtain ⟨h1, h2⟩ := chk_zero.1 h
  refine ⟨h1, fun d hd => ?_⟩
  have h3 := List.any_eq_false.1 h2 d hd
  unfold bad at h3
  simp only [Bool.or_eq_true, decide_eq_true_eq, not_or, Int.not_lt, Int.not_le] at h3
  omega
theorem alok_of {m : Md} {l : List De} {t : Nat → Nat} (hk : m.kd < 256) (h1 : HMay m) (h2 : UMay m l t) : AlOk Wid () (mlOf m l t) := by
  obtain ⟨_, a1, a2, a3, a4⟩ := h1
  obtain ⟨b1, _, b3, b4, b5⟩ := h2
  obtain ⟨c1, c2⟩ := bad_no b3
  have e : -2147483648 ≤ m.mn ∧ m.mn < 2147483648 ∧ -2147483648 ≤ m.mx ∧ m.mx < 2147483648 := by
    unfold EMay at b4
    split at b4 <;> omega
  have := b5.1
  exact ⟨hk, ⟨a1.1, by show m.fr < _; omega⟩, ⟨a2.1, by show m.tu < _; omega⟩, ⟨a3.1, by show m.ep < _; omega⟩, ⟨a4.1, by show m.nu < _; omega⟩, ⟨b1.1, by show m.ab < _; omega⟩, fun d hd => by obtain ⟨x1, x2, x3, x4⟩ := c2 d hd; omega, by show l.length ≤ 1000; omega, ⟨e.1, e.2.1⟩, ⟨e.2.2.1, e.2.2.2⟩, by show ((List.range m.k).map t).length ≤ 1000; simp; omega, fun s n hn => hn⟩

set_option maxHeartbeats 12800000 in
theorem check_head {w : World} {m : Md} {l : List De} {t : Nat → Nat} (h : Prd w w.heap.size m l t) (hn : ¬ HMay m) :
    Calls Try.prog 9 #[.agg (mdc m)] w fun e w' => e = .returned (.int .i64 100) ∧ Hid (Below w.heap.size w w') := by
  obtain ⟨W, hW⟩ : ∃ W, W = w.alloc (.cells (mdc m) 31) := ⟨_, rfl⟩
  have K := hid (show Below w.heap.size w W from hW ▸ (Below.refl _ w).alloc (Nat.le_refl _) _)
  have X := hid (show Pbox W w.heap.size m from hW ▸ heap_alloc_new w _)
  have HW := hid hW
  have H := hid h
  have CH := hid (fun Y => head_no (w := Y) hn)
  clear hn
  clear hW h
  go_enter Try.func9, Try.ntmps9
  go_upto_region 1 with fail
  rw [← HW.out]
  clear HW
  have CF : Hid (∀ Y, Below W.heap.size W Y → Pbox Y w.heap.size m) := hid fun Y hb => X.out.below hb X.out.lt
  have BX : Hid (Below W.heap.size W W.drew) := hid (Below.refl W.heap.size W).drew
  refine wp_region_held_drew (S := fun X => Pbox X w.heap.size m) (by kernel_rfl) (CF.out _ BX.out) (fun hHeld => ?_)
  refine wpAnyH_take (i := 0) rfl (by kernel_rfl) (by kernel_rfl) (by kernel_rfl) (fun _ _ _ h => h) (yields_pload (by rfl) (.tmp 1) rfl w.heap.size m rfl (fun X hX => hX)) hHeld ?_
  (try simp only [Act.put, List.setIfInBounds_toArray, List.set_cons_zero, List.set_cons_succ, List.getElem_toArray, List.getElem_cons_zero])
  refine wpAnyH_ready (rs := [1]) (by kernel_rfl) (by simp) ?_
  refine AllReadyH.cons rfl (fun K' hK => ?_) AllReadyH.nil
  (try simp only [Act.put, List.setIfInBounds_toArray, List.set_cons_zero, List.set_cons_succ, List.getElem_toArray, List.getElem_cons_succ, List.getElem_cons_zero])
  go_simp
  refine (CH.out _).mono ?_
  rintro e y1 ⟨rfl, hb⟩
  replace BX := hid (BX.out.trans (hb.out.mono BX.out.size))
  clear hb
  try dsimp only
  refine hK.out _ _ (CF.out _ BX.out) (fun hHeld => ?_)
  clear hK K'
  (try simp only [Act.put, List.setIfInBounds_toArray, List.set_cons_zero, List.set_cons_succ, List.getElem_toArray, List.getElem_cons_succ, List.getElem_cons_zero])
  refine wpAnyH_take (i := 2) (v := ?v1) rfl (by kernel_rfl) (by kernel_rfl) (by kernel_rfl) (fun _ _ _ h => h) (Or.inl ⟨by rfl, ?y1⟩) (by assumption) ?r1
  case y1 => (intro w0 hSw; (try dsimp only at hSw); (try simp only [List.getElem_toArray, List.getElem_cons_succ, List.getElem_cons_zero]); go_simp; try with_reducible rfl)
  (try simp only [Act.put, List.setIfInBounds_toArray, List.set_cons_zero, List.set_cons_succ, List.getElem_toArray, List.getElem_cons_succ, List.getElem_cons_zero])
  refine wpAnyH_take (i := 3) rfl (by kernel_rfl) (by kernel_rfl) (by kernel_rfl) (fun _ _ _ h => h) (Or.inr ⟨by rfl, rfl⟩) hHeld ?_
  (try simp only [Act.put, List.setIfInBounds_toArray, List.set_cons_zero, List.set_cons_succ, List.getElem_toArray, List.getElem_cons_succ, List.getElem_cons_zero])
  refine wpAnyH_take (i := 4) rfl (by kernel_rfl) (by kernel_rfl) (by kernel_rfl) (fun _ _ _ h => h) (Or.inr ⟨by rfl, rfl⟩) hHeld ?_
  (try simp only [Act.put, List.setIfInBounds_toArray, List.set_cons_zero, List.set_cons_succ, List.getElem_toArray, List.getElem_cons_succ, List.getElem_cons_zero])
  refine wpAnyH_take (i := 5) (v := ?v2) rfl (by kernel_rfl) (by kernel_rfl) (by kernel_rfl) (fun _ _ _ h => h) (Or.inl ⟨by rfl, ?y2⟩) (by assumption) ?r2
  case y2 => (intro w0 hSw; (try dsimp only at hSw); (try simp only [List.getElem_toArray, List.getElem_cons_succ, List.getElem_cons_zero]); go_simp; try with_reducible rfl)
  (try simp only [Act.put, List.setIfInBounds_toArray, List.set_cons_zero, List.set_cons_succ, List.getElem_toArray, List.getElem_cons_succ, List.getElem_cons_zero])
  refine wpAnyH_take (i := 6) (v := ?v3) rfl (by kernel_rfl) (by kernel_rfl) (by kernel_rfl) (fun _ _ _ h => h) (Or.inl ⟨by rfl, ?y3⟩) (by assumption) ?r3
  case y3 => (intro w0 hSw; (try dsimp only at hSw); (try simp only [List.getElem_toArray, List.getElem_cons_succ, List.getElem_cons_zero]); go_simp; try with_reducible rfl)
  (try simp only [Act.put, List.setIfInBounds_toArray, List.set_cons_zero, List.set_cons_succ, List.getElem_toArray, List.getElem_cons_succ, List.getElem_cons_zero])
  refine wpAnyH_take (i := 7) rfl (by kernel_rfl) (by kernel_rfl) (by kernel_rfl) (fun _ _ _ h => h) (Or.inr ⟨by rfl, rfl⟩) hHeld ?_
  (try simp only [Act.put, List.setIfInBounds_toArray, List.set_cons_zero, List.set_cons_succ, List.getElem_toArray, List.getElem_cons_succ, List.getElem_cons_zero])
  refine wpAnyH_take (i := 8) rfl (by kernel_rfl) (by kernel_rfl) (by kernel_rfl) (fun _ _ _ h => h) (Or.inr ⟨by rfl, rfl⟩) hHeld ?_
  (try simp only [Act.put, List.setIfInBounds_toArray, List.set_cons_zero, List.set_cons_succ, List.getElem_toArray, List.getElem_cons_succ, List.getElem_cons_zero])
  refine wpAnyH_take (i := 9) rfl (by kernel_rfl) (by kernel_rfl) (by kernel_rfl) (fun _ _ _ h => h) (Or.inr ⟨by rfl, rfl⟩) hHeld ?_
  (try simp only [Act.put, List.setIfInBounds_toArray, List.set_cons_zero, List.set_cons_succ, List.getElem_toArray, List.getElem_cons_succ, List.getElem_cons_zero])
  refine wpAnyH_take (i := 10) rfl (by kernel_rfl) (by kernel_rfl) (by kernel_rfl) (fun _ _ _ h => h) (Or.inr ⟨by rfl, rfl⟩) hHeld ?_
  (try simp only [Act.put, List.setIfInBounds_toArray, List.set_cons_zero, List.set_cons_succ, List.getElem_toArray, List.getElem_cons_succ, List.getElem_cons_zero])
  refine wpAnyH_take (i := 11) (v := ?v4) rfl (by kernel_rfl) (by kernel_rfl) (by kernel_rfl) (fun _ _ _ h => h) (Or.inl ⟨by rfl, ?y4⟩) (by assumption) ?r4
  case y4 => (intro w0 hSw; (try dsimp only at hSw); (try simp only [List.getElem_toArray, List.getElem_cons_succ, List.getElem_cons_zero]); go_simp; try with_reducible rfl)
  (try simp only [Act.put, List.setIfInBounds_toArray, List.set_cons_zero, List.set_cons_succ, List.getElem_toArray, List.getElem_cons_succ, List.getElem_cons_zero])
  refine wpAnyH_done (by kernel_rfl) ?_ _
  clear CH
  go_wp2
  go_ret
  exact ⟨rfl, hid (K.out.trans (BX.out.mono K.out.size))⟩

set_option maxHeartbeats 12800000 in
theorem check_use {w : World} {m : Md} {l : List De} {t : Nat → Nat} (h : Prd w w.heap.size m l t) (hy : HMay m) (hn : ¬ UMay m l t) :
    Calls Try.prog 9 #[.agg (mdc m)] w fun e w' => e = .returned (.int .i64 100) ∧ Hid (Below w.heap.size w w') := by
  obtain ⟨W, hW⟩ : ∃ W, W = w.alloc (.cells (mdc m) 31) := ⟨_, rfl⟩
  have K := hid (show Below w.heap.size w W from hW ▸ (Below.refl _ w).alloc (Nat.le_refl _) _)
  have X := hid (show Pbox W w.heap.size m from hW ▸ heap_alloc_new w _)
  have HW := hid hW
  have H := hid h
  have CH := hid (fun Y => head_yes (w := Y) hy)
  have CU := hid (fun Y (hb : Below w.heap.size w Y) => use_no (H.out.on hb) hn)
  clear hn hy
  clear hW h
  go_enter Try.func9, Try.ntmps9
  go_upto_region 1 with fail
  rw [← HW.out]
  clear HW
  have CF : Hid (∀ Y, Below W.heap.size W Y → Pbox Y w.heap.size m) := hid fun Y hb => X.out.below hb X.out.lt
  have BX : Hid (Below W.heap.size W W.drew) := hid (Below.refl W.heap.size W).drew
  refine wp_region_held_drew (S := fun X => Pbox X w.heap.size m) (by kernel_rfl) (CF.out _ BX.out) (fun hHeld => ?_)
  refine wpAnyH_take (i := 0) rfl (by kernel_rfl) (by kernel_rfl) (by kernel_rfl) (fun _ _ _ h => h) (yields_pload (by rfl) (.tmp 1) rfl w.heap.size m rfl (fun X hX => hX)) hHeld ?_
  (try simp only [Act.put, List.setIfInBounds_toArray, List.set_cons_zero, List.set_cons_succ, List.getElem_toArray, List.getElem_cons_zero])
  refine wpAnyH_ready (rs := [1]) (by kernel_rfl) (by simp) ?_
  refine AllReadyH.cons rfl (fun K' hK => ?_) AllReadyH.nil
  (try simp only [Act.put, List.setIfInBounds_toArray, List.set_cons_zero, List.set_cons_succ, List.getElem_toArray, List.getElem_cons_succ, List.getElem_cons_zero])
  go_simp
  refine (CH.out _).mono ?_
  rintro e y1 ⟨rfl, hb⟩
  replace BX := hid (BX.out.trans (hb.out.mono BX.out.size))
  clear hb
  try dsimp only
  refine hK.out _ _ (CF.out _ BX.out) (fun hHeld => ?_)
  clear hK K'
  (try simp only [Act.put, List.setIfInBounds_toArray, List.set_cons_zero, List.set_cons_succ, List.getElem_toArray, List.getElem_cons_succ, List.getElem_cons_zero])
  refine wpAnyH_take (i := 2) (v := ?v1) rfl (by kernel_rfl) (by kernel_rfl) (by kernel_rfl) (fun _ _ _ h => h) (Or.inl ⟨by rfl, ?y1⟩) (by assumption) ?r1
  case y1 => (intro w0 hSw; (try dsimp only at hSw); (try simp only [List.getElem_toArray, List.getElem_cons_succ, List.getElem_cons_zero]); go_simp; try with_reducible rfl)
  (try simp only [Act.put, List.setIfInBounds_toArray, List.set_cons_zero, List.set_cons_succ, List.getElem_toArray, List.getElem_cons_succ, List.getElem_cons_zero])
  refine wpAnyH_take (i := 3) rfl (by kernel_rfl) (by kernel_rfl) (by kernel_rfl) (fun _ _ _ h => h) (yields_pload (by rfl) (.tmp 1) rfl w.heap.size m rfl (fun X hX => hX)) hHeld ?_
  (try simp only [Act.put, List.setIfInBounds_toArray, List.set_cons_zero, List.set_cons_succ, List.getElem_toArray, List.getElem_cons_succ, List.getElem_cons_zero])
  refine wpAnyH_ready (rs := [4]) (by kernel_rfl) (by simp) ?_
  refine AllReadyH.cons rfl (fun K' hK => ?_) AllReadyH.nil
  (try simp only [Act.put, List.setIfInBounds_toArray, List.set_cons_zero, List.set_cons_succ, List.getElem_toArray, List.getElem_cons_succ, List.getElem_cons_zero])
  go_simp
  refine (CU.out _ (K.out.trans (BX.out.mono K.out.size))).mono ?_
  rintro e y4 ⟨rfl, hb⟩
  replace BX := hid (BX.out.trans (hb.out.mono BX.out.size))
  clear hb
  try dsimp only
  refine hK.out _ _ (CF.out _ BX.out) (fun hHeld => ?_)
  clear hK K'
  (try simp only [Act.put, List.setIfInBounds_toArray, List.set_cons_zero, List.set_cons_succ, List.getElem_toArray, List.getElem_cons_succ, List.getElem_cons_zero])
  refine wpAnyH_take (i := 5) (v := ?v2) rfl (by kernel_rfl) (by kernel_rfl) (by kernel_rfl) (fun _ _ _ h => h) (Or.inl ⟨by rfl, ?y2⟩) (by assumption) ?r2
  case y2 => (intro w0 hSw; (try dsimp only at hSw); (try simp only [List.getElem_toArray, List.getElem_cons_succ, List.getElem_cons_zero]); go_simp; try with_reducible rfl)
  (try simp only [Act.put, List.setIfInBounds_toArray, List.set_cons_zero, List.set_cons_succ, List.getElem_toArray, List.getElem_cons_succ, List.getElem_cons_zero])
  refine wpAnyH_take (i := 6) (v := ?v3) rfl (by kernel_rfl) (by kernel_rfl) (by kernel_rfl) (fun _ _ _ h => h) (Or.inl ⟨by rfl, ?y3⟩) (by assumption) ?r3
  case y3 => (intro w0 hSw; (try dsimp only at hSw); (try simp only [List.getElem_toArray, List.getElem_cons_succ, List.getElem_cons_zero]); go_simp; try with_reducible rfl)
  (try simp only [Act.put, List.setIfInBounds_toArray, List.set_cons_zero, List.set_cons_succ, List.getElem_toArray, List.getElem_cons_succ, List.getElem_cons_zero])
  refine wpAnyH_take (i := 7) rfl (by kernel_rfl) (by kernel_rfl) (by kernel_rfl) (fun _ _ _ h => h) (Or.inr ⟨by rfl, rfl⟩) hHeld ?_
  (try simp only [Act.put, List.setIfInBounds_toArray, List.set_cons_zero, List.set_cons_succ, List.getElem_toArray, List.getElem_cons_succ, List.getElem_cons_zero])
  refine wpAnyH_take (i := 8) rfl (by kernel_rfl) (by kernel_rfl) (by kernel_rfl) (fun _ _ _ h => h) (Or.inr ⟨by rfl, rfl⟩) hHeld ?_
  (try simp only [Act.put, List.setIfInBounds_toArray, List.set_cons_zero, List.set_cons_succ, List.getElem_toArray, List.getElem_cons_succ, List.getElem_cons_zero])
  refine wpAnyH_take (i := 9) rfl (by kernel_rfl) (by kernel_rfl) (by kernel_rfl) (fun _ _ _ h => h) (Or.inr ⟨by rfl, rfl⟩) hHeld ?_
  (try simp only [Act.put, List.setIfInBounds_toArray, List.set_cons_zero, List.set_cons_succ, List.getElem_toArray, List.getElem_cons_succ, List.getElem_cons_zero])
  refine wpAnyH_take (i := 10) rfl (by kernel_rfl) (by kernel_rfl) (by kernel_rfl) (fun _ _ _ h => h) (Or.inr ⟨by rfl, rfl⟩) hHeld ?_
  (try simp only [Act.put, List.setIfInBounds_toArray, List.set_cons_zero, List.set_cons_succ, List.getElem_toArray, List.getElem_cons_succ, List.getElem_cons_zero])
  refine wpAnyH_take (i := 11) (v := ?v4) rfl (by kernel_rfl) (by kernel_rfl) (by kernel_rfl) (fun _ _ _ h => h) (Or.inl ⟨by rfl, ?y4⟩) (by assumption) ?r4
  case y4 => (intro w0 hSw; (try dsimp only at hSw); (try simp only [List.getElem_toArray, List.getElem_cons_succ, List.getElem_cons_zero]); go_simp; try with_reducible rfl)
  (try simp only [Act.put, List.setIfInBounds_toArray, List.set_cons_zero, List.set_cons_succ, List.getElem_toArray, List.getElem_cons_succ, List.getElem_cons_zero])
  refine wpAnyH_done (by kernel_rfl) ?_ _
  clear CH CU
  go_wp2
  go_ret
  exact ⟨rfl, hid (K.out.trans (BX.out.mono K.out.size))⟩

set_option maxHeartbeats 12800000 in
theorem check_same {w : World} {m : Md} {l : List De} {t : Nat → Nat} (h : Prd w w.heap.size m l t) (hy : HMay m) (hu : UMay m l t) (hq : UseOk (mlOf m l t)) :
    Calls Try.prog 9 #[.agg (mdc m)] w fun e w' => e = .returned (.int .i64 0) ∧ Hid (Below w.heap.size w w') := by
  obtain ⟨W, hW⟩ : ∃ W, W = w.alloc (.cells (mdc m) 31) := ⟨_, rfl⟩
  have K := hid (show Below w.heap.size w W from hW ▸ (Below.refl _ w).alloc (Nat.le_refl _) _)
  have X := hid (show Pbox W w.heap.size m from hW ▸ heap_alloc_new w _)
  have HW := hid hW
  have H := hid h
  have CH := hid (fun Y => head_yes (w := Y) hy)
  have CU := hid (fun Y (hb : Below w.heap.size w Y) => use_yes (H.out.on hb) hu)
  have hx : ∀ k, k < 4 → 0 ≤ (m.D k).x := fun k hk => (hu.2.1 k hk).2.1
  have hal := alok_of h.kd hy hu
  have CD := hid (fun Y (hb : Below w.heap.size w Y) => used_any (Arg.of (H.out.on hb) hx) hal)
  have HQ := hid (used_iff hal (show 1 ≤ (mlOf m l t).kd ∧ (mlOf m l t).kd ≤ 6 from hy.1))
  have HX := hid hx
  have Hq := hid hq
  clear hy hu hx hal hq
  clear hW h
  go_enter Try.func9, Try.ntmps9
  go_upto_region 1 with fail
  rw [← HW.out]
  clear HW
  have CF : Hid (∀ Y, Below W.heap.size W Y → Pbox Y w.heap.size m) := hid fun Y hb => X.out.below hb X.out.lt
  have BX : Hid (Below W.heap.size W W.drew) := hid (Below.refl W.heap.size W).drew
  refine wp_region_held_drew (S := fun X => Pbox X w.heap.size m) (by kernel_rfl) (CF.out _ BX.out) (fun hHeld => ?_)
  refine wpAnyH_take (i := 0) rfl (by kernel_rfl) (by kernel_rfl) (by kernel_rfl) (fun _ _ _ h => h) (yields_pload (by rfl) (.tmp 1) rfl w.heap.size m rfl (fun X hX => hX)) hHeld ?_
  (try simp only [Act.put, List.setIfInBounds_toArray, List.set_cons_zero, List.set_cons_succ, List.getElem_toArray, List.getElem_cons_zero])
  refine wpAnyH_ready (rs := [1]) (by kernel_rfl) (by simp) ?_
  refine AllReadyH.cons rfl (fun K' hK => ?_) AllReadyH.nil
  (try simp only [Act.put, List.setIfInBounds_toArray, List.set_cons_zero, List.set_cons_succ, List.getElem_toArray, List.getElem_cons_succ, List.getElem_cons_zero])
  go_simp
  refine (CH.out _).mono ?_
  rintro e y1 ⟨rfl, hb⟩
  replace BX := hid (BX.out.trans (hb.out.mono BX.out.size))
  clear hb
  try dsimp only
  refine hK.out _ _ (CF.out _ BX.out) (fun hHeld => ?_)
  clear hK K'
  (try simp only [Act.put, List.setIfInBounds_toArray, List.set_cons_zero, List.set_cons_succ, List.getElem_toArray, List.getElem_cons_succ, List.getElem_cons_zero])
  refine wpAnyH_take (i := 2) (v := ?v1) rfl (by kernel_rfl) (by kernel_rfl) (by kernel_rfl) (fun _ _ _ h => h) (Or.inl ⟨by rfl, ?y1⟩) (by assumption) ?r1
  case y1 => (intro w0 hSw; (try dsimp only at hSw); (try simp only [List.getElem_toArray, List.getElem_cons_succ, List.getElem_cons_zero]); go_simp; try with_reducible rfl)
  (try simp only [Act.put, List.setIfInBounds_toArray, List.set_cons_zero, List.set_cons_succ, List.getElem_toArray, List.getElem_cons_succ, List.getElem_cons_zero])
  refine wpAnyH_take (i := 3) rfl (by kernel_rfl) (by kernel_rfl) (by kernel_rfl) (fun _ _ _ h => h) (yields_pload (by rfl) (.tmp 1) rfl w.heap.size m rfl (fun X hX => hX)) hHeld ?_
  (try simp only [Act.put, List.setIfInBounds_toArray, List.set_cons_zero, List.set_cons_succ, List.getElem_toArray, List.getElem_cons_succ, List.getElem_cons_zero])
  refine wpAnyH_ready (rs := [4]) (by kernel_rfl) (by simp) ?_
  refine AllReadyH.cons rfl (fun K' hK => ?_) AllReadyH.nil
  (try simp only [Act.put, List.setIfInBounds_toArray, List.set_cons_zero, List.set_cons_succ, List.getElem_toArray, List.getElem_cons_succ, List.getElem_cons_zero])
  go_simp
  refine (CU.out _ (K.out.trans (BX.out.mono K.out.size))).mono ?_
  rintro e y4 ⟨rfl, hb⟩
  replace BX := hid (BX.out.trans (hb.out.mono BX.out.size))
  clear hb
  try dsimp only
  refine hK.out _ _ (CF.out _ BX.out) (fun hHeld => ?_)
  clear hK K'
  (try simp only [Act.put, List.setIfInBounds_toArray, List.set_cons_zero, List.set_cons_succ, List.getElem_toArray, List.getElem_cons_succ, List.getElem_cons_zero])
  refine wpAnyH_take (i := 5) (v := ?v2) rfl (by kernel_rfl) (by kernel_rfl) (by kernel_rfl) (fun _ _ _ h => h) (Or.inl ⟨by rfl, ?y2⟩) (by assumption) ?r2
  case y2 => (intro w0 hSw; (try dsimp only at hSw); (try simp only [List.getElem_toArray, List.getElem_cons_succ, List.getElem_cons_zero]); go_simp; try with_reducible rfl)
  (try simp only [Act.put, List.setIfInBounds_toArray, List.set_cons_zero, List.set_cons_succ, List.getElem_toArray, List.getElem_cons_succ, List.getElem_cons_zero])
  refine wpAnyH_take (i := 6) (v := ?v3) rfl (by kernel_rfl) (by kernel_rfl) (by kernel_rfl) (fun _ _ _ h => h) (Or.inl ⟨by rfl, ?y3⟩) (by assumption) ?r3
  case y3 => (intro w0 hSw; (try dsimp only at hSw); (try simp only [List.getElem_toArray, List.getElem_cons_succ, List.getElem_cons_zero]); go_simp; try with_reducible rfl)
  (try simp only [Act.put, List.setIfInBounds_toArray, List.set_cons_zero, List.set_cons_succ, List.getElem_toArray, List.getElem_cons_succ, List.getElem_cons_zero])
  refine wpAnyH_take (i := 7) rfl (by kernel_rfl) (by kernel_rfl) (by kernel_rfl) (fun _ _ _ h => h) (yields_pload (by rfl) (.tmp 1) rfl w.heap.size m rfl (fun X hX => hX)) hHeld ?_
  (try simp only [Act.put, List.setIfInBounds_toArray, List.set_cons_zero, List.set_cons_succ, List.getElem_toArray, List.getElem_cons_succ, List.getElem_cons_zero])
  refine wpAnyH_take (i := 8) rfl (by kernel_rfl) (by kernel_rfl) (by kernel_rfl) (fun _ _ _ h => h) (yields_pload (by rfl) (.tmp 1) rfl w.heap.size m rfl (fun X hX => hX)) hHeld ?_
  (try simp only [Act.put, List.setIfInBounds_toArray, List.set_cons_zero, List.set_cons_succ, List.getElem_toArray, List.getElem_cons_succ, List.getElem_cons_zero])
  refine wpAnyH_ready (rs := [9]) (by kernel_rfl) (by simp) ?_
  refine AllReadyH.cons rfl (fun K' hK => ?_) AllReadyH.nil
  (try simp only [Act.put, List.setIfInBounds_toArray, List.set_cons_zero, List.set_cons_succ, List.getElem_toArray, List.getElem_cons_succ, List.getElem_cons_zero])
  go_simp
  refine (CD.out _ (K.out.trans (BX.out.mono K.out.size))).mono ?_
  rintro e y9 ⟨m', rfl, hO, hb⟩
  replace BX := hid (BX.out.trans (hb.out.mono BX.out.size))
  have HSz := hid hb.out.size
  clear hb
  try dsimp only
  refine hK.out _ _ (CF.out _ BX.out) (fun hHeld => ?_)
  clear hK K'
  (try simp only [Act.put, List.setIfInBounds_toArray, List.set_cons_zero, List.set_cons_succ, List.getElem_toArray, List.getElem_cons_succ, List.getElem_cons_zero])
  have HPD := hid ((hO.out.prd (by rw [along_kd]; exact H.out.kd) (fun D h => h.mono HSz.out)))
  have HE := hid (psm_out H.out HX.out hO.out)
  have CS := hid (wsame_any (H.out.on (K.out.trans (BX.out.mono K.out.size))) HPD.out (P := True) (hid ⟨fun _ => HE.out.2 (HQ.out.2 Hq.out).symm, fun _ => trivial⟩))
  refine wpAnyH_ready (rs := [10]) (by kernel_rfl) (by simp) ?_
  refine AllReadyH.cons rfl (fun K' hK => ?_) AllReadyH.nil
  (try simp only [Act.put, List.setIfInBounds_toArray, List.set_cons_zero, List.set_cons_succ, List.getElem_toArray, List.getElem_cons_succ, List.getElem_cons_zero])
  go_simp
  refine (CS.out).mono ?_
  rintro e y10 ⟨q, rfl, hr, hb⟩
  replace BX := hid (BX.out.trans (hb.out.mono BX.out.size))
  obtain rfl : q = true := hr.out.2 trivial
  clear hb hr
  try dsimp only
  refine hK.out _ _ (CF.out _ BX.out) (fun hHeld => ?_)
  clear hK K'
  (try simp only [Act.put, List.setIfInBounds_toArray, List.set_cons_zero, List.set_cons_succ, List.getElem_toArray, List.getElem_cons_succ, List.getElem_cons_zero])
  refine wpAnyH_take (i := 11) (v := ?v4) rfl (by kernel_rfl) (by kernel_rfl) (by kernel_rfl) (fun _ _ _ h => h) (Or.inl ⟨by rfl, ?y4⟩) (by assumption) ?r4
  case y4 => (intro w0 hSw; (try dsimp only at hSw); (try simp only [List.getElem_toArray, List.getElem_cons_succ, List.getElem_cons_zero]); go_simp; try with_reducible rfl)
  (try simp only [Act.put, List.setIfInBounds_toArray, List.set_cons_zero, List.set_cons_succ, List.getElem_toArray, List.getElem_cons_succ, List.getElem_cons_zero])
  refine wpAnyH_done (by kernel_rfl) ?_ _
  clear CH CU CD CS
  go_wp2
  go_ret
  exact ⟨rfl, hid (K.out.trans (BX.out.mono K.out.size))⟩

set_option maxHeartbeats 12800000 in
theorem check_other {w : World} {m : Md} {l : List De} {t : Nat → Nat} (h : Prd w w.heap.size m l t) (hy : HMay m) (hu : UMay m l t) (hq : ¬ UseOk (mlOf m l t)) :
    Calls Try.prog 9 #[.agg (mdc m)] w fun e w' => e = .returned (.int .i64 100) ∧ Hid (Below w.heap.size w w') := by
  obtain ⟨W, hW⟩ : ∃ W, W = w.alloc (.cells (mdc m) 31) := ⟨_, rfl⟩
  have K := hid (show Below w.heap.size w W from hW ▸ (Below.refl _ w).alloc (Nat.le_refl _) _)
  have X := hid (show Pbox W w.heap.size m from hW ▸ heap_alloc_new w _)
  have HW := hid hW
  have H := hid h
  have CH := hid (fun Y => head_yes (w := Y) hy)
  have CU := hid (fun Y (hb : Below w.heap.size w Y) => use_yes (H.out.on hb) hu)
  have hx : ∀ k, k < 4 → 0 ≤ (m.D k).x := fun k hk => (hu.2.1 k hk).2.1
  have hal := alok_of h.kd hy hu
  have CD := hid (fun Y (hb : Below w.heap.size w Y) => used_any (Arg.of (H.out.on hb) hx) hal)
  have HQ := hid (used_iff hal (show 1 ≤ (mlOf m l t).kd ∧ (mlOf m l t).kd ≤ 6 from hy.1))
  have HX := hid hx
  have Hq := hid hq
  clear hy hu hx hal hq
  clear hW h
  go_enter Try.func9, Try.ntmps9
  go_upto_region 1 with fail
  rw [← HW.out]
  clear HW
  have CF : Hid (∀ Y, Below W.heap.size W Y → Pbox Y w.heap.size m) := hid fun Y hb => X.out.below hb X.out.lt
  have BX : Hid (Below W.heap.size W W.drew) := hid (Below.refl W.heap.size W).drew
  refine wp_region_held_drew (S := fun X => Pbox X w.heap.size m) (by kernel_rfl) (CF.out _ BX.out) (fun hHeld => ?_)
  refine wpAnyH_take (i := 0) rfl (by kernel_rfl) (by kernel_rfl) (by kernel_rfl) (fun _ _ _ h => h) (yields_pload (by rfl) (.tmp 1) rfl w.heap.size m rfl (fun X hX => hX)) hHeld ?_
  (try simp only [Act.put, List.setIfInBounds_toArray, List.set_cons_zero, List.set_cons_succ, List.getElem_toArray, List.getElem_cons_zero])
  refine wpAnyH_ready (rs := [1]) (by kernel_rfl) (by simp) ?_
  refine AllReadyH.cons rfl (fun K' hK => ?_) AllReadyH.nil
  (try simp only [Act.put, List.setIfInBounds_toArray, List.set_cons_zero, List.set_cons_succ, List.getElem_toArray, List.getElem_cons_succ, List.getElem_cons_zero])
  go_simp
  refine (CH.out _).mono ?_
  rintro e y1 ⟨rfl, hb⟩
  replace BX := hid (BX.out.trans (hb.out.mono BX.out.size))
  clear hb
  try dsimp only
  refine hK.out _ _ (CF.out _ BX.out) (fun hHeld => ?_)
  clear hK K'
  (try simp only [Act.put, List.setIfInBounds_toArray, List.set_cons_zero, List.set_cons_succ, List.getElem_toArray, List.getElem_cons_succ, List.getElem_cons_zero])
  refine wpAnyH_take (i := 2) (v := ?v1) rfl (by kernel_rfl) (by kernel_rfl) (by kernel_rfl) (fun _ _ _ h => h) (Or.inl ⟨by rfl, ?y1⟩) (by assumption) ?r1
  case y1 => (intro w0 hSw; (try dsimp only at hSw); (try simp only [List.getElem_toArray, List.getElem_cons_succ, List.getElem_cons_zero]); go_simp; try with_reducible rfl)
  (try simp only [Act.put, List.setIfInBounds_toArray, List.set_cons_zero, List.set_cons_succ, List.getElem_toArray, List.getElem_cons_succ, List.getElem_cons_zero])
  refine wpAnyH_take (i := 3) rfl (by kernel_rfl) (by kernel_rfl) (by kernel_rfl) (fun _ _ _ h => h) (yields_pload (by rfl) (.tmp 1) rfl w.heap.size m rfl (fun X hX => hX)) hHeld ?_
  (try simp only [Act.put, List.setIfInBounds_toArray, List.set_cons_zero, List.set_cons_succ, List.getElem_toArray, List.getElem_cons_succ, List.getElem_cons_zero])
  refine wpAnyH_ready (rs := [4]) (by kernel_rfl) (by simp) ?_
  refine AllReadyH.cons rfl (fun K' hK => ?_) AllReadyH.nil
  (try simp only [Act.put, List.setIfInBounds_toArray, List.set_cons_zero, List.set_cons_succ, List.getElem_toArray, List.getElem_cons_succ, List.getElem_cons_zero])
  go_simp
  refine (CU.out _ (K.out.trans (BX.out.mono K.out.size))).mono ?_
  rintro e y4 ⟨rfl, hb⟩
  replace BX := hid (BX.out.trans (hb.out.mono BX.out.size))
  clear hb
  try dsimp only
  refine hK.out _ _ (CF.out _ BX.out) (fun hHeld => ?_)
  clear hK K'
  (try simp only [Act.put, List.setIfInBounds_toArray, List.set_cons_zero, List.set_cons_succ, List.getElem_toArray, List.getElem_cons_succ, List.getElem_cons_zero])
  refine wpAnyH_take (i := 5) (v := ?v2) rfl (by kernel_rfl) (by kernel_rfl) (by kernel_rfl) (fun _ _ _ h => h) (Or.inl ⟨by rfl, ?y2⟩) (by assumption) ?r2
  case y2 => (intro w0 hSw; (try dsimp only at hSw); (try simp only [List.getElem_toArray, List.getElem_cons_succ, List.getElem_cons_zero]); go_simp; try with_reducible rfl)
  (try simp only [Act.put, List.setIfInBounds_toArray, List.set_cons_zero, List.set_cons_succ, List.getElem_toArray, List.getElem_cons_succ, List.getElem_cons_zero])
  refine wpAnyH_take (i := 6) (v := ?v3) rfl (by kernel_rfl) (by kernel_rfl) (by kernel_rfl) (fun _ _ _ h => h) (Or.inl ⟨by rfl, ?y3⟩) (by assumption) ?r3
  case y3 => (intro w0 hSw; (try dsimp only at hSw); (try simp only [List.getElem_toArray, List.getElem_cons_succ, List.getElem_cons_zero]); go_simp; try with_reducible rfl)
  (try simp only [Act.put, List.setIfInBounds_toArray, List.set_cons_zero, List.set_cons_succ, List.getElem_toArray, List.getElem_cons_succ, List.getElem_cons_zero])
  refine wpAnyH_take (i := 7) rfl (by kernel_rfl) (by kernel_rfl) (by kernel_rfl) (fun _ _ _ h => h) (yields_pload (by rfl) (.tmp 1) rfl w.heap.size m rfl (fun X hX => hX)) hHeld ?_
  (try simp only [Act.put, List.setIfInBounds_toArray, List.set_cons_zero, List.set_cons_succ, List.getElem_toArray, List.getElem_cons_succ, List.getElem_cons_zero])
  refine wpAnyH_take (i := 8) rfl (by kernel_rfl) (by kernel_rfl) (by kernel_rfl) (fun _ _ _ h => h) (yields_pload (by rfl) (.tmp 1) rfl w.heap.size m rfl (fun X hX => hX)) hHeld ?_
  (try simp only [Act.put, List.setIfInBounds_toArray, List.set_cons_zero, List.set_cons_succ, List.getElem_toArray, List.getElem_cons_succ, List.getElem_cons_zero])
  refine wpAnyH_ready (rs := [9]) (by kernel_rfl) (by simp) ?_
  refine AllReadyH.cons rfl (fun K' hK => ?_) AllReadyH.nil
  (try simp only [Act.put, List.setIfInBounds_toArray, List.set_cons_zero, List.set_cons_succ, List.getElem_toArray, List.getElem_cons_succ, List.getElem_cons_zero])
  go_simp
  refine (CD.out _ (K.out.trans (BX.out.mono K.out.size))).mono ?_
  rintro e y9 ⟨m', rfl, hO, hb⟩
  replace BX := hid (BX.out.trans (hb.out.mono BX.out.size))
  have HSz := hid hb.out.size
  clear hb
  try dsimp only
  refine hK.out _ _ (CF.out _ BX.out) (fun hHeld => ?_)
  clear hK K'
  (try simp only [Act.put, List.setIfInBounds_toArray, List.set_cons_zero, List.set_cons_succ, List.getElem_toArray, List.getElem_cons_succ, List.getElem_cons_zero])
  have HPD := hid ((hO.out.prd (by rw [along_kd]; exact H.out.kd) (fun D h => h.mono HSz.out)))
  have HE := hid (psm_out H.out HX.out hO.out)
  have CS := hid (wsame_any (H.out.on (K.out.trans (BX.out.mono K.out.size))) HPD.out (P := False) (hid ⟨fun h => h.elim, fun h => Hq.out (HQ.out.1 (HE.out.1 h).symm)⟩))
  refine wpAnyH_ready (rs := [10]) (by kernel_rfl) (by simp) ?_
  refine AllReadyH.cons rfl (fun K' hK => ?_) AllReadyH.nil
  (try simp only [Act.put, List.setIfInBounds_toArray, List.set_cons_zero, List.set_cons_succ, List.getElem_toArray, List.getElem_cons_succ, List.getElem_cons_zero])
  go_simp
  refine (CS.out).mono ?_
  rintro e y10 ⟨q, rfl, hr, hb⟩
  replace BX := hid (BX.out.trans (hb.out.mono BX.out.size))
  obtain rfl : q = false := by cases q; rfl; exact (hr.out.1 rfl).elim
  clear hb hr
  try dsimp only
  refine hK.out _ _ (CF.out _ BX.out) (fun hHeld => ?_)
  clear hK K'
  (try simp only [Act.put, List.setIfInBounds_toArray, List.set_cons_zero, List.set_cons_succ, List.getElem_toArray, List.getElem_cons_succ, List.getElem_cons_zero])
  refine wpAnyH_take (i := 11) (v := ?v4) rfl (by kernel_rfl) (by kernel_rfl) (by kernel_rfl) (fun _ _ _ h => h) (Or.inl ⟨by rfl, ?y4⟩) (by assumption) ?r4
  case y4 => (intro w0 hSw; (try dsimp only at hSw); (try simp only [List.getElem_toArray, List.getElem_cons_succ, List.getElem_cons_zero]); go_simp; try with_reducible rfl)
  (try simp only [Act.put, List.setIfInBounds_toArray, List.set_cons_zero, List.set_cons_succ, List.getElem_toArray, List.getElem_cons_succ, List.getElem_cons_zero])
  refine wpAnyH_done (by kernel_rfl) ?_ _
  clear CH CU CD CS
  go_wp2
  go_ret
  exact ⟨rfl, hid (K.out.trans (BX.out.mono K.out.size))⟩

theorem mcheck {w : World} {m : Md} {l : List De} {t : Nat → Nat} {P : Prop} (h : Prd w w.heap.size m l t) (HP : Hid (P ↔ PMay m l t)) :
    Calls Try.prog 9 #[.agg (mdc m)] w fun e w' => ∃ er : Int, e = .returned (.int .i64 er) ∧ Hid ((P → er = 0) ∧ (¬ P → er = 100)) ∧ Hid (Below w.heap.size w w') := by
  have hi := HP.out.trans (pmay_iff h)
  by_cases h1 : HMay m
  · by_cases h2 : UMay m l t
    · by_cases h3 : UseOk (mlOf m l t)
      · exact (check_same h h1 h2 h3).mono fun _ _ ⟨he, hb⟩ => ⟨0, he, hid ⟨fun _ => rfl, fun hn => absurd (hi.2 ⟨⟨h1, h2⟩, h3⟩) hn⟩, hb⟩
      · exact (check_other h h1 h2 h3).mono fun _ _ ⟨he, hb⟩ => ⟨100, he, hid ⟨fun hp => absurd (hi.1 hp).2 h3, fun _ => rfl⟩, hb⟩
    · exact (check_use h h1 h2).mono fun _ _ ⟨he, hb⟩ => ⟨100, he, hid ⟨fun hp => absurd (hi.1 hp).1.2 h2, fun _ => rfl⟩, hb⟩
  · exact (check_head h h1).mono fun _ _ ⟨he, hb⟩ => ⟨100, he, hid ⟨fun hp => absurd (hi.1 hp).1.1 h1, fun _ => rfl⟩, hb⟩
end Go.Proofs.Ytbankbehfjogpaa
