/- Package ratio: divide. -/
import Derived.RangeFuncNested
import Derived.RangeFuncBound
import Derived.RangeFuncCalls
import Derived.RangeFuncLeaves
import Derived.Shelf.RegionOpen
import Derived.LoopNIn
import Derived.LoopIn
import Derived.Deep.RegionHeld3
import Derived.Test.YtnhnddhigbbleaaDoorRl
import Derived.Test.YtnhnddhigbbleaaDoorRk
import Derived.Test.YtnhnddhigbbleaaDoorRh
import Derived.Test.YtnhnddhigbbleaaDoorRj
namespace Go.Proofs.YtnhnddhigbbleaaDoor
open Go.RowKit Go.Shelf
attribute [local go_sem] Oper.semAt_some

theorem two_boxes {m : Nat} {W w' : World} {g1 g2 : Nat} {s t : Bool} {u v : Value} {x y : Int} (hb : Below m W w') (h1 : Dbox W g1 s u x) (k1 : g1 < m) (h2 : Dbox W g2 t v y) (k2 : g2 < m) :
    w'.cell? ⟨g1, 0, none⟩ = some (.bool s) ∧ w'.cell? ⟨g1, 1, none⟩ = some u ∧ w'.cell? ⟨g1, 2, none⟩ = some (.int .i64 x) ∧ w'.cell? ⟨g2, 0, none⟩ = some (.bool t) ∧ w'.cell? ⟨g2, 1, none⟩ = some v ∧ w'.cell? ⟨g2, 2, none⟩ = some (.int .i64 y) :=
  ⟨(h1.below hb k1).c0, (h1.below hb k1).c1, (h1.below hb k1).c2, (h2.below hb k2).c0, (h2.below hb k2).c1, (h2.below hb k2).c2⟩
theorem heap_alloc_at {w : World} {o : Obj} {g : Nat} (h : g = w.heap.size) : (w.alloc o).heap[g]? = some o := by subst h; exact heap_alloc_new w o

structure KeptFor (P : Prop) : Prop where
  out : P
theorem cut_mv {P G : Prop} (h : KeptFor P → G) (k : P) : G := h ⟨k⟩
theorem DivI.drew {w W : World} {b g k : Nat} {last : Int} {pre : List (Int × Nat)} (h : DivI w b g k last pre W) : DivI w b g k last pre W.drew := ⟨h.whole, h.wlt, h.box, h.plt, h.low, h.last_, h.res, h.err, h.below.drew⟩
theorem limbs_blk (w : World) : Blk (w.alloc (.cells #[.int .u32 0, .int .u32 0, .int .u32 0, .int .u32 0, .int .u32 0, .int .u32 0, .int .u32 0, .int .u32 0, .int .u32 0, .int .u32 0, .int .u32 0, .int .u32 0, .int .u32 0, .int .u32 0, .int .u32 0, .int .u32 0, .int .u32 0, .int .u32 0, .int .u32 0, .int .u32 0, .int .u32 0, .int .u32 0, .int .u32 0, .int .u32 0, .int .u32 0, .int .u32 0, .int .u32 0, .int .u32 0, .int .u32 0, .int .u32 0, .int .u32 0, .int .u32 0, .int .u32 0, .int .u32 0, .int .u32 0, .int .u32 0, .int .u32 0, .int .u32 0, .int .u32 0, .int .u32 0] 70)) 70 w.heap.size 40 (fun _ => 0) := by
  refine ⟨_, heap_alloc_new w _, rfl, fun j hj => ?_⟩
  have e : (#[.int .u32 0, .int .u32 0, .int .u32 0, .int .u32 0, .int .u32 0, .int .u32 0, .int .u32 0, .int .u32 0, .int .u32 0, .int .u32 0, .int .u32 0, .int .u32 0, .int .u32 0, .int .u32 0, .int .u32 0, .int .u32 0, .int .u32 0, .int .u32 0, .int .u32 0, .int .u32 0, .int .u32 0, .int .u32 0, .int .u32 0, .int .u32 0, .int .u32 0, .int .u32 0, .int .u32 0, .int .u32 0, .int .u32 0, .int .u32 0, .int .u32 0, .int .u32 0, .int .u32 0, .int .u32 0, .int .u32 0, .int .u32 0, .int .u32 0, .int .u32 0, .int .u32 0, .int .u32 0] : Array Value) = Array.replicate 40 (.int .u32 0) := by rfl
  rw [e, Array.getElem?_replicate, if_pos hj]
  rfl

theorem slice_all (g : Nat) (w : World) : (Instr.sliceAt 70 (.pointer (some ⟨g, 0, none⟩)) none none none).run Tryd.prog w = .ok (.slice (some ⟨g, 0, none⟩) 40 40) w := by
  have h := run_sliceAt_array_all (P := Tryd.prog) w 70 ⟨g, 0, none⟩ (by kernel_rfl)
  have hl : Tryd.prog.arrayLen 70 = 40 := by kernel_rfl
  rw [h, hl]
  have hs : ∀ w', (sizeOf (Tryd.prog.elem 70)).run Tryd.prog w' = .ok 1 w' := by
    intro w'
    rw [show Tryd.prog.elem 70 = 63 from by kernel_rfl]
    go_simp
  rw [hs]
  simp [slicedAt, Addr.add, Result.andThen]

/-- What divide answers: the whole part, the parts, the half and whether there is more, or that the whole part has no room. -/
def QTold (w : World) (A B k : Nat) (e : Ending) (w' : World) : Prop :=
  Hid (Below w.heap.size w w') ∧
  ((pw 40 ≤ A * 2 ^ (k + 1) / B / 2 ^ (k + 1) ∧ e = .returned (.tuple #[.agg #[.bool false, .slice none 0 0, .int .i64 0, .int .u64 0, .int .i64 0, .bool false, .bool false], .int .i64 10])) ∨
   (A * 2 ^ (k + 1) / B / 2 ^ (k + 1) < pw 40 ∧ ∃ v, e = .returned (.tuple #[.agg #[.bool false, v, .int .i64 0, .int .u64 ((A * 2 ^ (k + 1) / B / 2 % 2 ^ k : Nat) : Int), .int .i64 (k : Int), .bool (decide (A * 2 ^ (k + 1) / B % 2 = 1)), .bool (decide (A * 2 ^ (k + 1) % B ≠ 0))], .int .i64 0]) ∧
     Hid (Num 70 w.heap.size w' (A * 2 ^ (k + 1) / B / 2 ^ (k + 1)) v)))

set_option maxRecDepth 100000 in
set_option maxHeartbeats 8000000 in
theorem divide_in {w : World} {s t : Bool} {Aa Ab : Option Addr} {na ca nb cb ea eb k : Nat} {fa fb : Nat → Nat} (ha : Rd w w.heap.size Aa na ca fa) (hfa : Fit na fa) (hb : Rd w w.heap.size Ab nb cb fb) (hfb : Fit nb fb) (hVb : 0 < vl fb nb) (hea : ea ≤ 1024) (heb : eb ≤ 1024) (hk : k ≤ 64) :
    CallsIn Fence.wide 9 Tryd.prog 26 #[.agg #[.bool s, .slice Aa na ca, .int .i64 (ea : Int)], .agg #[.bool t, .slice Ab nb cb, .int .i64 (eb : Int)], .int .i64 (k : Int)] w fun e w' => QTold w (vl fa na * tp (4000 - ea)) (vl fb nb * tp (4000 - eb)) k e w' := by
  obtain ⟨W, hW⟩ : ∃ W, W = ((((w.alloc (.cells #[.bool s, .slice Aa na ca, .int .i64 (ea : Int)] 24)).alloc (.cells #[.bool t, .slice Ab nb cb, .int .i64 (eb : Int)] 24)).alloc
    (.cells #[.bool false, .slice none 0 0, .int .i64 0, .int .u64 0, .int .i64 0, .bool false, .bool false] 39)).alloc (.cells #[.int .i64 0] 27)).alloc (.cells #[.bool false, .slice none 0 0, .int .i64 0, .int .u64 0, .int .i64 (k : Int), .bool false, .bool false] 39) := ⟨_, rfl⟩
  have hsz : W.heap.size = w.heap.size + 5 := by rw [hW]; simp
  have B0 : Below w.heap.size w W := hW ▸ (((((Below.refl w.heap.size w).alloc (Nat.le_refl _) _).alloc (by simp) _).alloc (by simp <;> omega) _).alloc (by simp <;> omega) _).alloc (by simp <;> omega) _
  have D1 : Dbox W w.heap.size s (.slice Aa na ca) (ea : Int) := by
    rw [hW]
    exact (Below.heap_alloc _ _ _ (by simp <;> omega)).trans ((Below.heap_alloc _ _ _ (by simp <;> omega)).trans ((Below.heap_alloc _ _ _ (by simp <;> omega)).trans ((Below.heap_alloc _ _ _ (by simp)).trans (heap_alloc_at rfl))))
  have D2 : Dbox W (w.heap.size + 1) t (.slice Ab nb cb) (eb : Int) := by
    rw [hW]
    exact (Below.heap_alloc _ _ _ (by simp <;> omega)).trans ((Below.heap_alloc _ _ _ (by simp <;> omega)).trans ((Below.heap_alloc _ _ _ (by simp)).trans (heap_alloc_at (by simp))))
  have D3 : Qbox W (w.heap.size + 2) false (.slice none 0 0) 0 0 0 false false := by
    rw [hW]
    exact (Below.heap_alloc _ _ _ (by simp <;> omega)).trans ((Below.heap_alloc _ _ _ (by simp)).trans (heap_alloc_at (by simp)))
  have D4 : Box W (w.heap.size + 3) 27 (.int .i64 0) := by
    rw [hW]
    exact (Below.heap_alloc _ _ _ (by simp)).trans (heap_alloc_at (by simp))
  have D5 : Qbox W (w.heap.size + 4) false (.slice none 0 0) 0 0 k false false := by
    rw [hW]
    exact heap_alloc_at (by simp)
  have Va : Val w (vl fa na) (.slice Aa na ca) := ⟨_, _, _, _, rfl, ha, hfa, rfl⟩
  have Vb : Val w (vl fb nb) (.slice Ab nb cb) := ⟨_, _, _, _, rfl, hb, hfb, rfl⟩
  have HW := hid hW
  have CA : Hid (∀ w', Below (w.heap.size + 5) W w' → Calls Tryd.prog 40 #[.agg #[.bool s, .slice Aa na ca, .int .i64 (ea : Int)]] w' fun e w'' => ∃ z : Nat, e = .returned (.int .i64 ((z : Int) - 1 - (ea : Int))) ∧ Hid (Size (vl fa na) z ∧ z ≤ 1280) ∧ Hid (Below w'.heap.size w' w'') ∧ Hid (Below (w.heap.size + 5) W w'')) := hid fun w' hb => (top_any (Va.below (B0.trans (hb.mono (by omega)))) hea).mono fun e w'' h => by obtain ⟨z, h1, h2, h3⟩ := h; exact ⟨z, h1, h2, h3, hid (hb.trans (h3.out.mono (by have := hb.size; omega)))⟩
  have CB : Hid (∀ w', Below (w.heap.size + 5) W w' → Calls Tryd.prog 40 #[.agg #[.bool t, .slice Ab nb cb, .int .i64 (eb : Int)]] w' fun e w'' => ∃ z : Nat, e = .returned (.int .i64 ((z : Int) - 1 - (eb : Int))) ∧ Hid (Size (vl fb nb) z ∧ z ≤ 1280) ∧ Hid (Below w'.heap.size w' w'') ∧ Hid (Below (w.heap.size + 5) W w'')) := hid fun w' hb => (top_any (Vb.below (B0.trans (hb.mono (by omega)))) heb).mono fun e w'' h => by obtain ⟨z, h1, h2, h3⟩ := h; exact ⟨z, h1, h2, h3, hid (hb.trans (h3.out.mono (by have := hb.size; omega)))⟩
  have hfollow : Tryd.prog.follows .mixedOrders = true := by kernel_rfl
  have HB0 := hid B0
  have H1 := hid D1
  have H2 := hid D2
  have H3 := hid D3
  have H4 := hid D4
  have H5 := hid D5
  have a0 := D1.c0
  have a1 := D1.c1
  have a2 := D1.c2
  have e0 := D2.c0
  have e1 := D2.c1
  have e2 := D2.c2
  clear hW B0 D1 D2 D3 D4 D5 Va Vb
  have hw1 : IntKind.i64.wrap (-(k : Int)) = -(k : Int) := IntWalk.i64_in _ (by omega)
  have hw2 : IntKind.i64.wrap (-(k : Int) - 1) = -(k : Int) - 1 := IntWalk.i64_in _ (by omega)
  have hsz2 : (w.heap.size + 5) ≤ W.heap.size := by omega
  have HBz : Hid (Below (w.heap.size + 5) W W.drew) := hid (Below.refl _ W).drew
  have Hsz := hid hsz
  clear hsz
  refine callsIn_of_wp_marks Tryd.func26 rfl trivial (wpIn_wide.2 ?_) rfl
  simp only [Tryd.ntmps26, List.size_toArray, List.length_cons, List.length_nil, Nat.reduceAdd, Nat.reduceSub, Array.replicate_succ, Array.replicate_zero, List.push_toArray, List.append_toArray, List.nil_append, List.cons_append]
  apply cut_mv
  · intro key
    go_upto_region 2 with fail
    rw [← HW.out]
    go_region_held3 (fun w' => w'.cell? ⟨w.heap.size, 0, none⟩ = some (.bool s) ∧ w'.cell? ⟨w.heap.size, 1, none⟩ = some (.slice Aa na ca) ∧ w'.cell? ⟨w.heap.size, 2, none⟩ = some (.int .i64 (ea : Int)) ∧
        w'.cell? ⟨w.heap.size + 1, 0, none⟩ = some (.bool t) ∧ w'.cell? ⟨w.heap.size + 1, 1, none⟩ = some (.slice Ab nb cb) ∧ w'.cell? ⟨w.heap.size + 1, 2, none⟩ = some (.int .i64 (eb : Int)))
      (first
        | exact two_boxes HBz.out H1.out (by omega) H2.out (by omega)
        | exact two_boxes (HBz.out.alloc (Nat.le_trans hsz2 HBz.out.size) _) H1.out (by omega) H2.out (by omega)
        | exact two_boxes ((HBz.out.alloc (Nat.le_trans hsz2 HBz.out.size) _).setCell (p := ⟨_, 0, none⟩) (by have := HBz.out.size; simp <;> omega) _) H1.out (by omega) H2.out (by omega)
        | exact two_boxes (HBz.out.setCell (p := ⟨_, 0, none⟩) (by simp <;> omega) _) H1.out (by omega) H2.out (by omega))
      (first
      | (go_at_call 40
         with_reducible refine (CA.out _ ?_).mono ?_
         · first | exact HBz.out | exact HBz.out.alloc (Nat.le_trans hsz2 HBz.out.size) _
         rintro e w1 ⟨z1, rfl, Sz1, hj1, HBz⟩
         have hs1 := HBz.out.size
         try have Xb := (Box.new _ 3 (.int .i64 0)).below hj1.out (by simp)
         try have Xb := (Box.new _ 3 (.int .i64 0)).drew.below hj1.out (by simp)
         clear hj1)
      | (go_at_call 40
         with_reducible refine (CB.out _ ?_).mono ?_
         · first | exact HBz.out | exact HBz.out.alloc (Nat.le_trans hsz2 HBz.out.size) _
         rintro e w2 ⟨z2, rfl, Sz2, hj2, HBz⟩
         have hs2 := HBz.out.size
         try have Xb := Xb.below hj2.out Xb.lt
         try have Xb := (Box.new _ 3 (.int .i64 0)).below hj2.out (by simp)
         try have xc := Xb.cell
         try have xf := Xb.frozen
         clear hj2))
    all_goals
      first
        | (obtain ⟨W3, hW3⟩ : ∃ W3, W3 = w2.alloc (.cells #[.int .i64 (-(k : Int) - 1)] 3) := ⟨_, rfl⟩
           rw [← hW3]
           have B3 : Below (w.heap.size + 5) W W3 := hW3 ▸ HBz.out.alloc (Nat.le_trans hsz2 hs2) _
           have X3 : Box W3 w2.heap.size 3 (.int .i64 (-(k : Int) - 1)) := hW3 ▸ Box.new w2 _ _
           have hg5 : w.heap.size + 5 ≤ w2.heap.size := Nat.le_trans hsz2 hs2
           clear hW3; generalize w2.heap.size = g at X3 hg5 ⊢)
        | (obtain ⟨W3, hW3⟩ : ∃ W3, W3 = w2.setCell ⟨w1.heap.size, 0, none⟩ (.int .i64 (-(k : Int) - 1)) := ⟨_, rfl⟩
           rw [← hW3]
           have B3 : Below (w.heap.size + 5) W W3 := hW3 ▸ HBz.out.setCell (p := ⟨w1.heap.size, 0, none⟩) (Nat.le_trans hsz2 hs1) _
           have X3 : Box W3 w1.heap.size 3 (.int .i64 (-(k : Int) - 1)) := hW3 ▸ Xb.set _
           have hg5 : w.heap.size + 5 ≤ w1.heap.size := Nat.le_trans hsz2 hs1
           clear hW3; generalize w1.heap.size = g at X3 hg5 ⊢)
        | (obtain ⟨W3, hW3⟩ : ∃ W3, W3 = w2.setCell ⟨W.heap.size, 0, none⟩ (.int .i64 (-(k : Int) - 1)) := ⟨_, rfl⟩
           rw [← hW3]
           have B3 : Below (w.heap.size + 5) W W3 := hW3 ▸ HBz.out.setCell (p := ⟨W.heap.size, 0, none⟩) hsz2 _
           have X3 : Box W3 W.heap.size 3 (.int .i64 (-(k : Int) - 1)) := hW3 ▸ Xb.set _
           have hg5 : w.heap.size + 5 ≤ W.heap.size := hsz2
           clear hW3; generalize W.heap.size = g at X3 hg5 ⊢)
    all_goals
      rename Exit → Act → World → Prop => Q'
      rename Act → World → Prop => K
      rename ∀ (a : Act) (w : World), _ → K a w => aK
      revert hg5
      revert X3
      revert B3
      revert Sz2
      revert Sz1
      revert aK
      revert K
      revert Q'
      revert g
      revert W3
      revert z2
      revert z1
      exact key.out
  · clear CA CB
    intro z1 z2 W3 g Q' K aK Sz1 Sz2 B3 X3 hg5
    all_goals
      have hz1 := Sz1.out.2
      have hz2 := Sz2.out.2
      have hz2p := size_pos1 Sz2.out.1 hVb
      have hlt0 := place_lt Sz1.out.1 Sz2.out.1 hVb hz1
      obtain ⟨t0, ht0⟩ : ∃ t0 : Nat, t0 = 1279 + z2 - z1 := ⟨_, rfl⟩
      obtain ⟨first, hfd⟩ : ∃ f : Int, f = (z1 : Int) - 1 - ea - (z2 - 1 - eb) := ⟨_, rfl⟩
      have hfw : IntKind.i64.wrap ((z1 : Int) - 1 - ea - (z2 - 1 - eb)) = first := by rw [← hfd]; exact IntWalk.i64_in _ (by omega)
      rw [hfw]
      rw [← ht0] at hlt0
      have hp1 : IntKind.i64.wrap ((eb : Int) - ea) = (eb : Int) - ea := IntWalk.i64_in _ (by omega)
      have hp2 : IntKind.i64.wrap ((eb : Int) - ea - first) = (eb : Int) - ea - first := IntWalk.i64_in _ (by omega)
      have hp3 : IntKind.i64.wrap ((eb : Int) - ea - first - 1) = (t0 : Int) - 1280 := by rw [IntWalk.i64_in _ (by omega)]; omega
      have hff := fit_size hfa Sz1.out.1
      have hVp : vl fb nb < pw 40 := vl_pw40 hb hfb
      have hlt81 : vl fa na * tp t0 < pw 81 := by
        refine Nat.lt_of_lt_of_le hlt0 ?_
        rw [show (81 : Nat) = 41 + 40 from rfl, pw_add]
        exact Nat.mul_le_mul_right _ (Nat.le_trans (Nat.le_of_lt hVp) (pw_mono (by omega)))
      have B03 := hid (HB0.out.trans (B3.mono (by omega)))
      have CP := hid (nplace_any (w := W3) (ha.below B03.out |>.mono B03.out.size) (show t0 = 32 * (t0 / 32) + t0 % 32 by omega) (by omega) (by omega) (by omega) hlt81)
      have P1 := H1.out.below B3 (by omega)
      have P2 := H2.out.below B3 (by omega)
      have a1' := P1.c1
      have a2' := P1.c2
      have b1' := P2.c1
      have b2' := P2.c2
      have HB3 := hid B3
      have HX3 := hid X3
      have Hlt0 := hid hlt0
      have Ht0 := hid ht0
      have Hfd := hid hfd
      clear B3 X3 hlt0 hlt81 hVp hff P1 P2 ht0 hfd hz2p
      go_wp2_with fail
      with_reducible refine CP.out.mono ?_
      rintro e W4 ⟨cs, rfl, hF, hb4⟩
      obtain ⟨F, hcs, hcc, hFl, hFv⟩ := hF.out
      have B4 := hid (HB3.out.trans (hb4.out.mono (by have := HB3.out.size; omega)))
      have X4 := hid (HX3.out.below hb4.out HX3.out.lt)
      have hone : cs.all (·.oneCell') = true := by
        refine Array.all_eq_true.2 (fun j hj => ?_)
        have h1 := hcc j (by omega)
        rw [Array.getElem?_eq_getElem hj] at h1
        injection h1 with h1
        rw [h1]
        rfl
      have zb := zero_blk W4
      have hthere : (W4.alloc (.cells Tryd.zeroCells68 68)).there W4.heap.size 0 cs.size := fun j hj => by
        rw [Nat.zero_add]
        refine ⟨?_, zb.frozen j⟩
        rw [zb.cell (by omega)]
        rfl
      obtain ⟨cz, hzh, hzs, hzc⟩ := zb
      obtain ⟨cs', e1, e2, e3⟩ := row_setCells (t := 68) cs.toList 0 _ cz hzh (by simp; omega)
      have hcs' : cs' = cs := by
        apply Array.ext_getElem?
        intro j
        rw [e3 j]
        by_cases hj : j < cs.size
        · rw [if_pos (by simp; omega), Nat.sub_zero, Array.getElem?_toList]
        · rw [if_neg (by simp; omega), Array.getElem?_eq_none (by omega), Array.getElem?_eq_none (by omega)]
      rw [hcs'] at e1
      have hN5 : Hid (Blk ((W4.alloc (.cells Tryd.zeroCells68 68)).setCells W4.heap.size 0 cs.toList) 68 W4.heap.size 81 F) := hid ⟨cs, e1, hcs, hcc⟩
      have b45 : Hid (Below W4.heap.size W4 ((W4.alloc (.cells Tryd.zeroCells68 68)).setCells W4.heap.size 0 cs.toList)) := hid (below_setCells _ _ _ ((Below.refl _ W4).alloc (Nat.le_refl _) _) (Nat.le_refl _))
      obtain ⟨W5, hW5⟩ : ∃ W5, W5 = (W4.alloc (.cells Tryd.zeroCells68 68)).setCells W4.heap.size 0 cs.toList := ⟨_, rfl⟩
      rw [← hW5] at hN5 b45
      have HW5 := hid hW5
      have hisz : (Tryd.prog.info? 68).map (·.size) = some 81 := by kernel_rfl
      have HI := hid (show (Tryd.prog.info? 68).map (·.size) = some cs.size by rw [hisz, hcs])
      have HO := hid hone
      have HT := hid hthere
      have HFl := hid hFl
      have HFv := hid hFv
      have hs4 := B4.out.size
      have Q2 := (H2.out.below B4.out (by omega)).below b45.out (by omega)
      have b1'' := Q2.c1
      have X5 := (X4.out.below b45.out X4.out.lt).cell
      clear hW5 hone hthere hcc hcs hFl hFv hzh hzs hzc e1 e2 e3 hcs' hisz CP hF a1' a2' b1' b2' Q2
      go_upto_region 4 with (first
        | (with_reducible refine wpList_store_mid rfl 68 (.tmp 11) (.tmp 35) rfl W4.heap.size 0 cs rfl rfl HT.out HI.out HO.out ?_)
        | fail)
      rw [← HW5.out]
      obtain ⟨W6, hW6⟩ : ∃ W6, W6 = W5.alloc (.cells #[.int .u32 0, .int .u32 0, .int .u32 0, .int .u32 0, .int .u32 0, .int .u32 0, .int .u32 0, .int .u32 0, .int .u32 0, .int .u32 0, .int .u32 0, .int .u32 0, .int .u32 0, .int .u32 0, .int .u32 0, .int .u32 0, .int .u32 0, .int .u32 0, .int .u32 0, .int .u32 0, .int .u32 0, .int .u32 0, .int .u32 0, .int .u32 0, .int .u32 0, .int .u32 0, .int .u32 0, .int .u32 0, .int .u32 0, .int .u32 0, .int .u32 0, .int .u32 0, .int .u32 0, .int .u32 0, .int .u32 0, .int .u32 0, .int .u32 0, .int .u32 0, .int .u32 0, .int .u32 0] 70) := ⟨_, rfl⟩
      have HW6 := hid hW6
      have HZ6 : Hid (Blk W6 70 W5.heap.size 40 (fun _ => 0)) := hid (hW6 ▸ limbs_blk W5)
      have hN6 : Hid (Blk W6 68 W4.heap.size 81 F) := hid (hW6 ▸ hN5.out.alloc _)
      have b56 : Hid (Below W5.heap.size W5 W6) := hid (hW6 ▸ (Below.refl _ W5).alloc (Nat.le_refl _) _)
      have z56 : W6.heap.size = W5.heap.size + 1 := by rw [hW6]; simp
      have z45 : W4.heap.size < W5.heap.size := hN5.out.lt
      have B6 := hid ((B4.out.trans (b45.out.mono (by omega))).trans (b56.out.mono (by omega)))
      have X6 := (Box.below ((X4.out.below b45.out X4.out.lt)) b56.out (by have := X4.out.lt; omega))
      have x6c := X6.cell
      have Q2 := H2.out.below B6.out (by omega)
      have q2c := Q2.c1
      have HX6 := hid X6
      clear hW6 X5 b1'' hN5 X6 Q2
      go_upto_region 5 with fail
      rw [← HW6.out]
      go_wp2_with fail
      have CD := callsIn_wide.1 (dig_in Fence.wide 3 trivial rfl W4.heap.size nb cb Ab first (-(k : Int) - 1) W6)
      with_reducible refine CD.mono ?_
      clear CD
      rintro e W7 ⟨rfl, hW7⟩
      have z67 : W7.heap.size = W6.heap.size + 4 := by rw [hW7]; simp
      have b67 : Hid (Below W6.heap.size W6 W7) := hid (hW7 ▸ ((((Below.refl _ W6).alloc (Nat.le_refl _) _).alloc (by simp) _).alloc (by simp <;> omega) _).alloc (by simp <;> omega) _)
      have k0 : W7.cell? ⟨W6.heap.size, 0, none⟩ = some (.func (.func 43) #[.pointer (some ⟨W4.heap.size, 0, none⟩)] #[]) := by
        have hb : Box W7 W6.heap.size 65 (.func (.func 43) #[.pointer (some ⟨W4.heap.size, 0, none⟩)] #[]) := hW7 ▸ (((Box.new _ _ _).alloc _).alloc _).alloc _
        exact hb.cell
      have k1 : W7.cell? ⟨W6.heap.size + 1, 0, none⟩ = some (.slice Ab nb cb) := by
        have hb : Box W7 (W6.heap.size + 1) 22 (.slice Ab nb cb) := hW7 ▸ ((Box.new' (by simp)).alloc _).alloc _
        exact hb.cell
      have k2 : W7.cell? ⟨W6.heap.size + 2, 0, none⟩ = some (.int .i64 first) := by
        have hb : Box W7 (W6.heap.size + 2) 3 (.int .i64 first) := hW7 ▸ (Box.new' (by simp)).alloc _
        exact hb.cell
      have k3 : W7.cell? ⟨W6.heap.size + 3, 0, none⟩ = some (.int .i64 (-(k : Int) - 1)) := by
        have hb : Box W7 (W6.heap.size + 3) 3 (.int .i64 (-(k : Int) - 1)) := hW7 ▸ Box.new' (by simp)
        exact hb.cell
      have hs6 := B6.out.size
      have z46 : W4.heap.size < W6.heap.size := by omega
      have B7 := hid (B6.out.trans (b67.out.mono (by omega)))
      have N7 := hid (hN6.out.below b67.out z46)
      have Z7 := hid (HZ6.out.below b67.out (by omega))
      have X7 := hid (HX6.out.below b67.out HX6.out.lt)
      have R3 := hid (H3.out.below B7.out (by omega))
      have R4 := hid (H4.out.below B7.out (by omega))
      have R5 := hid (H5.out.below B7.out (by omega))
      have D7 := hid ((hb.below (HB0.out.trans (B7.out.mono (by omega)))))
      have K0 := hid k0
      have K1 := hid k1
      have K2 := hid k2
      have K3 := hid k3
      have hR : vl F 81 < vl fb nb * pw 40 := by rw [HFv.out]; exact Hlt0.out
      have hf1 : -9223372036854775807 ≤ -(k : Int) - 1 := by omega
      have hf2 : first ≤ 9223372036854775806 := by have := Hfd.out; omega
      rw [z56] at k0 k1 k2 k3 z67
      have hbW : W5.heap.size < W6.heap.size := by omega
      have HK : Hid (∀ W : World, Below W7.heap.size W7 W → W.cell? ⟨W5.heap.size + 1 + 2, 0, none⟩ = some (.int .i64 first) ∧ W.cell? ⟨W5.heap.size + 1 + 3, 0, none⟩ = some (.int .i64 (-(k : Int) - 1)) ∧ W.cell? ⟨W5.heap.size + 1, 0, none⟩ = some (.func (.func 43) #[.pointer (some ⟨W4.heap.size, 0, none⟩)] #[]) ∧ W.cell? ⟨W5.heap.size + 1 + 1, 0, none⟩ = some (.slice Ab nb cb)) :=
        hid fun W hW => ⟨(hW.cell (p := ⟨W5.heap.size + 1 + 2, 0, none⟩) (show W5.heap.size + 1 + 2 < W7.heap.size by omega)).trans k2, (hW.cell (p := ⟨W5.heap.size + 1 + 3, 0, none⟩) (show W5.heap.size + 1 + 3 < W7.heap.size by omega)).trans k3, (hW.cell (p := ⟨W5.heap.size + 1, 0, none⟩) (show W5.heap.size + 1 < W7.heap.size by omega)).trans k0, (hW.cell (p := ⟨W5.heap.size + 1 + 1, 0, none⟩) (show W5.heap.size + 1 + 1 < W7.heap.size by omega)).trans k1⟩
      have hKw : ∀ x, (x < w.heap.size ∨ x = W4.heap.size ∨ (W5.heap.size + 1 ≤ x ∧ x < W5.heap.size + 5)) → x < W7.heap.size := fun x h => by omega
      have hcomes : Comes (α := Plc first (-(k : Int) - 1)) Fence.wide 8 Tryd.prog 53 #[.pointer (some ⟨W5.heap.size + 1 + 2, 0, none⟩), .pointer (some ⟨W5.heap.size + 1 + 3, 0, none⟩), .pointer (some ⟨W5.heap.size + 1, 0, none⟩), .pointer (some ⟨W5.heap.size + 1 + 1, 0, none⟩)] (fun x => #[.int .i64 x.1.1, .int .u32 (x.1.2 : Int)])
          (fun x => x < w.heap.size ∨ x = W4.heap.size ∨ (W5.heap.size + 1 ≤ x ∧ x < W5.heap.size + 5)) W4.heap.size
          (fun xs W => xs.map (·.1) = upto (dgt first (vl F 81) (vl fb nb * pw 40)) (first - (-(k : Int) - 1) + 1).toNat ∧ ∃ G, Blk W 68 W4.heap.size 81 G ∧ (∀ j, G j < 4294967296) ∧ vl G 81 = vl F 81 * 2 ^ (first - (-(k : Int) - 1) + 1).toNat % (vl fb nb * pw 40))
          (fun pre => ∃ kk, pre.map (·.1) = upto (dgt first (vl F 81) (vl fb nb * pw 40)) kk) W7 := by
        intro l J Jx W hW hJg hY h0
        obtain ⟨c1, c2, c3, c4⟩ := HK.out W hW
        refine (dig1_in 8 (by omega) l W4.heap.size w.heap.size nb cb (W5.heap.size + 1 + 2) (W5.heap.size + 1 + 3) (W5.heap.size + 1) (W5.heap.size + 1 + 1) (fun x => x < w.heap.size ∨ x = W4.heap.size ∨ (W5.heap.size + 1 ≤ x ∧ x < W5.heap.size + 5)) Ab fb first (-(k : Int) - 1) (vl F 81) hf1 hf2 J Jx hJg hY W c1 c2 c3 c4
          ⟨.inr (.inr (by omega)), by omega⟩ ⟨.inr (.inr (by omega)), by omega⟩ ⟨.inr (.inr (by omega)), by omega⟩ ⟨.inr (.inr (by omega)), by omega⟩ (.inr (.inl rfl)) (fun x h => Nat.lt_of_lt_of_le (hKw x h) hW.size) (fun x h => .inl h) (by omega)
          (hb.below ((HB0.out.trans (B7.out.mono (by omega))).trans (hW.mono (by have := B7.out.size; omega)))) hfb.1 (N7.out.below hW (by omega)) HFl.out rfl hR h0).mono ?_
        rintro e Y ⟨hv, (⟨ys, h1, h2, G, h3, h4, h5⟩ | ⟨kk, pre, h1, h2⟩)⟩
        · exact ⟨hv, .inl ⟨ys, ⟨h1, G, h3, h4, h5⟩, h2⟩⟩
        · exact ⟨hv, .inr ⟨pre, ⟨kk, h1⟩, h2⟩⟩
      have hI0 : DivI w W5.heap.size g k (-(k : Int) - 1) [] W7 := ⟨Z7.out, fun _ => by show 0 < _; omega, R5.out, by show 0 < _; omega, fun x h => (by cases h), X7.out, R3.out, R4.out, HB0.out.trans (B7.out.mono (by omega))⟩
      have hg4 : g < W4.heap.size := by have := X4.out.lt; omega
      clear hW7 k0 k1 k2 k3 x6c q2c
      go_wp2_with fail
      refine wpIn_wide.1 (range_over (F := Fence.wide) (n := 9) (gf := 53) rfl (by omega) rfl trivial (enters_of Tryd.func53 (by kernel_rfl) rfl) (g := W4.heap.size) (.inr (.inl rfl)) hKw hcomes (fun _ => rfl)
        (fun (pre : List (Plc first (-(k : Int) - 1))) W => DivI w W5.heap.size g k (-(k : Int) - 1) (pre.map (fun x : Plc first (-(k : Int) - 1) => x.val)) W) (fun (pre : List (Plc first (-(k : Int) - 1))) W => DivX w (pre.map (fun x : Plc first (-(k : Int) - 1) => x.val)) W)
        (fun s X Y r h hg hr => h.grown hg (by omega) (by omega) (by omega)) (fun s X Y r h hg hr => h.grown hg (by omega))
        (fun s X Y r h hg hr => by
          obtain ⟨h1, G, h2, h3, h4⟩ := h
          exact ⟨h1, G, h2.grown hg (by intro e; injection e with e; omega), h3, h4⟩) hI0 ?a1 ?assign ?body ?done ?stop)
      case assign =>
        intro l x W K hK
        gi_wp2
        exact hK
      case body =>
        intro l pre x W hI
        obtain ⟨⟨i, d⟩, hp⟩ := x
        dsimp only at hp
        have hIm : (pre ++ [(⟨(i, d), hp⟩ : Plc first (-(k : Int) - 1))]).map (fun x : Plc first (-(k : Int) - 1) => x.val) = pre.map (fun x : Plc first (-(k : Int) - 1) => x.val) ++ [(i, d)] := by simp
        have HIm := hid hIm
        obtain ⟨hl, hfi, hd⟩ := hp
        generalize pre.map (fun x : Plc first (-(k : Int) - 1) => x.val) = ps at *
        have HI' := hid hI
        clear hIm
        have hlc := hI.last_.cell
        rcases Int.lt_or_le i 1280 with hi | hi
        · have nK4 : ¬ ((w.heap.size + 4) < w.heap.size ∨ (w.heap.size + 4) = W4.heap.size ∨ (W5.heap.size + 1 ≤ (w.heap.size + 4) ∧ (w.heap.size + 4) < W5.heap.size + 5)) := by omega
          have nKb : ¬ (W5.heap.size < w.heap.size ∨ W5.heap.size = W4.heap.size ∨ (W5.heap.size + 1 ≤ W5.heap.size ∧ W5.heap.size < W5.heap.size + 5)) := by omega
          rcases Int.lt_or_le i 0 with hi0 | hi0
          · by_cases hil : -(k : Int) - 1 < i
            · obtain ⟨p0, hp0⟩ : ∃ p0, p0 = ps.foldl (pst (-(k : Int) - 1)) 0 := ⟨_, rfl⟩
              have hp0l : p0 < 18446744073709551616 := hp0 ▸ hI.plt
              have c3 : W.cell? ⟨w.heap.size + 1 + 1 + 1 + 1, 3, none⟩ = some (.int .u64 (p0 : Int)) := hp0 ▸ hI.box.c3
              have f3 : W.frozen? ⟨w.heap.size + 1 + 1 + 1 + 1, 3, none⟩ = false := hI.box.frozen 3
              obtain ⟨p1, hp1⟩ : ∃ p1, p1 = p0 * 2 % 18446744073709551616 ||| d := ⟨_, rfl⟩
              have hor : bits BinOp.or IntKind.u64 (IntKind.u64.wrap ((p0 : Int) * 2)) (d : Int) = (p1 : Int) := by
                rw [hp1, IntKind.wrap_u64]
                have e := u64_or_nat (p0 * 2 % 18446744073709551616) d (Nat.mod_lt _ (by omega)) (by omega)
                rw [← e]
                congr 1
              have hn := hid (HI'.out.part (p := p1) hi0 hil hd (by rw [hp1, hp0]) (by omega) (by omega))
              have hlo : (p0 : Int) * 2 < 18446744073709551616 ∨ 18446744073709551616 ≤ (p0 : Int) * 2 := by omega
              clear hI hp0 hp1 hlo
              gi_wp2
              exact ⟨(KeepsOthers.setCell _ ⟨w.heap.size + 4, 3, none⟩ _).from _, (Kb.refl _ _).setCell (p := ⟨w.heap.size + 4, 3, none⟩) nK4 _, by show DivI w _ _ _ _ (List.map _ _) _; rw [HIm.out]; exact hn.out⟩
            · have f5 : W.frozen? ⟨w.heap.size + 1 + 1 + 1 + 1, 5, none⟩ = false := hI.box.frozen 5
              have c5 : W.cell? ⟨w.heap.size + 1 + 1 + 1 + 1, 5, none⟩ = _ := hI.box.c5
              have hn := hid (HI'.out.half (d := d) hi0 (by omega) (by omega) (by omega))
              clear hI
              gi_wp2
              exact ⟨(KeepsOthers.setCell _ ⟨w.heap.size + 4, 5, none⟩ _).from _, (Kb.refl _ _).setCell (p := ⟨w.heap.size + 4, 5, none⟩) nK4 _, by show DivI w _ _ _ _ (List.map _ _) _; rw [HIm.out]; exact hn.out⟩
          · obtain ⟨j, rfl⟩ : ∃ j : Nat, i = j := ⟨i.toNat, by omega⟩
            obtain ⟨y0, hy0⟩ : ∃ y0, y0 = ps.foldl wst (fun _ => 0) (j / 32) := ⟨_, rfl⟩
            have hyl : y0 < 4294967296 := hy0 ▸ hI.wlt _
            have hq : j / 32 < 40 := by omega
            have cq : W.drew.cell? ⟨W5.heap.size, j / 32, none⟩ = some (.int .u32 (y0 : Int)) := hy0 ▸ hI.whole.cell hq
            have fq : W.drew.frozen? ⟨W5.heap.size, j / 32, none⟩ = false := hI.whole.frozen _
            obtain ⟨v1, hv1⟩ : ∃ v1, v1 = y0 ||| d * 2 ^ (j % 32) := ⟨_, rfl⟩
            have hsm : d * 2 ^ (j % 32) < 4294967296 := by
              have h1 : (2 : Nat) ^ (j % 32) ≤ 2 ^ 31 := Nat.pow_le_pow_right (by omega) (by omega)
              have := Nat.mul_le_mul hd h1
              omega
            have hor : bits BinOp.or IntKind.u32 (y0 : Int) ((d : Int) * 2 ^ (j % 32) % 4294967296) = (v1 : Int) := by
              rw [hv1]
              have e := u32_or_nat y0 (d * 2 ^ (j % 32)) hyl hsm
              rw [← e]
              congr 1
              have e2 : ((d * 2 ^ (j % 32) : Nat) : Int) % 4294967296 = ((d * 2 ^ (j % 32) : Nat) : Int) := by omega
              rw [← e2]
              simp
            have hn := hid (DivI.drew (HI'.out.limb (i := j) (d := d) (v := v1) (by omega) hd (by rw [hv1, hy0]) (by omega) (by omega)))
            have hd1 : (j : Int) / 32 = ((j / 32 : Nat) : Int) := by omega
            have hd2 : (j : Int) % 32 = ((j % 32 : Nat) : Int) := by omega
            have htm : (j : Int).tmod 32 = ((j % 32 : Nat) : Int) := by rw [Int.tmod_eq_emod_of_nonneg (by omega)]; omega
            have hor2 : bits BinOp.or IntKind.u32 (y0 : Int) (IntKind.u32.wrap ((d : Int) * 2 ^ (j % 32))) = (v1 : Int) := by rw [IntKind.wrap_u32']; exact hor
            have hq40 : ((j / 32 : Nat) : Int) < 40 := by omega
            have hr32 : j % 32 < 32 := by omega
            clear hI hv1 hy0 hsm
            generalize j / 32 = q at *
            generalize j % 32 = r at *
            have hwq : IntKind.i64.wrap (q : Int) = (q : Int) := IntWalk.i64_in _ (by omega)
            have hwr : IntKind.i64.wrap (r : Int) = (r : Int) := IntWalk.i64_in _ (by omega)
            have hj0 : (0 : Int) ≤ (j : Int) := by omega
            have hj1 : (j : Int) < 1280 := by omega
            gi_wp2_with fail
            try clear hcomes
            try clear hI0
            try clear hKw
            try clear HK
            try clear K0
            try clear K1
            try clear K2
            try clear K3
            try clear a0
            try clear a1
            try clear a2
            try clear e0
            try clear e1
            try clear e2
            try clear hw1
            try clear hw2
            try clear hp1
            try clear hp2
            try clear hp3
            try clear hfw
            try clear hR
            try clear hf1
            try clear hf2
            try clear hs4
            try clear hs6
            try clear z45
            try clear z46
            try clear z67
            try clear hbW
            try clear HW
            try clear HB0
            try clear H1
            try clear H2
            try clear H3
            try clear H4
            try clear H5
            try clear Hsz
            try clear hVb
            try clear hea
            try clear heb
            try clear B03
            try clear B4
            try clear B6
            try clear B7
            try clear b45
            try clear b56
            try clear b67
            try clear N7
            try clear Z7
            try clear X7
            try clear R3
            try clear R4
            try clear R5
            try clear D7
            try clear HN6
            try clear hN6
            try clear HZ6
            try clear HX6
            try clear HW5
            try clear HW6
            try clear HI
            try clear HO
            try clear HT
            try clear HFl
            try clear HFv
            try clear X4
            try clear Hlt0
            try clear Ht0
            try clear Hfd
            try clear HB3
            try clear HX3
            try clear hz1
            try clear hz2
            try clear hs1
            try clear hs2
            try clear nK4
            try clear hi
            try clear hfi
            try clear hl
            try clear hlc
            try clear hyl
            gi_region_with_o (fail)
            all_goals
              gi_wp2
              first
                | (refine ⟨((KeepsOthers.setCell _ ⟨W5.heap.size, q, none⟩ _).trans (KeepsOthers.drew _)).from _, ((Kb.refl _ _).setCell (p := ⟨W5.heap.size, q, none⟩) nKb _).drew, ?_⟩
                   show DivI w _ _ _ _ (List.map _ _) _
                   rw [HIm.out]
                   exact hn.out)
                | fail "no way out fits"
        · rcases Nat.eq_zero_or_pos d with h0 | h0
          · subst h0
            clear hlc hI
            gi_wp2
            exact ⟨KeepsFrom.refl _ _, Kb.refl _ _, by show DivI w _ _ _ _ (List.map _ _) _; rw [HIm.out]; exact HI'.out.high hi⟩
          · obtain rfl : d = 1 := by omega
            have r0 : W.cell? ⟨w.heap.size + 1 + 1, 0, none⟩ = _ := hI.res.c0
            have r1 : W.cell? ⟨w.heap.size + 1 + 1, 1, none⟩ = _ := hI.res.c1
            have r2 : W.cell? ⟨w.heap.size + 1 + 1, 2, none⟩ = _ := hI.res.c2
            have r3 : W.cell? ⟨w.heap.size + 1 + 1, 3, none⟩ = _ := hI.res.c3
            have r4 : W.cell? ⟨w.heap.size + 1 + 1, 4, none⟩ = _ := hI.res.c4
            have r5 : W.cell? ⟨w.heap.size + 1 + 1, 5, none⟩ = _ := hI.res.c5
            have r6 : W.cell? ⟨w.heap.size + 1 + 1, 6, none⟩ = _ := hI.res.c6
            have rf : ∀ j, W.frozen? ⟨w.heap.size + 1 + 1, j, none⟩ = false := hI.res.frozen
            have f0 := rf 0
            have f1 := rf 1
            have f2 := rf 2
            have f3 := rf 3
            have f4 := rf 4
            have f5 := rf 5
            have f6 := rf 6
            have e0 : W.cell? ⟨w.heap.size + 1 + 1 + 1, 0, none⟩ = _ := hI.err.cell
            have ef : W.frozen? ⟨w.heap.size + 1 + 1 + 1, 0, none⟩ = false := hI.err.frozen
            clear hlc hI rf
            gi_wp2
            exact ⟨((keeps_put7 W (w.heap.size + 2) 0 0 false false false (.slice none 0 0) 0).trans (KeepsOthers.setCell _ ⟨w.heap.size + 3, 0, none⟩ _)).from _, by show DivX w (List.map _ _) _; rw [HIm.out]; exact HI'.out.over hi⟩
      case done =>
        intro D xs W hD hS hI hK
        obtain ⟨hmap, G, hG, hGl, hGv⟩ := hS
        have hmap' : xs.map (fun x : Plc first (-(k : Int) - 1) => x.val) = upto (dgt first (vl F 81) (vl fb nb * pw 40)) (first - (-(k : Int) - 1) + 1).toNat := hmap
        rw [hmap'] at hI
        obtain ⟨N, hNd⟩ : ∃ N, N = (first + k + 2).toNat := ⟨_, rfl⟩
        have hNe : (first - (-(k : Int) - 1) + 1).toNat = N := by rw [hNd]; congr 1; omega
        rw [hNe] at hI hGv
        obtain ⟨F2, hF2, hF2l, hF2v, hbox⟩ := hI.told rfl hk hR hNd
        obtain ⟨d1, d2⟩ := div_all Sz1.out.1 Sz2.out.1 hVb hz1 hea heb Ht0.out Hfd.out hNd
        rw [HFv.out] at hF2v hbox hGv hR
        unfold qt at hF2v hbox
        rw [d1] at hF2v hbox
        have hmore : decide (vl G 81 ≠ 0) = decide (vl fa na * tp (4000 - ea) * 2 ^ (k + 1) % (vl fb nb * tp (4000 - eb)) ≠ 0) := decide_eq_decide.2 (by rw [hGv]; exact not_congr d2)
        obtain ⟨T, hTd⟩ : ∃ T, T = vl fa na * tp (4000 - ea) * 2 ^ (k + 1) / (vl fb nb * tp (4000 - eb)) := ⟨_, rfl⟩
        obtain ⟨mr, hmr⟩ : ∃ mr, mr = decide (vl fa na * tp (4000 - ea) * 2 ^ (k + 1) % (vl fb nb * tp (4000 - eb)) ≠ 0) := ⟨_, rfl⟩
        rw [← hTd] at hF2v hbox
        rw [← hmr] at hmore
        have HTd := hid hTd
        have Hmr := hid hmr
        clear hTd hmr
        have HmG := hid hmore
        have HI := hid hI
        obtain ⟨csG, hGh, hGs, hGc⟩ := hG
        have r0 : W.cell? ⟨w.heap.size + 1 + 1, 0, none⟩ = _ := hI.res.c0
        have r1 : W.cell? ⟨w.heap.size + 1 + 1, 1, none⟩ = _ := hI.res.c1
        have r2 : W.cell? ⟨w.heap.size + 1 + 1, 2, none⟩ = _ := hI.res.c2
        have r3 : W.cell? ⟨w.heap.size + 1 + 1, 3, none⟩ = _ := hI.res.c3
        have r4 : W.cell? ⟨w.heap.size + 1 + 1, 4, none⟩ = _ := hI.res.c4
        have r5 : W.cell? ⟨w.heap.size + 1 + 1, 5, none⟩ = _ := hI.res.c5
        have r6 : W.cell? ⟨w.heap.size + 1 + 1, 6, none⟩ = _ := hI.res.c6
        have s0 : W.frozen? ⟨w.heap.size + 1 + 1, 0, none⟩ = _ := hI.res.frozen 0
        have s1 : W.frozen? ⟨w.heap.size + 1 + 1, 1, none⟩ = _ := hI.res.frozen 1
        have s2 : W.frozen? ⟨w.heap.size + 1 + 1, 2, none⟩ = _ := hI.res.frozen 2
        have s3 : W.frozen? ⟨w.heap.size + 1 + 1, 3, none⟩ = _ := hI.res.frozen 3
        have s4 : W.frozen? ⟨w.heap.size + 1 + 1, 4, none⟩ = _ := hI.res.frozen 4
        have s5 : W.frozen? ⟨w.heap.size + 1 + 1, 5, none⟩ = _ := hI.res.frozen 5
        have s6 : W.frozen? ⟨w.heap.size + 1 + 1, 6, none⟩ = _ := hI.res.frozen 6
        have x0 : W.cell? ⟨w.heap.size + 1 + 1 + 1 + 1, 0, none⟩ = _ := hbox.c0
        have x1 : W.cell? ⟨w.heap.size + 1 + 1 + 1 + 1, 1, none⟩ = _ := hbox.c1
        have x2 : W.cell? ⟨w.heap.size + 1 + 1 + 1 + 1, 2, none⟩ = _ := hbox.c2
        have x3 : W.cell? ⟨w.heap.size + 1 + 1 + 1 + 1, 3, none⟩ = _ := hbox.c3
        have x4 : W.cell? ⟨w.heap.size + 1 + 1 + 1 + 1, 4, none⟩ = _ := hbox.c4
        have x5 : W.cell? ⟨w.heap.size + 1 + 1 + 1 + 1, 5, none⟩ = _ := hbox.c5
        have x6 : W.cell? ⟨w.heap.size + 1 + 1 + 1 + 1, 6, none⟩ = _ := hbox.c6
        have y0 : W.frozen? ⟨w.heap.size + 1 + 1 + 1 + 1, 0, none⟩ = _ := hbox.frozen 0
        have y1 : W.frozen? ⟨w.heap.size + 1 + 1 + 1 + 1, 1, none⟩ = _ := hbox.frozen 1
        have y2 : W.frozen? ⟨w.heap.size + 1 + 1 + 1 + 1, 2, none⟩ = _ := hbox.frozen 2
        have y3 : W.frozen? ⟨w.heap.size + 1 + 1 + 1 + 1, 3, none⟩ = _ := hbox.frozen 3
        have y4 : W.frozen? ⟨w.heap.size + 1 + 1 + 1 + 1, 4, none⟩ = _ := hbox.frozen 4
        have y5 : W.frozen? ⟨w.heap.size + 1 + 1 + 1 + 1, 5, none⟩ = _ := hbox.frozen 5
        have y6 : W.frozen? ⟨w.heap.size + 1 + 1 + 1 + 1, 6, none⟩ = _ := hbox.frozen 6
        have q0 : W.cell? ⟨w.heap.size + 1 + 1 + 1, 0, none⟩ = _ := hI.err.cell
        have qf : W.frozen? ⟨w.heap.size + 1 + 1 + 1, 0, none⟩ = false := hI.err.frozen
        have hisz : (Tryd.prog.info? 68).map (·.size) = some 81 := by kernel_rfl
        have HIs := hid (show (Tryd.prog.info? 68).map (·.size) = some csG.size by rw [hisz, hGs])
        have HGh := hid hGh
        have hneq : (Op.equalIn 10000 68 (.agg csG) (.agg Tryd.zeroCells68)).run Tryd.prog W = .ok (!mr) W := by
          rw [neq_zero (G := G) hGc (fun j hj => by rw [zero_num, Array.getElem?_replicate, if_pos hj]), hmore]
        have heqg : Tryd.prog.eqGuardType Tryd.prog.depth 68 = false := by kernel_rfl
        have hsla := slice_all W5.heap.size
        have HF2 := hid hF2
        have HF2l := hid hF2l
        have HF2v := hid hF2v
        have Hbox := hid hbox
        have hbne : W5.heap.size ≠ w.heap.size + 4 := by omega
        have hend := hid (end_told (V := .slice (some ⟨W5.heap.size, 0, none⟩) (cutLen F2 40) 40) (pt := T / 2 % 2 ^ k) (k := k) (hf := decide (T % 2 = 1)) (m := mr) hI.res hI.err hF2 (by omega) hI.below hK (by have := B7.out.size; omega))
        have hcast : ((T : Int) / 2 % 2 ^ k) = ((T / 2 % 2 ^ k : Nat) : Int) := by simp
        have Hcast := hid hcast
        clear hcast
        clear hcomes hI0 hmap hmap' hGh hGc hGs hF2 hF2l hF2v hbox hI hisz hmore HK hKw
        try clear a0 a1 a2 e0 e1 e2 hw1 hw2 hp1 hp2 hp3 hfw hR hf1 hf2 d1 d2
        go_wp2_with (first
          | (with_reducible refine wpList_load_row rfl 68 (.tmp 11) rfl W4.heap.size rfl 68 csG (0, 0) _ HGh.out Tryd.underlying68 rfl HIs.out ?_)
          | (go_at_call 44; refine (qcut_any W5.heap.size 40 40 F2 _ (Nat.le_refl _) (by omega) (fun j hj => ((HF2.out.far (p := ⟨w.heap.size + 4, 6, none⟩) hbne (.bool mr)).cell hj))).mono ?_; rintro e W8 ⟨rfl, rfl⟩)
          | fail)
        obtain ⟨n1, n2, n3, n4, n5⟩ := hend.out
        rw [Hcast.out]
        refine ret_quot (F := Fence.wide) (n := 9) (g := w.heap.size + 2) (ge := w.heap.size + 3) (D := D) rfl rfl rfl n5 n1 n2 ?_
        have hpo := belowK_b (w := w) (n₀ := w.heap.size) (Nat.le_refl _) (endW W w.heap.size (.slice (some ⟨W5.heap.size, 0, none⟩) (cutLen F2 40) 40) (T / 2 % 2 ^ k) k (decide (T % 2 = 1)) mr) D _ (.deferred none) (by have := B7.out.size; omega) n5 rfl rfl
        have hc40 : cutLen F2 40 ≤ 40 := cutLen_le F2 40
        have n3' : Blk ((endW W w.heap.size (.slice (some ⟨W5.heap.size, 0, none⟩) (cutLen F2 40) 40) (T / 2 % 2 ^ k) k (decide (T % 2 = 1)) mr).putObj D (.deferred none)) 70 W5.heap.size 40 F2 := by
          obtain ⟨c3, h31, h32⟩ := n3
          exact ⟨c3, (World.putObj_heap_other (by rintro rfl; rw [h31] at n5; cases n5)).trans h31, h32⟩
        have hnum := qcut_num n3' (show w.heap.size ≤ W5.heap.size by omega) HF2l.out hc40
        rw [HF2v.out] at hnum
        have hT40 : T / 2 ^ (k + 1) < pw 40 := by rw [← HF2v.out]; exact vl_lt (fun j _ => HF2l.out j)
        show QTold _ _ _ _ _ _
        unfold QTold
        rw [← HTd.out, ← Hmr.out]
        exact ⟨hid (n4.trans hpo), .inr ⟨hT40, _, rfl, hid hnum⟩⟩
      case stop =>
        intro D pre W hD hS hX hK
        obtain ⟨kk, hmap⟩ := hS
        have hmap' : pre.map (fun x : Plc first (-(k : Int) - 1) => x.val) = upto (dgt first (vl F 81) (vl fb nb * pw 40)) kk := hmap
        rw [hmap'] at hX
        have hov := over_all (N := (first + k + 2).toNat) (k := k) rfl hX.high
        obtain ⟨d1, -⟩ := div_all Sz1.out.1 Sz2.out.1 hVb hz1 hea heb Ht0.out Hfd.out (N := (first + k + 2).toNat) rfl
        rw [HFv.out] at hov
        unfold qt at hov
        rw [d1] at hov
        refine wpIn_wide.2 ?_
        go_wp2
        refine ret_quot (F := Fence.wide) (n := 9) (g := w.heap.size + 2) (ge := w.heap.size + 3) (D := D) rfl rfl rfl hK hX.res hX.err ?_
        have hpo := belowK_b (w := w) (n₀ := w.heap.size) (Nat.le_refl _) W D _ (.deferred none) (by have := B7.out.size; omega) hK rfl rfl
        exact ⟨hid (hX.below.trans hpo), .inl ⟨hov, rfl⟩⟩

end Go.Proofs.YtnhnddhigbbleaaDoor
