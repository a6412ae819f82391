/- Package ratio: cut; TrailingZeros64. -/
/- Package ratio: fraction. -/
/- Package ratio: addPart. -/
/- Package ratio: which way to round. -/
import Derived.Test.YtnhnddhigbbleaaDoorRa
import Derived.Shelf.Spec.TrailingZeros
import Derived.Test.YtnhnddhigbbleaaDoorRd
import Derived.RegionTactic
import Derived.Deep.RegionWith
import Derived.IntWalk
import Derived.Test.YtnhnddhigbbleaaDoorRf
import Derived.Test.YtnhnddhigbbleaaDoorRg
import Derived.Test.YtnhnddhigbbleaaDoorRi
import Derived.BigQuiet

namespace Go.Proofs.YtnhnddhigbbleaaDoor
open Go.RowKit

set_option maxHeartbeats 800000 in
theorem qcut_any (g n c : Nat) (f : Nat → Nat) (w : World) (hn : n ≤ c) (hm : n ≤ 140737488355328) (h : ∀ j, j < n → w.cell? ⟨g, j, none⟩ = some (.int .u32 (f j : Int))) :
    Calls Tryd.prog 44 #[.slice (some ⟨g, 0, none⟩) n c] w fun e w' => e = .returned (.slice (some ⟨g, 0, none⟩) (cutLen f n) c) ∧ w = w' := by
  go_enter Tryd.func44, Tryd.ntmps44
  go_wp2
  go_loop [3] (fun i => ∃ k : Nat, k ≤ n ∧ i = .int .i64 k ∧ cutLen f n = cutLen f k) (fun i => (intOf i).toNat)
  case atStart => exact ⟨n, Nat.le_refl _, rfl, rfl⟩
  case round =>
    obtain ⟨k, hk, rfl, hcl⟩ := hrel
    have Hcl := hid hcl
    clear hcl
    rcases Nat.eq_zero_or_pos k with h0 | h0
    · subst h0
      go_wp2
      go_ret
      exact ⟨by rw [Hcl.out]; rfl, rfl⟩
    · obtain ⟨j, rfl⟩ : ∃ j, k = j + 1 := ⟨k - 1, by omega⟩
      have cj := h j (by omega)
      by_cases hz : f j = 0
      · rw [hz] at cj
        have Hz := hid hz
        clear hz h
        go_wp2
        go_round
        case rel => exact ⟨j, by omega, by go_num, Hcl.out.trans (if_pos Hz.out)⟩
        case measure => simp [intOf]
      · have hz2 : (((f j : Nat) : Int) == 0) = false := by simp; omega
        have Hz := hid hz
        clear hz h
        go_wp2
        go_ret
        exact ⟨by rw [Hcl.out.trans (if_neg Hz.out)]; rfl, rfl⟩
/-- What is left of a row of the call's own, cut, is a number. -/
theorem qcut_num {w : World} {e : TypeId} {B g N : Nat} {z : Nat → Nat} (h : Blk w e g N z) (hg : B ≤ g) (hz : ∀ j, z j < 4294967296) (h40 : cutLen z N ≤ 40) :
    Num e B w (vl z N) (.slice (some ⟨g, 0, none⟩) (cutLen z N) N) := by
  have hle := cutLen_le z N
  refine ⟨_, _, _, trim (cutLen z N) z, rfl, Mk.of_blk h hg hle (Nat.le_refl _) (by omega) (trim_lt fun j _ => hz j) (fun j hj => trim_out hj) (fun j hj => (trim_in hj).symm), ⟨h40, fun hp => ?_⟩, ?_⟩
  · rw [trim_in (by omega)]
    exact cutLen_last z N hp
  · rw [cutLen_vl z N]
    exact vl_congr fun j hj => trim_in hj

/-- The library's other table lies in its variable. -/
def Tab64 (w : World) : Prop := ∀ j, j < 64 → w.cell? ⟨0, j, none⟩ = some (.int .u8 (Lib.deBruijn64tab.getD j 0))
theorem Tab64.below {w w' : World} {B : Nat} (h : Tab64 w) (hb : Below B w w') (hB : 0 < B) : Tab64 w' :=
  fun j hj => (hb.cell (p := ⟨0, j, none⟩) hB).trans (h j hj)
theorem Tab64.lt {w : World} (h : Tab64 w) : 0 < w.heap.size := block_lt_of_cell (h 0 (by omega))

set_option maxHeartbeats 1000000 in
theorem rtz_core (x k idx : Nat) (w : World) (hx0 : ((x : Int) == 0) = false)
    (key : IntKind.u64.wrap (bits BinOp.and IntKind.u64 (x : Int) (IntKind.u64.wrap (-(x : Int))) * 285870213051353865) / 288230376151711744 = (idx : Int))
    (hi : idx < 64) (hk : k < 64) (hcell : w.cell? ⟨0, idx, none⟩ = some (.int .u8 k)) :
    Calls Tryd.prog 48 #[.int .u64 (x : Int)] w fun e w' => e = .returned (.int .i64 (k : Int)) ∧ w = w' := by
  go_enter Tryd.func48, Tryd.ntmps48
  go_wp2_with (simp only [key])
  go_ret
  exact ⟨rfl, rfl⟩
theorem rtz_any (x : Nat) (hx : x < 18446744073709551616) (h0 : x ≠ 0) (w : World) (hT : Tab64 w) :
    Calls Tryd.prog 48 #[.int .u64 (x : Int)] w fun e w' => e = .returned (.int .i64 ((Lib.ctz 64 x : Nat) : Int)) ∧ w = w' := by
  obtain ⟨hlow, hk⟩ := Lib.lowest_bit 64 x h0 hx
  obtain ⟨hi, htab⟩ := Lib.deBruijn64_at _ hk
  have hcell := hT _ hi
  rw [htab] at hcell
  exact rtz_core x _ _ w (by simp; omega) (Go.Proofs.tz64_key x _ hx h0 hlow) hi hk hcell

end Go.Proofs.YtnhnddhigbbleaaDoor


namespace Go.Proofs.YtnhnddhigbbleaaDoor
open Go.RowKit

/-- A quotient in its box. -/
def Qbox (w : World) (g : Nat) (s : Bool) (v : Value) (x : Int) (p : Nat) (k : Nat) (h m : Bool) : Prop :=
  w.heap[g]? = some (.cells #[.bool s, v, .int .i64 x, .int .u64 (p : Int), .int .i64 (k : Int), .bool h, .bool m] 39 (0, 0))
section
variable {w w' : World} {g p k : Nat} {s h m : Bool} {v : Value} {x : Int}
theorem Qbox.lt (q : Qbox w g s v x p k h m) : g < w.heap.size := lt_of_heap q
theorem Qbox.c0 (q : Qbox w g s v x p k h m) : w.cell? ⟨g, 0, none⟩ = some (.bool s) := by rw [cell_of_row w g 0 _ _ (0, 0) q]; rfl
theorem Qbox.c1 (q : Qbox w g s v x p k h m) : w.cell? ⟨g, 1, none⟩ = some v := by rw [cell_of_row w g 1 _ _ (0, 0) q]; rfl
theorem Qbox.c2 (q : Qbox w g s v x p k h m) : w.cell? ⟨g, 2, none⟩ = some (.int .i64 x) := by rw [cell_of_row w g 2 _ _ (0, 0) q]; rfl
theorem Qbox.c3 (q : Qbox w g s v x p k h m) : w.cell? ⟨g, 3, none⟩ = some (.int .u64 (p : Int)) := by rw [cell_of_row w g 3 _ _ (0, 0) q]; rfl
theorem Qbox.c4 (q : Qbox w g s v x p k h m) : w.cell? ⟨g, 4, none⟩ = some (.int .i64 (k : Int)) := by rw [cell_of_row w g 4 _ _ (0, 0) q]; rfl
theorem Qbox.c5 (q : Qbox w g s v x p k h m) : w.cell? ⟨g, 5, none⟩ = some (.bool h) := by rw [cell_of_row w g 5 _ _ (0, 0) q]; rfl
theorem Qbox.c6 (q : Qbox w g s v x p k h m) : w.cell? ⟨g, 6, none⟩ = some (.bool m) := by rw [cell_of_row w g 6 _ _ (0, 0) q]; rfl
theorem Qbox.frozen (q : Qbox w g s v x p k h m) (j : Nat) : w.frozen? ⟨g, j, none⟩ = false := frozen_of_row w g j _ _ q
theorem Qbox.drew (q : Qbox w g s v x p k h m) : Qbox w.drew g s v x p k h m := q
theorem Qbox.below {B : Nat} (q : Qbox w g s v x p k h m) (hb : Below B w w') (hg : g < B) : Qbox w' g s v x p k h m := (hb.block g hg).trans q
end

/-- A fraction in its one form. -/
theorem frac_canon {p k : Nat} (hp : p ≠ 0) (h64 : p < 18446744073709551616) (hk : p < 2 ^ k) (hk64 : k ≤ 64) : ∃ o x : Nat, p / 2 ^ Lib.ctz 64 p = o ∧ k = x + Lib.ctz 64 p ∧ Canon false o x ∧ o ≤ 18446744073709551615 ∧ dv false o x = num false (p * tp (4000 - k)) ∧ 0 < 2 ^ Lib.ctz 64 p := by
  obtain ⟨m, hm, hc⟩ := Lib.ctzFrom_spec 64 p (by omega) h64
  have e : Lib.ctz 64 p = Lib.ctzFrom 64 p := by simp [Lib.ctz, hp]
  rw [e]
  generalize Lib.ctzFrom 64 p = c at *
  have h2 : 0 < 2 ^ c := Nat.pow_pos (by omega)
  have hck : c < k := by
    rcases Nat.lt_or_ge c k with h | h
    · exact h
    · have h3 : 2 ^ k ≤ 2 ^ c := Nat.pow_le_pow_right (by omega) h
      have h4 : 2 ^ c ≤ p := by rw [hm]; exact Nat.le_mul_of_pos_right _ (by omega)
      omega
  have ho : p / 2 ^ c = 2 * m + 1 := by rw [hm, Nat.mul_div_cancel_left _ h2]
  refine ⟨2 * m + 1, k - c, ho, by omega, ⟨fun h => by omega, fun _ => by omega⟩, ?_, ?_, h2⟩
  · have : p / 2 ^ c ≤ p := Nat.div_le_self _ _
    omega
  · unfold dv
    congr 1
    rw [show 4000 - (k - c) = c + (4000 - k) by omega, tp_add, hm]
    show _ = 2 ^ c * (2 * m + 1) * tp (4000 - k)
    rw [← Nat.mul_assoc, Nat.mul_comm (2 * m + 1)]
    rfl

set_option maxHeartbeats 3200000 in
theorem fraction_any {w : World} {s h m : Bool} {v : Value} {x : Int} {p k : Nat} (h64 : p < 18446744073709551616) (hk : p < 2 ^ k ∨ p = 0) (hk64 : k ≤ 64) (hT : Tab64 w) :
    Calls Tryd.prog 29 #[.agg #[.bool s, v, .int .i64 x, .int .u64 (p : Int), .int .i64 (k : Int), .bool h, .bool m]] w fun e w' => ∃ d, e = .returned d ∧ Hid (Dn w.heap.size w' (num false (p * tp (4000 - k))) d) ∧ Hid (Below w.heap.size w w') := by
  obtain ⟨W, hW⟩ : ∃ W, W = (w.alloc (.cells #[.bool s, v, .int .i64 x, .int .u64 (p : Int), .int .i64 (k : Int), .bool h, .bool m] 39)).alloc (.cells #[.bool false, .slice none 0 0, .int .i64 0] 24) := ⟨_, rfl⟩
  have B0 : Below w.heap.size w W := hW ▸ ((Below.refl w.heap.size w).alloc (Nat.le_refl _) _).alloc (by simp) _
  have bQ : Qbox W w.heap.size s v x p k h m := by
    rw [hW]
    exact (Below.heap_alloc _ _ _ (by simp)).trans (heap_alloc_new w _)
  have bD : Dbox W (w.heap.size + 1) false (.slice none 0 0) 0 := by
    rw [hW]
    exact heap_alloc2_new w _ _
  have q3 := bQ.c3
  have q4 := bQ.c4
  have d0 := bD.c0
  have d1 := bD.c1
  have d2 := bD.c2
  have f0 := bD.frozen 0
  have f1 := bD.frozen 1
  have f2 := bD.frozen 2
  have HW := hid hW
  have HB := hid B0
  have HQ := hid bQ
  have HD := hid bD
  have HT := hid (hT.below B0 hT.lt)
  clear hW B0 bQ bD hT
  go_enter Tryd.func29, Tryd.ntmps29
  by_cases hp : p = 0
  · have hp0 : ((p : Int) == 0) = true := by simp [hp]
    have Hp := hid hp
    clear hp
    go_upto_region 2 with fail
    rw [← HW.out]
    go_wp2
    refine ret_one rfl rfl rfl (HD.out.store (t := false) (u := .slice none 0 0) (y := 0)) ⟨_, rfl, hid ?_, hid (below_put3 HB.out (Nat.le_succ _))⟩
    rw [Hp.out, Nat.zero_mul]
    exact Dn.zero _ _
  · obtain ⟨o, y, ho, hky, hcan, ho64, hdv, h2⟩ := frac_canon hp h64 (hk.resolve_right hp) hk64
    have CZ := hid (rtz_any p h64 hp W HT.out)
    have CO := hid (fun w' => of_val o ho64 w')
    have hp0 : ((p : Int) == 0) = false := by simp; omega
    obtain ⟨low, hl⟩ : ∃ low, low = Lib.ctz 64 p := ⟨_, rfl⟩
    rw [← hl] at ho hky h2 CZ
    have hsh : (p : Int) / 2 ^ low = (o : Int) := by rw [← ho]; simp
    have hsub : (k : Int) - (low : Int) = (y : Int) := by omega
    have hl64 : low ≤ 64 := by omega
    have hwy : IntKind.i64.wrap (y : Int) = (y : Int) := IntWalk.i64_in _ (by omega)
    have hy1 : y ≤ 1024 := by omega
    have Hdv := hid hdv
    have Hcan := hid hcan
    have Hky := hid hky
    clear ho hky h2 hdv hcan hk hl hp
    go_upto_region 3 with fail
    rw [← HW.out]
    go_wp2_with fail
    refine CZ.out.mono ?_
    rintro e w1 ⟨rfl, rfl⟩
    clear CZ
    go_wp2_with fail
    go_region_with ((go_at_call 49; refine (CO.out _).mono ?_; rintro e w3 ⟨u, rfl, hn, hb⟩; have HQ3 := hid (HQ.out.drew.below hb.out HQ.out.lt); have HD3 := hid (HD.out.drew.below hb.out HD.out.lt); have q4' := HQ3.out.c4; have d0' := HD3.out.c0; have d1' := HD3.out.c1; have d2' := HD3.out.c2; have f0' := HD3.out.frozen 0; have f1' := HD3.out.frozen 1; have f2' := HD3.out.frozen 2; obtain ⟨Au, nu, cu, fu, ru, ru2⟩ := hn.out.val; clear ru2; subst ru))
    all_goals
      go_wp2
      refine ret_one rfl rfl rfl (HD3.out.store (t := false) (u := .slice Au nu cu) (y := (y : Int))) ⟨_, rfl, hid ⟨false, _, y, o, rfl, (hn.out.put3 HD.out.lt).mono (Nat.le_of_lt HQ.out.lt), Hcan.out, hy1, Hdv.out⟩, hid (below_put3 (HB.out.drew.trans (hb.out.mono (Nat.le_of_lt HQ.out.lt))) (Nat.le_succ _))⟩

end Go.Proofs.YtnhnddhigbbleaaDoor


namespace Go.Proofs.YtnhnddhigbbleaaDoor
open Go.RowKit

theorem Qbox.set3 {w : World} {g p k : Nat} {s h m : Bool} {v : Value} {x : Int} (q : Qbox w g s v x p k h m) (z : Nat) : Qbox (w.setCell ⟨g, 3, none⟩ (.int .u64 (z : Int))) g s v x z k h m :=
  heap_setCell_same w g 3 _ _ (.int .u64 (z : Int)) q

theorem Qbox.put {w : World} {g p k : Nat} {s h m : Bool} {v : Value} {x : Int} (q : Qbox w g s v x p k h m) (t : Bool) (u : Value) (y : Int) : Qbox (put3 w g t u y) g t u y p k h m := by
  have h0 := heap_setCell_same w g 0 _ _ (.bool t) q
  have h1 := heap_setCell_same _ g 1 _ _ u h0
  exact heap_setCell_same _ g 2 _ _ (.int .i64 y) h1
theorem Dn.put3 {B g : Nat} {w : World} {M : Int} {d u : Value} {t : Bool} {y : Int} (h : Dn B w M d) (hg : g < B) : Dn B (put3 w g t u y) M d := by
  obtain ⟨s, v, x, V, rfl, hn, hr⟩ := h
  exact ⟨s, v, x, V, rfl, hn.put3 hg, hr⟩
theorem Dn.mono {B B' : Nat} {w : World} {M : Int} {d : Value} (h : Dn B w M d) (hB : B' ≤ B) : Dn B' w M d := by
  obtain ⟨s, v, x, V, rfl, hn, hr⟩ := h
  exact ⟨s, v, x, V, rfl, hn.mono hB, hr⟩
theorem wrap_pow (k : Nat) : ∃ z : Nat, z = 2 ^ k % 18446744073709551616 ∧ IntKind.u64.wrap ((2 : Int) ^ k) = (z : Int) := by
  refine ⟨_, rfl, ?_⟩
  rw [IntKind.wrap_u64]
  simp
theorem rgrown_drew {w w' : World} {g : Nat} (h : w.grownBy w' (some g)) : w.grownBy w'.drew (some g) := ⟨h.os, h.tape, h.output, h.size, h.block⟩

set_option maxHeartbeats 3200000 in
theorem part_less {w : World} {g p k : Nat} {s h m : Bool} {v : Value} {x : Int} (q : Qbox w g s v x p k h m) (hk : k ≤ 64) (hp : p + 1 < 2 ^ k) :
    Calls Tryd.prog 27 #[.pointer (some ⟨g, 0, none⟩)] w fun e w' => e = .returned (.int .i64 0) ∧ Hid (Qbox w' g s v x (p + 1) k h m) ∧ Hid (w.grownBy w' (some g)) := by
  have hp64 : p + 1 < 18446744073709551616 := Nat.lt_of_lt_of_le hp (by have := Nat.pow_le_pow_right (n := 2) (by omega) hk; simpa using this)
  have c3 := q.c3
  have f3 := q.frozen 3
  have c4 := q.c4
  have hw : IntKind.u64.wrap ((p : Int) + 1) = ((p + 1 : Nat) : Int) := by rw [IntKind.wrap_u64]; omega
  obtain ⟨z, hz, hwk⟩ := wrap_pow k
  have hne : ((p : Int) + 1 == (z : Int)) = false := by
    have h64 : (2 : Nat) ^ k ≤ 18446744073709551616 := by have := Nat.pow_le_pow_right (n := 2) (by omega) hk; simpa using this
    have h1 : p + 1 ≠ z := by
      rcases Nat.lt_or_ge (2 ^ k) 18446744073709551616 with h | h
      · rw [Nat.mod_eq_of_lt h] at hz
        omega
      · rw [show (2 : Nat) ^ k = 18446744073709551616 by omega, Nat.mod_self] at hz
        omega
    simp
    omega
  have HQ := hid (q.set3 (p + 1))
  have Hg := hid (gset0 (grefl w g) 3 (.int .u64 ((p + 1 : Nat) : Int)))
  clear q hp hz
  go_enter Tryd.func27, Tryd.ntmps27
  go_wp2_with fail
  go_region
  all_goals
    go_wp2
    go_ret
    exact ⟨rfl, HQ.out.drew, hid (rgrown_drew Hg.out)⟩

set_option maxHeartbeats 6400000 in
theorem part_full {w : World} {g p k : Nat} {s h m : Bool} {v : Value} {x : Int} {M : Int} (q : Qbox w g s v x p k h m) (hk : k ≤ 64) (hp : p + 1 = 2 ^ k) (hA : ∀ W, w.grownBy W (some g) → DArg W True M (.agg #[.bool s, v, .int .i64 x])) (hT : ∀ W, w.grownBy W (some g) → Tab W) :
    Calls Tryd.prog 27 #[.pointer (some ⟨g, 0, none⟩)] w fun e w' => ∃ (er : Int) (t : Bool) (u : Value) (y : Int), e = .returned (.int .i64 er) ∧ Hid (Derrs (True ∧ True) (M + tp 4000) er) ∧ Hid (Qbox w' g t u y 0 k h m) ∧ Hid (Dn w.heap.size w' (resD er (M + tp 4000)) (.agg #[.bool t, u, .int .i64 y])) ∧ Hid (w.grownBy w' (some g)) := by
  obtain ⟨z, hz, hwk⟩ := wrap_pow k
  have hw : IntKind.u64.wrap ((p : Int) + 1) = (z : Int) := by rw [IntKind.wrap_u64, hz, ← hp]; omega
  have c3 := q.c3
  have f3 := q.frozen 3
  have c4 := q.c4
  have c0 := q.c0
  have c1 := q.c1
  have c2 := q.c2
  have f0 := q.frozen 0
  have f1 := q.frozen 1
  have f2 := q.frozen 2
  obtain ⟨W, hW⟩ : ∃ W, W = ((w.setCell ⟨g, 3, none⟩ (.int .u64 (z : Int))).setCell ⟨g, 3, none⟩ (.int .u64 0)).drew := ⟨_, rfl⟩
  have HQ : Hid (Qbox W g s v x 0 k h m) := hW ▸ ((q.set3 z).set3 0).drew
  have Hg : Hid (w.grownBy W (some g)) := hW ▸ rgrown_drew (gset0 (gset0 (grefl w g) 3 (.int .u64 (z : Int))) 3 (.int .u64 0))
  have HW := hid hW
  have CO : Hid (∀ w', Calls Tryd.prog 45 #[.int .i64 1] w' fun e w2 => ∃ d, e = .returned d ∧ Hid (Dn w'.heap.size w2 (tp 4000 : Int) d) ∧ Hid (Below w'.heap.size w' w2)) := hid fun w' => by
    have h := dof_dn 1 (by omega) w'
    rw [Int.one_mul] at h
    exact h
  have HA := hid (hA W Hg.out)
  have HT := hid (hT W Hg.out)
  clear q hp hz hW hA hT
  go_enter Tryd.func27, Tryd.ntmps27
  go_wp2_with fail
  go_region
  all_goals
    go_wp2_with fail
    rw [← HW.out]
    clear c0 c1 c2 f0 f1 f2 c3 c4 f3
    have c0 := HQ.out.c0
    have c1 := HQ.out.c1
    have c2 := HQ.out.c2
    go_region_with (first
      | (go_at_call 45; refine (CO.out _).mono ?_; rintro e w2 ⟨d, rfl, hd, hb⟩; have J1 := hid (((Below.refl W.heap.size W).drew).trans hb.out); have HA2 := hid (HA.out.below J1.out); have HT2 := hid (HT.out.below J1.out HT.out.lt); have CA := hid (dadd_any HA2.out hd.out.arg HT2.out); have HQ2 := hid (HQ.out.below J1.out HQ.out.lt); have c0' := HQ2.out.c0; have c1' := HQ2.out.c1; have c2' := HQ2.out.c2)
      | (go_at_call 28; refine CA.out.mono ?_; rintro e w3 ⟨d2, er, rfl, hE, hD2, hb2⟩; have J2 := hid (J1.out.trans (hb2.out.mono J1.out.size)); have HQ3 := hid (HQ.out.below J2.out HQ.out.lt); have e0 := HQ3.out.c0; have e1 := HQ3.out.c1; have e2 := HQ3.out.c2; have g0 := HQ3.out.frozen 0; have g1 := HQ3.out.frozen 1; have g2 := HQ3.out.frozen 2; have hx := hD2.out; obtain ⟨t, u, y, V, rd, hn2, -⟩ := hx; obtain ⟨Au, nu, cu, fu, ru, -⟩ := hn2.val; clear hn2; subst rd; subst ru))
    all_goals
      go_wp2
      go_ret
      exact ⟨er, t, _, _, rfl, hE, hid (HQ3.out.put _ _ _), hid ((hD2.out.put3 (Nat.lt_of_lt_of_le HQ.out.lt J1.out.size)).mono (Nat.le_trans Hg.out.size J1.out.size)), hid (gset0 (gset0 (gset0 (ngrown_below Hg.out J2.out) 0 _) 1 _) 2 _)⟩

end Go.Proofs.YtnhnddhigbbleaaDoor


namespace Go.Proofs.YtnhnddhigbbleaaDoor
open Go.RowKit

set_option maxHeartbeats 1600000 in
theorem floor_way {w : World} {g p k : Nat} {n s h m : Bool} {v : Value} {x : Int} (hg : w.cell? ⟨g, 0, none⟩ = some (.bool n)) :
    Calls Tryd.prog 14 #[.agg #[.bool s, v, .int .i64 x, .int .u64 (p : Int), .int .i64 (k : Int), .bool h, .bool m], .pointer (some ⟨g, 0, none⟩)] w fun e w' => e = .returned (.bool (n && (h || m))) ∧ Hid (Below w.heap.size w w') := by
  have B0 := hid ((Below.refl w.heap.size w).alloc (Nat.le_refl _) (.cells #[.bool s, v, .int .i64 x, .int .u64 (p : Int), .int .i64 (k : Int), .bool h, .bool m] 39))
  have bQ : Qbox (w.alloc (.cells #[.bool s, v, .int .i64 x, .int .u64 (p : Int), .int .i64 (k : Int), .bool h, .bool m] 39)) w.heap.size s v x p k h m := heap_alloc_new w _
  have c5 := bQ.c5
  have c6 := bQ.c6
  have hg' := (B0.out.cell (p := ⟨g, 0, none⟩) (block_lt_of_cell hg)).trans hg
  clear bQ
  cases n <;> cases h <;> cases m
  all_goals
    go_enter Tryd.func14, Tryd.ntmps14
    go_wp2
    go_ret
    exact ⟨rfl, B0⟩

set_option maxHeartbeats 1600000 in
theorem ceil_way {w : World} {g p k : Nat} {n s h m : Bool} {v : Value} {x : Int} (hg : w.cell? ⟨g, 0, none⟩ = some (.bool n)) :
    Calls Tryd.prog 18 #[.agg #[.bool s, v, .int .i64 x, .int .u64 (p : Int), .int .i64 (k : Int), .bool h, .bool m], .pointer (some ⟨g, 0, none⟩)] w fun e w' => e = .returned (.bool (!n && (h || m))) ∧ Hid (Below w.heap.size w w') := by
  have B0 := hid ((Below.refl w.heap.size w).alloc (Nat.le_refl _) (.cells #[.bool s, v, .int .i64 x, .int .u64 (p : Int), .int .i64 (k : Int), .bool h, .bool m] 39))
  have bQ : Qbox (w.alloc (.cells #[.bool s, v, .int .i64 x, .int .u64 (p : Int), .int .i64 (k : Int), .bool h, .bool m] 39)) w.heap.size s v x p k h m := heap_alloc_new w _
  have c5 := bQ.c5
  have c6 := bQ.c6
  have hg' := (B0.out.cell (p := ⟨g, 0, none⟩) (block_lt_of_cell hg)).trans hg
  clear bQ
  cases n <;> cases h <;> cases m
  all_goals
    go_enter Tryd.func18, Tryd.ntmps18
    go_wp2
    go_ret
    exact ⟨rfl, B0⟩

set_option maxHeartbeats 1600000 in
theorem near_way {w : World} {g p k : Nat} {n s h m : Bool} {v : Value} {x : Int} (hg : w.cell? ⟨g, 0, none⟩ = some (.bool n)) :
    Calls Tryd.prog 19 #[.agg #[.bool s, v, .int .i64 x, .int .u64 (p : Int), .int .i64 (k : Int), .bool h, .bool m], .pointer (some ⟨g, 0, none⟩)] w fun e w' => e = .returned (.bool (h && (m || !n))) ∧ Hid (Below w.heap.size w w') := by
  have B0 := hid ((Below.refl w.heap.size w).alloc (Nat.le_refl _) (.cells #[.bool s, v, .int .i64 x, .int .u64 (p : Int), .int .i64 (k : Int), .bool h, .bool m] 39))
  have bQ : Qbox (w.alloc (.cells #[.bool s, v, .int .i64 x, .int .u64 (p : Int), .int .i64 (k : Int), .bool h, .bool m] 39)) w.heap.size s v x p k h m := heap_alloc_new w _
  have c5 := bQ.c5
  have c6 := bQ.c6
  have hg' := (B0.out.cell (p := ⟨g, 0, none⟩) (block_lt_of_cell hg)).trans hg
  clear bQ
  cases n <;> cases h <;> cases m
  all_goals
    go_enter Tryd.func19, Tryd.ntmps19
    go_wp2
    go_ret
    exact ⟨rfl, B0⟩

end Go.Proofs.YtnhnddhigbbleaaDoor

