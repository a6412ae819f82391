/- The document's May of a mail: numbers that may not be, 2. -/
import Derived.Test.YtbankbehfjogpaaGreatVae
namespace Go.Proofs.YtbankbehfjogpaaGreat
open Go.RowKit Go.Shelf Go.Lib
set_option maxRecDepth 100000
set_option maxHeartbeats 12800000 in
theorem pmay_bad4 {w : World} {m : Md} {l : List De} {t : Nat → Nat} {P : Prop} (HP : Hid (P ↔ PMay m l t)) (hbad : ¬ ((1 ≤ m.kd ∧ m.kd ≤ 6) ∧ IMay m)) (h0 : ¬ (m.kd : Int) < 1) (h1 : ¬ (6 : Int) < (m.kd : Int)) (h2 : ¬ m.fr < 0) (h3 : ¬ 8 ≤ m.fr) (h4 : m.tu < 0) :
    Calls Tryz.prog 23 #[.agg (mdc m)] w (Says w P) := by
  obtain ⟨W, hW⟩ : ∃ W, W = w.alloc (.cells (mdc m) 31) := ⟨_, rfl⟩
  have K := hid (show Below w.heap.size w W from hW ▸ (Below.refl _ w).alloc (Nat.le_refl _) _)
  have X := hid (show Pbox W w.heap.size m from hW ▸ heap_alloc_new w _)
  have HW := hid hW
  have HN : Hid (¬ P) := hid (fun hp => hbad ⟨(HP.out.1 hp).1, (HP.out.1 hp).2.1⟩)
  have HB := hid hbad
  clear hW hbad HP
  obtain ⟨kd, fr, tu, ep, nu, ab, D, wa, A, n, c, ha, mn, mx, T, k, d⟩ := m
  have x0 : W.cell? ⟨w.heap.size, 0, none⟩ = some (.int .u8 (kd : Int)) := X.out.c0
  have x1 : W.cell? ⟨w.heap.size, 1, none⟩ = some (.int .i64 fr) := X.out.c1
  have x2 : W.cell? ⟨w.heap.size, 2, none⟩ = some (.int .i64 tu) := X.out.c2
  have x3 : W.cell? ⟨w.heap.size, 3, none⟩ = some (.int .i64 ep) := X.out.c3
  have x4 : W.cell? ⟨w.heap.size, 4, none⟩ = some (.int .i64 nu) := X.out.c4
  have x5 : W.cell? ⟨w.heap.size, 5, none⟩ = some (.int .i64 ab) := X.out.c5
  dsimp only at h0 h1 h2 h3 h4
  go_enter Tryz.func23, Tryz.ntmps23
  go_upto_region 1 with fail
  rw [← HW.out]
  clear HW
  go_wp2
  all_goals
    go_ret
    exact ⟨false, rfl, hid ⟨(fun h => by cases h), fun hp => absurd hp HN.out⟩, K⟩
set_option maxHeartbeats 12800000 in
theorem pmay_bad5 {w : World} {m : Md} {l : List De} {t : Nat → Nat} {P : Prop} (HP : Hid (P ↔ PMay m l t)) (hbad : ¬ ((1 ≤ m.kd ∧ m.kd ≤ 6) ∧ IMay m)) (h0 : ¬ (m.kd : Int) < 1) (h1 : ¬ (6 : Int) < (m.kd : Int)) (h2 : ¬ m.fr < 0) (h3 : ¬ 8 ≤ m.fr) (h4 : ¬ m.tu < 0) (h5 : 8 ≤ m.tu) :
    Calls Tryz.prog 23 #[.agg (mdc m)] w (Says w P) := by
  obtain ⟨W, hW⟩ : ∃ W, W = w.alloc (.cells (mdc m) 31) := ⟨_, rfl⟩
  have K := hid (show Below w.heap.size w W from hW ▸ (Below.refl _ w).alloc (Nat.le_refl _) _)
  have X := hid (show Pbox W w.heap.size m from hW ▸ heap_alloc_new w _)
  have HW := hid hW
  have HN : Hid (¬ P) := hid (fun hp => hbad ⟨(HP.out.1 hp).1, (HP.out.1 hp).2.1⟩)
  have HB := hid hbad
  clear hW hbad HP
  obtain ⟨kd, fr, tu, ep, nu, ab, D, wa, A, n, c, ha, mn, mx, T, k, d⟩ := m
  have x0 : W.cell? ⟨w.heap.size, 0, none⟩ = some (.int .u8 (kd : Int)) := X.out.c0
  have x1 : W.cell? ⟨w.heap.size, 1, none⟩ = some (.int .i64 fr) := X.out.c1
  have x2 : W.cell? ⟨w.heap.size, 2, none⟩ = some (.int .i64 tu) := X.out.c2
  have x3 : W.cell? ⟨w.heap.size, 3, none⟩ = some (.int .i64 ep) := X.out.c3
  have x4 : W.cell? ⟨w.heap.size, 4, none⟩ = some (.int .i64 nu) := X.out.c4
  have x5 : W.cell? ⟨w.heap.size, 5, none⟩ = some (.int .i64 ab) := X.out.c5
  dsimp only at h0 h1 h2 h3 h4 h5
  go_enter Tryz.func23, Tryz.ntmps23
  go_upto_region 1 with fail
  rw [← HW.out]
  clear HW
  go_wp2
  all_goals
    go_ret
    exact ⟨false, rfl, hid ⟨(fun h => by cases h), fun hp => absurd hp HN.out⟩, K⟩
set_option maxHeartbeats 12800000 in
theorem pmay_bad6 {w : World} {m : Md} {l : List De} {t : Nat → Nat} {P : Prop} (HP : Hid (P ↔ PMay m l t)) (hbad : ¬ ((1 ≤ m.kd ∧ m.kd ≤ 6) ∧ IMay m)) (h0 : ¬ (m.kd : Int) < 1) (h1 : ¬ (6 : Int) < (m.kd : Int)) (h2 : ¬ m.fr < 0) (h3 : ¬ 8 ≤ m.fr) (h4 : ¬ m.tu < 0) (h5 : ¬ 8 ≤ m.tu) (h6 : m.ep < 0) :
    Calls Tryz.prog 23 #[.agg (mdc m)] w (Says w P) := by
  obtain ⟨W, hW⟩ : ∃ W, W = w.alloc (.cells (mdc m) 31) := ⟨_, rfl⟩
  have K := hid (show Below w.heap.size w W from hW ▸ (Below.refl _ w).alloc (Nat.le_refl _) _)
  have X := hid (show Pbox W w.heap.size m from hW ▸ heap_alloc_new w _)
  have HW := hid hW
  have HN : Hid (¬ P) := hid (fun hp => hbad ⟨(HP.out.1 hp).1, (HP.out.1 hp).2.1⟩)
  have HB := hid hbad
  clear hW hbad HP
  obtain ⟨kd, fr, tu, ep, nu, ab, D, wa, A, n, c, ha, mn, mx, T, k, d⟩ := m
  have x0 : W.cell? ⟨w.heap.size, 0, none⟩ = some (.int .u8 (kd : Int)) := X.out.c0
  have x1 : W.cell? ⟨w.heap.size, 1, none⟩ = some (.int .i64 fr) := X.out.c1
  have x2 : W.cell? ⟨w.heap.size, 2, none⟩ = some (.int .i64 tu) := X.out.c2
  have x3 : W.cell? ⟨w.heap.size, 3, none⟩ = some (.int .i64 ep) := X.out.c3
  have x4 : W.cell? ⟨w.heap.size, 4, none⟩ = some (.int .i64 nu) := X.out.c4
  have x5 : W.cell? ⟨w.heap.size, 5, none⟩ = some (.int .i64 ab) := X.out.c5
  dsimp only at h0 h1 h2 h3 h4 h5 h6
  go_enter Tryz.func23, Tryz.ntmps23
  go_upto_region 1 with fail
  rw [← HW.out]
  clear HW
  go_wp2
  all_goals
    go_ret
    exact ⟨false, rfl, hid ⟨(fun h => by cases h), fun hp => absurd hp HN.out⟩, K⟩
set_option maxHeartbeats 12800000 in
theorem pmay_bad7 {w : World} {m : Md} {l : List De} {t : Nat → Nat} {P : Prop} (HP : Hid (P ↔ PMay m l t)) (hbad : ¬ ((1 ≤ m.kd ∧ m.kd ≤ 6) ∧ IMay m)) (h0 : ¬ (m.kd : Int) < 1) (h1 : ¬ (6 : Int) < (m.kd : Int)) (h2 : ¬ m.fr < 0) (h3 : ¬ 8 ≤ m.fr) (h4 : ¬ m.tu < 0) (h5 : ¬ 8 ≤ m.tu) (h6 : ¬ m.ep < 0) (h7 : 65535 < m.ep) :
    Calls Tryz.prog 23 #[.agg (mdc m)] w (Says w P) := by
  obtain ⟨W, hW⟩ : ∃ W, W = w.alloc (.cells (mdc m) 31) := ⟨_, rfl⟩
  have K := hid (show Below w.heap.size w W from hW ▸ (Below.refl _ w).alloc (Nat.le_refl _) _)
  have X := hid (show Pbox W w.heap.size m from hW ▸ heap_alloc_new w _)
  have HW := hid hW
  have HN : Hid (¬ P) := hid (fun hp => hbad ⟨(HP.out.1 hp).1, (HP.out.1 hp).2.1⟩)
  have HB := hid hbad
  clear hW hbad HP
  obtain ⟨kd, fr, tu, ep, nu, ab, D, wa, A, n, c, ha, mn, mx, T, k, d⟩ := m
  have x0 : W.cell? ⟨w.heap.size, 0, none⟩ = some (.int .u8 (kd : Int)) := X.out.c0
  have x1 : W.cell? ⟨w.heap.size, 1, none⟩ = some (.int .i64 fr) := X.out.c1
  have x2 : W.cell? ⟨w.heap.size, 2, none⟩ = some (.int .i64 tu) := X.out.c2
  have x3 : W.cell? ⟨w.heap.size, 3, none⟩ = some (.int .i64 ep) := X.out.c3
  have x4 : W.cell? ⟨w.heap.size, 4, none⟩ = some (.int .i64 nu) := X.out.c4
  have x5 : W.cell? ⟨w.heap.size, 5, none⟩ = some (.int .i64 ab) := X.out.c5
  dsimp only at h0 h1 h2 h3 h4 h5 h6 h7
  go_enter Tryz.func23, Tryz.ntmps23
  go_upto_region 1 with fail
  rw [← HW.out]
  clear HW
  go_wp2
  all_goals
    go_ret
    exact ⟨false, rfl, hid ⟨(fun h => by cases h), fun hp => absurd hp HN.out⟩, K⟩
end Go.Proofs.YtbankbehfjogpaaGreat
