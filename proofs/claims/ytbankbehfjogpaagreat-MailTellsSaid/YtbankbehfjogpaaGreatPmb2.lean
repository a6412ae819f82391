/- The document's May of a mail: numbers that may not be, 3. -/
import Derived.Test.YtbankbehfjogpaaGreatVae
namespace Go.Proofs.YtbankbehfjogpaaGreat
open Go.RowKit Go.Shelf Go.Lib
set_option maxRecDepth 100000
set_option maxHeartbeats 12800000 in
theorem pmay_bad8 {w : World} {m : Md} {l : List De} {t : Nat → Nat} {P : Prop} (HP : Hid (P ↔ PMay m l t)) (hbad : ¬ ((1 ≤ m.kd ∧ m.kd ≤ 6) ∧ IMay m)) (h0 : ¬ (m.kd : Int) < 1) (h1 : ¬ (6 : Int) < (m.kd : Int)) (h2 : ¬ m.fr < 0) (h3 : ¬ 8 ≤ m.fr) (h4 : ¬ m.tu < 0) (h5 : ¬ 8 ≤ m.tu) (h6 : ¬ m.ep < 0) (h7 : ¬ 65535 < m.ep) (h8 : m.nu < 0) :
    Calls Tryz.prog 23 #[.agg (mdc m)] w (Says w P) := by
  obtain ⟨W, hW⟩ : ∃ W, W = w.alloc (.cells (mdc m) 31) := ⟨_, rfl⟩
  have K := hid (show Below w.heap.size w W from hW ▸ (Below.refl _ w).alloc (Nat.le_refl _) _)
  have X := hid (show Pbox W w.heap.size m from hW ▸ heap_alloc_new w _)
  have HW := hid hW
  have HN : Hid (¬ P) := hid (fun hp => hbad ⟨(HP.out.1 hp).1, (HP.out.1 hp).2.1⟩)
  have HB := hid hbad
  clear hW hbad HP
  obtain ⟨kd, fr, tu, ep, nu, ab, D, wa, A, n, c, ha, mn, mx, T, k, d⟩ := m
  have x0 : W.cell? ⟨w.heap.size, 0, none⟩ = some (.int .u8 (kd : Int)) := X.out.c0
  have x1 : W.cell? ⟨w.heap.size, 1, none⟩ = some (.int .i64 fr) := X.out.c1
  have x2 : W.cell? ⟨w.heap.size, 2, none⟩ = some (.int .i64 tu) := X.out.c2
  have x3 : W.cell? ⟨w.heap.size, 3, none⟩ = some (.int .i64 ep) := X.out.c3
  have x4 : W.cell? ⟨w.heap.size, 4, none⟩ = some (.int .i64 nu) := X.out.c4
  have x5 : W.cell? ⟨w.heap.size, 5, none⟩ = some (.int .i64 ab) := X.out.c5
  dsimp only at h0 h1 h2 h3 h4 h5 h6 h7 h8
  go_enter Tryz.func23, Tryz.ntmps23
  go_upto_region 1 with fail
  rw [← HW.out]
  clear HW
  go_wp2
  all_goals
    go_ret
    exact ⟨false, rfl, hid ⟨(fun h => by cases h), fun hp => absurd hp HN.out⟩, K⟩
set_option maxHeartbeats 12800000 in
theorem pmay_bad9 {w : World} {m : Md} {l : List De} {t : Nat → Nat} {P : Prop} (HP : Hid (P ↔ PMay m l t)) (hbad : ¬ ((1 ≤ m.kd ∧ m.kd ≤ 6) ∧ IMay m)) (h0 : ¬ (m.kd : Int) < 1) (h1 : ¬ (6 : Int) < (m.kd : Int)) (h2 : ¬ m.fr < 0) (h3 : ¬ 8 ≤ m.fr) (h4 : ¬ m.tu < 0) (h5 : ¬ 8 ≤ m.tu) (h6 : ¬ m.ep < 0) (h7 : ¬ 65535 < m.ep) (h8 : ¬ m.nu < 0) (h9 : 1048575 < m.nu) :
    Calls Tryz.prog 23 #[.agg (mdc m)] w (Says w P) := by
  obtain ⟨W, hW⟩ : ∃ W, W = w.alloc (.cells (mdc m) 31) := ⟨_, rfl⟩
  have K := hid (show Below w.heap.size w W from hW ▸ (Below.refl _ w).alloc (Nat.le_refl _) _)
  have X := hid (show Pbox W w.heap.size m from hW ▸ heap_alloc_new w _)
  have HW := hid hW
  have HN : Hid (¬ P) := hid (fun hp => hbad ⟨(HP.out.1 hp).1, (HP.out.1 hp).2.1⟩)
  have HB := hid hbad
  clear hW hbad HP
  obtain ⟨kd, fr, tu, ep, nu, ab, D, wa, A, n, c, ha, mn, mx, T, k, d⟩ := m
  have x0 : W.cell? ⟨w.heap.size, 0, none⟩ = some (.int .u8 (kd : Int)) := X.out.c0
  have x1 : W.cell? ⟨w.heap.size, 1, none⟩ = some (.int .i64 fr) := X.out.c1
  have x2 : W.cell? ⟨w.heap.size, 2, none⟩ = some (.int .i64 tu) := X.out.c2
  have x3 : W.cell? ⟨w.heap.size, 3, none⟩ = some (.int .i64 ep) := X.out.c3
  have x4 : W.cell? ⟨w.heap.size, 4, none⟩ = some (.int .i64 nu) := X.out.c4
  have x5 : W.cell? ⟨w.heap.size, 5, none⟩ = some (.int .i64 ab) := X.out.c5
  dsimp only at h0 h1 h2 h3 h4 h5 h6 h7 h8 h9
  go_enter Tryz.func23, Tryz.ntmps23
  go_upto_region 1 with fail
  rw [← HW.out]
  clear HW
  go_wp2
  all_goals
    go_ret
    exact ⟨false, rfl, hid ⟨(fun h => by cases h), fun hp => absurd hp HN.out⟩, K⟩
set_option maxHeartbeats 12800000 in
theorem pmay_bad10 {w : World} {m : Md} {l : List De} {t : Nat → Nat} {P : Prop} (HP : Hid (P ↔ PMay m l t)) (hbad : ¬ ((1 ≤ m.kd ∧ m.kd ≤ 6) ∧ IMay m)) (h0 : ¬ (m.kd : Int) < 1) (h1 : ¬ (6 : Int) < (m.kd : Int)) (h2 : ¬ m.fr < 0) (h3 : ¬ 8 ≤ m.fr) (h4 : ¬ m.tu < 0) (h5 : ¬ 8 ≤ m.tu) (h6 : ¬ m.ep < 0) (h7 : ¬ 65535 < m.ep) (h8 : ¬ m.nu < 0) (h9 : ¬ 1048575 < m.nu) (h10 : m.ab < 0) :
    Calls Tryz.prog 23 #[.agg (mdc m)] w (Says w P) := by
  obtain ⟨W, hW⟩ : ∃ W, W = w.alloc (.cells (mdc m) 31) := ⟨_, rfl⟩
  have K := hid (show Below w.heap.size w W from hW ▸ (Below.refl _ w).alloc (Nat.le_refl _) _)
  have X := hid (show Pbox W w.heap.size m from hW ▸ heap_alloc_new w _)
  have HW := hid hW
  have HN : Hid (¬ P) := hid (fun hp => hbad ⟨(HP.out.1 hp).1, (HP.out.1 hp).2.1⟩)
  have HB := hid hbad
  clear hW hbad HP
  obtain ⟨kd, fr, tu, ep, nu, ab, D, wa, A, n, c, ha, mn, mx, T, k, d⟩ := m
  have x0 : W.cell? ⟨w.heap.size, 0, none⟩ = some (.int .u8 (kd : Int)) := X.out.c0
  have x1 : W.cell? ⟨w.heap.size, 1, none⟩ = some (.int .i64 fr) := X.out.c1
  have x2 : W.cell? ⟨w.heap.size, 2, none⟩ = some (.int .i64 tu) := X.out.c2
  have x3 : W.cell? ⟨w.heap.size, 3, none⟩ = some (.int .i64 ep) := X.out.c3
  have x4 : W.cell? ⟨w.heap.size, 4, none⟩ = some (.int .i64 nu) := X.out.c4
  have x5 : W.cell? ⟨w.heap.size, 5, none⟩ = some (.int .i64 ab) := X.out.c5
  dsimp only at h0 h1 h2 h3 h4 h5 h6 h7 h8 h9 h10
  go_enter Tryz.func23, Tryz.ntmps23
  go_upto_region 1 with fail
  rw [← HW.out]
  clear HW
  go_wp2
  all_goals
    go_ret
    exact ⟨false, rfl, hid ⟨(fun h => by cases h), fun hp => absurd hp HN.out⟩, K⟩
set_option maxHeartbeats 12800000 in
theorem pmay_bad11 {w : World} {m : Md} {l : List De} {t : Nat → Nat} {P : Prop} (HP : Hid (P ↔ PMay m l t)) (hbad : ¬ ((1 ≤ m.kd ∧ m.kd ≤ 6) ∧ IMay m)) (h0 : ¬ (m.kd : Int) < 1) (h1 : ¬ (6 : Int) < (m.kd : Int)) (h2 : ¬ m.fr < 0) (h3 : ¬ 8 ≤ m.fr) (h4 : ¬ m.tu < 0) (h5 : ¬ 8 ≤ m.tu) (h6 : ¬ m.ep < 0) (h7 : ¬ 65535 < m.ep) (h8 : ¬ m.nu < 0) (h9 : ¬ 1048575 < m.nu) (h10 : ¬ m.ab < 0) (h11 : 1048575 < m.ab) :
    Calls Tryz.prog 23 #[.agg (mdc m)] w (Says w P) := by
  obtain ⟨W, hW⟩ : ∃ W, W = w.alloc (.cells (mdc m) 31) := ⟨_, rfl⟩
  have K := hid (show Below w.heap.size w W from hW ▸ (Below.refl _ w).alloc (Nat.le_refl _) _)
  have X := hid (show Pbox W w.heap.size m from hW ▸ heap_alloc_new w _)
  have HW := hid hW
  have HN : Hid (¬ P) := hid (fun hp => hbad ⟨(HP.out.1 hp).1, (HP.out.1 hp).2.1⟩)
  have HB := hid hbad
  clear hW hbad HP
  obtain ⟨kd, fr, tu, ep, nu, ab, D, wa, A, n, c, ha, mn, mx, T, k, d⟩ := m
  have x0 : W.cell? ⟨w.heap.size, 0, none⟩ = some (.int .u8 (kd : Int)) := X.out.c0
  have x1 : W.cell? ⟨w.heap.size, 1, none⟩ = some (.int .i64 fr) := X.out.c1
  have x2 : W.cell? ⟨w.heap.size, 2, none⟩ = some (.int .i64 tu) := X.out.c2
  have x3 : W.cell? ⟨w.heap.size, 3, none⟩ = some (.int .i64 ep) := X.out.c3
  have x4 : W.cell? ⟨w.heap.size, 4, none⟩ = some (.int .i64 nu) := X.out.c4
  have x5 : W.cell? ⟨w.heap.size, 5, none⟩ = some (.int .i64 ab) := X.out.c5
  dsimp only at h0 h1 h2 h3 h4 h5 h6 h7 h8 h9 h10 h11
  go_enter Tryz.func23, Tryz.ntmps23
  go_upto_region 1 with fail
  rw [← HW.out]
  clear HW
  go_wp2
  all_goals
    go_ret
    exact ⟨false, rfl, hid ⟨(fun h => by cases h), fun hp => absurd hp HN.out⟩, K⟩
end Go.Proofs.YtbankbehfjogpaaGreat
