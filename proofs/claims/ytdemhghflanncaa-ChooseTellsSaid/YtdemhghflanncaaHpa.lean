/- The program's left: place, without. -/
/- The program's One and Some. -/
/- The program's Some. -/
import Derived.Test.YtdemhghflanncaaHcho
import Derived.ArgAppend
import Derived.Test.YtdemhghflanncaaHsom
import Derived.Test.YtdemhghflanncaaCchk
import Derived.Test.YtdemhghflanncaaHtls

namespace Go.Proofs.Ytdemhghflanncaa
open Go.RowKit Go.Shelf Go.Lib

set_option maxHeartbeats 800000 in
theorem place_any {w : World} {n c : Nat} {A : Option Addr} (x : Nat) (hn : 0 < n) (hm : n ≤ 1000) :
    Calls Try.prog 24 #[.slice A n c, .int .u64 (x : Int)] w fun e w' => e = .returned (.int .i64 ((x % n : Nat) : Int)) ∧ w' = w := by
  obtain ⟨a, ha⟩ : ∃ a, a = x % n := ⟨_, rfl⟩
  have han : a < n := by rw [ha]; exact Nat.mod_lt _ hn
  rw [← ha]
  have hr1 : ((x : Int)).tmod (n : Int) = (a : Int) := by rw [ha]; rfl
  have hw1 : IntKind.u64.wrap (n : Int) = (n : Int) := by rw [IntKind.wrap_u64]; omega
  have hw2 : IntKind.i64.wrap (a : Int) = (a : Int) := by rw [IntKind.wrap_i64]; omega
  have hnz : ¬ (n : Int) = 0 := by omega
  clear ha
  go_enter Try.func24, Try.ntmps24
  go_wp2
  go_ret
  exact ⟨rfl, rfl⟩

/-- Append onto a slice without room behind it. -/
theorem run_appF {w : World} {a m c : Nat} {A D : Option Addr} {l r : List De} (ty : TypeId) (hL : Ds w w.heap.size A a a l) (hD : Ds w w.heap.size D m c r) (hn : a + m ≤ 100000) :
    ∃ A' n' c' w', (Builtin.append_ #[55, 55] ty #[.slice A a a, .slice D m c]).run Try.prog w = .ok (.slice A' n' c') w' ∧ Ds w' w'.heap.size A' n' c' (l ++ r) ∧ Below w.heap.size w w' ∧ ∀ z, A' = some z → A = some z ∨ w.heap.size ≤ z.block := by
  obtain ⟨i0, hi0, hz0, hzs, hzb⟩ := info_parts infoD
  rcases Nat.eq_zero_or_pos m with h0 | h0
  · subst h0
    obtain rfl := List.length_eq_zero_iff.1 hD.len
    refine ⟨A, a, a, w, ?_, by rw [List.append_nil]; exact hL, Below.refl _ _, fun z hz => .inl hz⟩
    cases A with
    | none =>
      obtain ⟨e1, e2⟩ := hL.nil rfl
      rw [e1]
      cases D <;> simp [Builtin.append_, run_underlying Try.underlying55, sizeOf, typeInfo, hi0, Builtin.lenOf, Builtin.firstCells, loadCells, loadCellsFrom]
    | some b =>
      cases D <;> simp [Builtin.append_, run_underlying Try.underlying55, sizeOf, typeInfo, hi0, Builtin.lenOf, Builtin.firstCells, loadCells, loadCellsFrom, storeCells]
  · obtain ⟨b, off, rfl, _, _⟩ := hD.at_ h0
    have fin : ∀ v' w', w'.ownsRow w.heap.size 23 2 v' (a + m) (cellsD l ++ cellsD r) → w.grownBy w' none → ∃ A' n' c', v' = .slice A' n' c' ∧ Ds w' w'.heap.size A' n' c' (l ++ r) ∧ Below w.heap.size w w' ∧ ∀ z, A' = some z → A = some z ∨ w.heap.size ≤ z.block := by
      intro v' w' h1 h2
      have hO : Od w' w.heap.size v' (l ++ r) := ⟨by rw [List.length_append, hL.len, hD.len, cellsD_append]; exact h1, by rw [List.length_append, hL.len, hD.len]; exact hn⟩
      obtain ⟨A', n', c', rfl, o, d⟩ := od_lett hO
      exact ⟨A', n', c', rfl, d, ⟨h2.os, h2.tape, h2.output, h2.size, fun k hk => h2.block k hk (by simp)⟩, fun z hz => .inr (own_at o z hz)⟩
    cases A with
    | none =>
      obtain ⟨rfl, _⟩ := hL.nil rfl
      obtain rfl := List.length_eq_zero_iff.1 hL.len
      obtain ⟨v', w', hr, h2, h3, _, h5⟩ := run_append_own_at (P := Try.prog) w w.heap.size 55 ty 23 i0 _ 2 16 Try.underlying55 hi0 hz0 hzs hzb rfl (by decide) (.slice none 0 0) 0 [] (World.ownsRow_nil w _ _ _) ⟨b, off, none⟩ m c (cellsD r) (by rw [cellsD_length, hD.len]) (hD.cells rfl) (cellsD_one_cell r) (by unfold maxLen; omega) (by omega) (Nat.le_refl _)
      obtain ⟨A', n', c', rfl, q1, q2, q3⟩ := fin v' w' h2 (by simpa [Value.ownBlock] using h3)
      exact ⟨A', n', c', w', hr, q1, q2, q3⟩
    | some y =>
      obtain ⟨v', w', hr, h2, h3⟩ := run_append_arg_grows (P := Try.prog) w 55 ty 23 i0 _ 2 16 Try.underlying55 hi0 hz0 hzs hzb rfl (by decide) y a a (cellsD l) (by rw [cellsD_length, hL.len]) (fun j u hj => by
          rcases Nat.eq_zero_or_pos a with hz | hz
          · subst hz
            obtain rfl := List.length_eq_zero_iff.1 hL.len
            simp [cellsD] at hj
          · obtain ⟨b', off', e, _, _⟩ := hL.at_ hz
            injection e with e
            subst e
            exact hL.cells rfl j u hj) ⟨b, off, none⟩ m c (cellsD r) (by rw [cellsD_length, hD.len]) (hD.cells rfl) (by omega) (by unfold maxLen; omega) (by omega)
      obtain ⟨A', n', c', rfl, q1, q2, q3⟩ := fin v' w' h2 h3
      exact ⟨A', n', c', w', hr, q1, q2, q3⟩

/-- At a step of a region that draws its order. -/
theorem step_appF {w : World} {ops : Array Oper} {o : Oper} {a : Act} {K : Act → World → Prop} {Q : Exit → Act → World → Prop} {E : Prop} (hgd : o.guard = none) (s x : Operand)
    (ho : o.op = .call { callee := .builtin .append, args := #[s, x], argTypes := #[55, 55] }) {k m c : Nat} {A D : Option Addr} {l r : List De} (hs : a.eval s = .slice A k k) (hx : a.eval x = .slice D m c)
    (hL : Ds w w.heap.size A k k l) (hD : Ds w w.heap.size D m c r) (hn : k + m ≤ 100000)
    (h : ∀ A' n' c' w', Hid (Ds w' w'.heap.size A' n' c' (l ++ r) ∧ Below w.heap.size w w' ∧ ∀ z, A' = some z → A = some z ∨ w.heap.size ≤ z.block) → K (a.put o.dst (.slice A' n' c')) w') : if Region.wanted o (yielded ops a.tmps) = true then Oper.wp Try.prog o a w K Q else E := by
  obtain ⟨A', n', c', w', hr, h1, h2, h3⟩ := run_appF o.type hL hD hn
  have hw : Region.wanted o (yielded ops a.tmps) = true := by simp [Region.wanted, hgd]
  rw [if_pos hw]
  exact Lib.wp_append_run w s x _ _ ho _ _ hs hx _ w' hr (h A' n' c' w' (hid ⟨h1, h2, h3⟩))

set_option maxHeartbeats 3200000 in
set_option maxRecDepth 100000 in
theorem without_any {w : World} {B n c : Nat} {A : Option Addr} {l : List De} {a : Nat} (h : Ds w B A n c l) (hB : B ≤ w.heap.size) (ha : a < n) (hm : n ≤ 1000) :
    Calls Try.prog 25 #[.slice A n c, .int .i64 (a : Int)] w fun e w' => ∃ A' n' c', e = .returned (.slice A' n' c') ∧ Hid (Ds w' w'.heap.size A' n' c' (l.eraseIdx a) ∧ Below w.heap.size w w' ∧ ∀ z, A' = some z → (∃ y, A = some y ∧ z.block = y.block) ∨ w.heap.size ≤ z.block) := by
  have mixed : Try.prog.follows .mixedOrders = true := by kernel_rfl
  have H := hid (h.mono hB)
  have hcap := h.cap
  have hll := h.len
  obtain ⟨b, off, rfl, _, _⟩ := h.at_ (by omega)
  clear h hB
  have hw3 : IntKind.i64.wrap ((a : Int) + 1) = (a : Int) + 1 := by rw [IntKind.wrap_i64]; omega
  have htn : ((a : Int) + 1).toNat = a + 1 := by omega
  have hb1 : (0 : Int) ≤ (a : Int) + 1 := by omega
  have hb2 : (a : Int) + 1 ≤ (n : Int) := by omega
  have hb3 : (a : Int) ≤ (c : Int) := by omega
  have hb5 : (a : Int) ≤ (n : Int) := by omega
  have ha1 : a + 1 ≤ c := by omega
  have HS1 : Hid (∀ X, Below w.heap.size w X → Ds X X.heap.size (some ⟨b, off, none⟩) a a (l.take a)) := hid fun X hb => by
    have h1 := ((H.out.first (by omega : a ≤ n)).below hb).mono hb.size
    exact ⟨h1.len, Nat.le_refl _, h1.max, (fun e => (by cases e)), h1.at_⟩
  have HSE := hid (show l.take a ++ l.drop (a + 1) = l.eraseIdx a from erase_two l a)
  have HB0 : Hid (Below w.heap.size w w.drew) := hid (Below.refl _ w).drew
  have fin : Hid (∀ (A' : Option Addr) (n' c' : Nat) (w' : World), Ds w' w'.heap.size A' n' c' (l.take a ++ l.drop (a + 1)) ∧ Below w.drew.heap.size w.drew w' ∧ (∀ z, A' = some z → some (⟨b, off, none⟩ : Addr) = some z ∨ w.drew.heap.size ≤ z.block) → 
      ∃ A2 n2 c2, Ending.returned (.slice A' n' c') = .returned (.slice A2 n2 c2) ∧ Hid (Ds w' w'.heap.size A2 n2 c2 (l.eraseIdx a) ∧ Below w.heap.size w w' ∧ ∀ z, A2 = some z → (∃ y, some (⟨b, off, none⟩ : Addr) = some y ∧ z.block = y.block) ∨ w.heap.size ≤ z.block)) :=
    hid fun A' n' c' w' ⟨q1, q2, q3⟩ => ⟨A', n', c', rfl, hid ⟨HSE.out ▸ q1, HB0.out.trans q2, fun z hz => (q3 z hz).imp (fun e => ⟨_, rfl, by injection e with e; rw [← e]⟩) id⟩⟩
  go_enter Try.func25, Try.ntmps25
  by_cases hpc : c = a + 1
  · subst hpc
    obtain rfl : n = a + 1 := by omega
    have hb4 : (a : Int) ≤ (a : Int) + 1 := by omega
    have HS3 : Hid (∀ (X : World) (z : Addr) (k : Nat), Ds X X.heap.size (some z) 0 k (l.drop (a + 1))) := hid fun X z k => by rw [List.drop_of_length_le (by omega)]; exact Ds.none' _ _ _ _
    go_upto_region 1 with fail
    go_region_law (refine step_appF rfl (.tmp 8) (.tmp 12) rfl (k := a) (m := 0) (c := 0) (A := some ⟨b, off, none⟩) (D := some ⟨b, off, none⟩) (l := l.take a) (r := l.drop (a + 1)) (by simp only [Act.eval, Act.put, List.setIfInBounds_toArray, List.set_cons_zero, List.set_cons_succ, List.getElem_toArray, List.getElem_cons_succ, List.getElem_cons_zero]; rfl) (by simp only [Act.eval, Act.put, List.setIfInBounds_toArray, List.set_cons_zero, List.set_cons_succ, List.getElem_toArray, List.getElem_cons_succ, List.getElem_cons_zero]; rfl) (by with_reducible exact HS1.out _ HB0.out) (by with_reducible exact HS3.out _ _ _) (by omega) ?_; intro A' n' c' w' HT)
    all_goals
      go_wp2
      go_ret
      exact fin.out _ _ _ _ HT.out
  · have HS3 : Hid (∀ X, Below w.heap.size w X → Ds X X.heap.size (some ⟨b, off + (a + 1) * 2, none⟩) (n - (a + 1)) (c - (a + 1)) (l.drop (a + 1))) := hid fun X hb => ((H.out.dropo (by omega)).below hb).mono hb.size
    go_upto_region 1 with fail
    go_region_law (refine step_appF rfl (.tmp 8) (.tmp 12) rfl (k := a) (m := n - (a + 1)) (c := c - (a + 1)) (A := some ⟨b, off, none⟩) (D := some ⟨b, off + (a + 1) * 2, none⟩) (l := l.take a) (r := l.drop (a + 1)) (by simp only [Act.eval, Act.put, List.setIfInBounds_toArray, List.set_cons_zero, List.set_cons_succ, List.getElem_toArray, List.getElem_cons_succ, List.getElem_cons_zero]; rfl) (by simp only [Act.eval, Act.put, List.setIfInBounds_toArray, List.set_cons_zero, List.set_cons_succ, List.getElem_toArray, List.getElem_cons_succ, List.getElem_cons_zero]; rfl) (by with_reducible exact HS1.out _ HB0.out) (by with_reducible exact HS3.out _ HB0.out) (by omega) ?_; intro A' n' c' w' HT)
    all_goals
      go_wp2
      go_ret
      exact fin.out _ _ _ _ HT.out
end Go.Proofs.Ytdemhghflanncaa


namespace Go.Proofs.Ytdemhghflanncaa
open Go.RowKit Go.Shelf Go.Lib

theorem cchk_may {o p : Int} {l : List De} : cchk o p l = if CMay o p l then 0 else 8 := rfl

set_option maxHeartbeats 3200000 in
set_option maxRecDepth 100000 in
theorem pone_any {w : World} {B n c : Nat} {A : Option Addr} {l : List De} (o p : Int) (x : Nat) (h : Ds w B A n c l) (hB : B ≤ w.heap.size) :
    Calls Try.prog 8 #[cav o p (.slice A n c), .int .u64 (x : Int)] w fun e w' => e = .returned (.tuple #[dv (onD o p l x), .int .i64 (onE o p l)]) ∧ Hid (Below w.heap.size w w') := by
  have H := hid (h.mono hB)
  have HL := hid h.len
  have hcap := h.cap
  clear h hB
  obtain ⟨W, hW⟩ : ∃ W, W = (w.alloc (.cells #[.int .i64 o, .int .i64 p, .slice A n c] 29)).alloc (.cells #[.int .i64 0, .int .i64 0] 23) := ⟨_, rfl⟩
  have B0 := hid (show Below w.heap.size w W from hW ▸ ((Below.refl _ w).alloc (Nat.le_refl _) _).alloc (by simp) _)
  have X0 := hid (show Cbox W w.heap.size o p (.slice A n c) from hW ▸ heap2_0 w _ _)
  have Y0 := hid (show Dbx W (w.heap.size + 1) (0, 0) from hW ▸ heap2_1 w _ _)
  have x0 := X0.out.c0
  have x1 := X0.out.c1
  have x2 := X0.out.c2
  have HW := hid hW
  clear hW
  have CM := hid (ccheck_any o p (H.out.below B0.out) B0.out.size)
  rw [cchk_may] at CM
  by_cases hq : CMay o p l
  case neg =>
    have hE : onE o p l = 8 := if_neg hq
    have hF : onD o p l x = (0, 0) := by unfold onD; rw [hE]; rfl
    rw [hE, hF]
    rw [if_neg hq] at CM
    clear hq hE hF
    unfold cav at CM ⊢
    go_enter Try.func8, Try.ntmps8
    go_upto_region 1 with fail
    rw [← HW.out]
    clear HW
    go_wp2_with fail
    refine CM.out.mono ?_
    rintro e w1 ⟨rfl, hb⟩
    have Y1 := hid (Y0.out.below hb.out Y0.out.lt)
    have y0 := Y1.out.c0
    have y1 := Y1.out.c1
    have z0 := Y1.out.frozen 0
    have z1 := Y1.out.frozen 1
    go_wp2
    refine ret_desc (g := w.heap.size + 1) (d := (0, 0)) rfl rfl rfl rfl (Y1.out.store 0 0) ?_
    exact ⟨rfl, hid (((B0.out.trans (hb.out.mono B0.out.size)).setCell (p := ⟨w.heap.size + 1, 0, none⟩) (Nat.le_succ _) _).setCell (p := ⟨w.heap.size + 1, 1, none⟩) (Nat.le_succ _) _)⟩
  rw [if_pos hq] at CM
  by_cases hn0 : n = 0
  · have hE : onE o p l = 6 := by unfold onE; rw [if_pos hq, if_pos (by rw [HL.out]; exact hn0)]
    have hF : onD o p l x = (0, 0) := by unfold onD; rw [hE]; rfl
    rw [hE, hF]
    clear hq hE hF
    subst hn0
    unfold cav at CM ⊢
    go_enter Try.func8, Try.ntmps8
    go_upto_region 1 with fail
    rw [← HW.out]
    clear HW
    go_wp2_with fail
    refine CM.out.mono ?_
    rintro e w1 ⟨rfl, hb⟩
    have Y1 := hid (Y0.out.below hb.out Y0.out.lt)
    have X1 := hid (X0.out.below hb.out X0.out.lt)
    clear x0 x1 x2
    have x2 := X1.out.c2
    have y0 := Y1.out.c0
    have y1 := Y1.out.c1
    have z0 := Y1.out.frozen 0
    have z1 := Y1.out.frozen 1
    go_wp2
    refine ret_desc (g := w.heap.size + 1) (d := (0, 0)) rfl rfl rfl rfl (Y1.out.store 0 0) ?_
    exact ⟨rfl, hid (((B0.out.trans (hb.out.mono B0.out.size)).setCell (p := ⟨w.heap.size + 1, 0, none⟩) (Nat.le_succ _) _).setCell (p := ⟨w.heap.size + 1, 1, none⟩) (Nat.le_succ _) _)⟩
  have hn6 : n ≤ 6 := by
    obtain ⟨_, _, _, a4, a5, _⟩ := hq
    have := HL.out
    omega
  have hE : onE o p l = 0 := by unfold onE; rw [if_pos hq, if_neg (by rw [HL.out]; exact hn0)]
  have CP := hid (fun W => place_any (w := W) (c := c) (A := A) x (show 0 < n by omega) (by omega))
  obtain ⟨a, ha⟩ : ∃ a, a = x % n := ⟨_, rfl⟩
  rw [← ha] at CP
  have han : a < n := by rw [ha]; exact Nat.mod_lt _ (by omega)
  obtain ⟨y, hy⟩ := H.out.get han
  have hF : onD o p l x = y := by unfold onD; rw [if_pos hE, HL.out, ← ha, hy]; rfl
  rw [hE, hF]
  clear hq hE hF
  have hnz : ¬ (n : Int) = 0 := by omega
  have haz : (a : Int) < (n : Int) := by omega
  have hag : ¬ (a : Int) < 0 := by omega
  obtain ⟨y1, y2⟩ := y
  have HY := hid hy
  clear hy ha
  unfold cav at CM ⊢
  go_enter Try.func8, Try.ntmps8
  go_upto_region 1 with fail
  rw [← HW.out]
  clear HW
  go_wp2_with fail
  refine CM.out.mono ?_
  rintro e w1 ⟨rfl, hb⟩
  have Y1 := hid (Y0.out.below hb.out Y0.out.lt)
  have X1 := hid (X0.out.below hb.out X0.out.lt)
  have B1 := hid (B0.out.trans (hb.out.mono B0.out.size))
  have D1 := H.out.below B1.out
  have hcs := D1.at_ (by omega)
  obtain ⟨b, off, hA, _, hc⟩ := hcs
  obtain ⟨c1, c2⟩ := hc a (y1, y2) HY.out
  change w1.cell? ⟨b, off + a * 2, none⟩ = some (.int .i64 y1) at c1
  change w1.cell? ⟨b, off + a * 2 + 1, none⟩ = some (.int .i64 y2) at c2
  subst hA
  clear x0 x1 x2 hc D1 CM
  have x2 := X1.out.c2
  have u0 := Y1.out.c0
  have u1 := Y1.out.c1
  have z0 := Y1.out.frozen 0
  have z1 := Y1.out.frozen 1
  go_wp2_with fail
  refine (CP.out w1).mono ?_
  rintro e w2 ⟨rfl, rfl⟩
  go_wp2
  refine ret_desc (g := w.heap.size + 1) (d := (y1, y2)) rfl rfl rfl rfl ?_ ?_
  · exact Y1.out.store y1 y2
  · exact ⟨rfl, hid ((((B1.out).setCell (p := ⟨w.heap.size + 1, 0, none⟩) (Nat.le_succ _) _).setCell (p := ⟨w.heap.size + 1, 1, none⟩) (Nat.le_succ _) _))⟩

theorem one_ok : OneOk := fun _ o p _ _ _ _ _ x h hB _ => pone_any o p x h hB
end Go.Proofs.Ytdemhghflanncaa


namespace Go.Proofs.Ytdemhghflanncaa
open Go.RowKit Go.Shelf Go.Lib

theorem chs_end {l : List De} {r : List Nat} {k : Nat} (h : k = min r.length l.length) {t : List De} (ht : t.length = l.length - k) : chs t (r.drop k) = [] := by
  rcases Nat.le_total r.length l.length with h1 | h1
  · rw [List.drop_of_length_le (by omega), chs_none]
  · rw [List.length_eq_zero_iff.1 (show t.length = 0 by omega), chs_nil]

set_option maxHeartbeats 6400000 in
set_option maxRecDepth 100000 in
theorem psome_any {w : World} {B C n c m d : Nat} {A D : Option Addr} {l : List De} {r : List Nat} (o p : Int) (h : Ds w B A n c l) (k : Us w C D m d r) (hB : B ≤ w.heap.size) (hC : C ≤ w.heap.size) :
    Calls Try.prog 9 #[cav o p (.slice A n c), .slice D m d] w fun e w' => ∃ v, e = .returned (.tuple #[v, .int .i64 (smE o p l r)]) ∧ Hid (Od w' w.heap.size v (smL o p l r) ∧ Below w.heap.size w w') := by
  have H := hid (h.mono hB)
  have K := hid (k.mono hC)
  have HL := hid h.len
  have HR := hid k.len
  have hcap := h.cap
  have hcap2 := k.cap
  have HFit := hid k.fit
  clear h hB k hC
  obtain ⟨W, hW⟩ : ∃ W, W = w.alloc (.cells #[.int .i64 o, .int .i64 p, .slice A n c] 29) := ⟨_, rfl⟩
  have B0 := hid (show Below w.heap.size w W from hW ▸ (Below.refl _ w).alloc (Nat.le_refl _) _)
  have X0 := hid (show Cbox W w.heap.size o p (.slice A n c) from hW ▸ heap_alloc_new w _)
  have x0 := X0.out.c0
  have x1 := X0.out.c1
  have x2 := X0.out.c2
  have HW := hid hW
  clear hW
  have CM := hid (ccheck_any o p (H.out.below B0.out) B0.out.size)
  rw [cchk_may] at CM
  by_cases hq : CMay o p l
  case neg =>
    have hE : smE o p l r = 8 := if_neg hq
    have hF : smL o p l r = [] := by unfold smL; rw [hE]; rfl
    rw [hE, hF]
    rw [if_neg hq] at CM
    clear hq hE hF
    unfold cav at CM ⊢
    go_enter Try.func9, Try.ntmps9
    go_upto_region 1 with fail
    rw [← HW.out]
    clear HW
    go_wp2_with fail
    refine CM.out.mono ?_
    rintro e w1 ⟨rfl, hb⟩
    go_wp2
    go_ret2
    exact ⟨_, rfl, hid ⟨Od.nil _ _, B0.out.trans (hb.out.mono B0.out.size)⟩⟩
  rw [if_pos hq] at CM
  have hn6 : n ≤ 6 := by
    obtain ⟨_, _, _, a4, a5, _⟩ := hq
    have := HL.out
    omega
  by_cases hm : 64 < m
  · have hE : smE o p l r = 4 := by unfold smE; rw [if_pos hq, if_pos (by rw [HR.out]; exact hm)]
    have hF : smL o p l r = [] := by unfold smL; rw [hE]; rfl
    rw [hE, hF]
    clear hq hE hF
    have hmz : (m : Int) > 64 := by omega
    unfold cav at CM ⊢
    go_enter Try.func9, Try.ntmps9
    go_upto_region 1 with fail
    rw [← HW.out]
    clear HW
    go_wp2_with fail
    refine CM.out.mono ?_
    rintro e w1 ⟨rfl, hb⟩
    go_wp2
    go_ret2
    exact ⟨_, rfl, hid ⟨Od.nil _ _, B0.out.trans (hb.out.mono B0.out.size)⟩⟩
  have hE : smE o p l r = 0 := by unfold smE; rw [if_pos hq, if_neg (by rw [HR.out]; exact hm)]
  have hF : smL o p l r = chs l r := if_pos hE
  rw [hE, hF]
  clear hq hE hF
  have hmz : ¬ (m : Int) > 64 := by omega
  obtain ⟨kk, hkk⟩ : ∃ kk, kk = min m n := ⟨_, rfl⟩
  have hmin : min (m : Int) (n : Int) = (kk : Int) := by omega
  have hkm : kk ≤ m := by omega
  have hkn : kk ≤ n := by omega
  have hk1 : (0 : Int) ≤ (kk : Int) := by omega
  have hk2 : (kk : Int) ≤ (d : Int) := by omega
  have HKK := hid hkk
  clear hkk
  unfold cav at CM ⊢
  go_enter Try.func9, Try.ntmps9
  go_upto_region 1 with fail
  rw [← HW.out]
  clear HW
  go_wp2_with fail
  refine CM.out.mono ?_
  rintro e w1 ⟨rfl, hb⟩
  have B1 := hid (B0.out.trans (hb.out.mono B0.out.size))
  have X1 := hid (X0.out.below hb.out X0.out.lt)
  have H1 := hid ((H.out.below B1.out).mono B1.out.size)
  have K1 := hid ((K.out.below B1.out).mono B1.out.size)
  clear x0 x1 x2 CM hb H K
  have x2 := X1.out.c2
  go_wp2_with fail
  go_loopg [7, 8, 31] kk (fun gg s7 s8 s31 wr => ∃ (i q c' : Nat) (A' : Option Addr) (t u : List De), i ≤ kk ∧ kk - i ≤ gg ∧ s31 = .int .i64 i ∧ s8 = .slice A' q c' ∧ q = n - i ∧ q ≤ c' ∧ Hid (Ds wr wr.heap.size A' q c' t) ∧ Hid (∀ a, A' = some a → s7.ownBlock ≠ some a.block) ∧ Hid (Od wr w1.heap.size s7 u ∧ u.length = i) ∧ Hid (Below w1.heap.size w1 wr) ∧ Hid (chs l r = u ++ chs t (r.drop i)))
  case atStart => exact ⟨0, n, c, A, l, [], Nat.zero_le _, by omega, rfl, rfl, by omega, hcap, H1, hid (fun _ _ => by simp [Value.ownBlock]), hid ⟨Od.nil _ _, rfl⟩, hid (Below.refl _ _), hid rfl⟩
  case round =>
    clear hcap H1 x2
    obtain ⟨i, q, c', A', t, u, hi, hg, rfl, rfl, hqn, hcap, HT, HAp, HU, BW, HE⟩ := hrel
    by_cases hlt : i < kk
    case neg =>
      have hltz : ¬ (i : Int) < (kk : Int) := by omega
      obtain rfl : i = kk := by omega
      go_wp2
      go_ret2
      refine ⟨_, rfl, hid ⟨?_, B1.out.trans (BW.out.mono B1.out.size)⟩⟩
      rw [HE.out, chs_end (l := l) (by rw [HR.out, HL.out]; exact HKK.out) (by rw [HT.out.len, HL.out]; exact hqn), List.append_nil]
      exact HU.out.1.mono B1.out.size
    have hltz : (i : Int) < (kk : Int) := by omega
    have hq0 : 0 < q := by omega
    obtain ⟨x, hx⟩ := K1.out.get (show i < m by omega)
    obtain ⟨db, doff, rfl, hdb, hdc⟩ := (K1.out.below BW.out).at_ (by omega)
    have c0 := hdc i x hx
    have hxf := HFit.out x (List.mem_of_getElem? hx)
    have CP := hid (fun W => place_any (w := W) (c := c') (A := A') x hq0 (by omega))
    obtain ⟨a, ha⟩ : ∃ a, a = x % q := ⟨_, rfl⟩
    rw [← ha] at CP
    have haq : a < q := by rw [ha]; exact Nat.mod_lt _ hq0
    obtain ⟨y, hy⟩ := HT.out.get haq
    have HX := hid (show chs t (r.drop i) = y :: chs (t.eraseIdx a) (r.drop (i + 1)) from by
      have h1 : r.drop i = x :: r.drop (i + 1) := by
        obtain ⟨h2, rfl⟩ := List.getElem?_eq_some_iff.1 hx
        exact List.drop_eq_getElem_cons h2
      have h3 : x % t.length = a := by rw [HT.out.len, ha]
      rw [h1, chs_cons (x := y) (by rw [h3]; exact hy), h3])
    obtain ⟨b, off, hA', hbB, hc⟩ := HT.out.at_ (by omega)
    obtain ⟨c1, c2⟩ := hc a y hy
    obtain ⟨y1, y2⟩ := y
    change wr.cell? ⟨b, off + a * 2, none⟩ = some (.int .i64 y1) at c1
    change wr.cell? ⟨b, off + a * 2 + 1, none⟩ = some (.int .i64 y2) at c2
    subst hA'
    have haz : (a : Int) < (q : Int) := by omega
    have HA := hid ha
    have HbB := hid hbB
    clear hdc hc hx hy ha hbB
    have hul : u.length ≤ 1000 := by have := HU.out.2; omega
    obtain ⟨A5, n5, c5, hv5, o5, _⟩ := od_lett HU.out.1
    subst hv5
    have HU5 := hid HU.out.2
    have HM := hid (heap_alloc_new wr (.cells #[.int .i64 y1, .int .i64 y2] 23))
    have HOd := hid (HU.out.1.below ((Below.refl wr.heap.size wr).alloc (Nat.le_refl _) (.cells #[.int .i64 y1, .int .i64 y2] 23)))
    have HBd := hid (BW.out.alloc BW.out.size (.cells #[.int .i64 y1, .int .i64 y2] 23))
    have HTd := hid (HT.out.below ((Below.refl wr.heap.size wr).alloc (Nat.le_refl _) (.cells #[.int .i64 y1, .int .i64 y2] 23)))
    have HBs := hid HBd.out.size
    have hqn1 := hid hqn
    clear hqn
    go_upto_region 11 with fail
    go_wp2_with fail
    refine (CP.out wr).mono ?_
    rintro e w9 ⟨rfl, rfl⟩
    go_upto_region 13 with (first | (at_builtin; refine list_appD rfl (.tmp 38) (.tmp 43) rfl (v := .slice A5 n5 c5) (B := w1.heap.size) (l := u) (r := [(y1, y2)]) rfl rfl HOd.out (ds_at HM.out) (by omega) HBs.out ?_; intro v34 w34 HTU) | fail)
    have HU1 := hid HTU.out.own
    have b34 := hid (HTU.out.below (fun k hk => (own_lt HOd.out k hk).1) HBs.out)
    have HNT := hid ((HTd.out.mono (by simp)).turn HTU.out HAp.out)
    have HV34 := hid (fun k (hk : v34.ownBlock = some k) => (own_lt HU1.out k hk).2)
    have HV35 := hid (show v34.ownBlock ≠ some b from fun e => by
      rcases HTU.out.at_ with h1 | h1
      · exact HAp.out _ rfl (h1.symm.trans e)
      · rw [e] at h1
        injection h1 with h1
        have := HbB.out
        have h2 := World.size_alloc w9 (.cells #[.int .i64 y1, .int .i64 y2] 23)
        omega)
    have BX := hid (HBd.out.trans b34.out)
    have CW := hid (without_any HNT.out (Nat.le_refl _) haq (by have := hqn1.out; omega))
    have hlen := hid HNT.out.len
    clear HTU HOd HTd HM b34 HT HU c1 c2 c0 hdb HBd HBs HAp CP HNT o5
    go_wp2_with fail
    refine CW.out.mono ?_
    rintro e w5 ⟨A4, n4, c4, rfl, h4⟩
    have D4 := hid h4.out.1
    have B4 := hid h4.out.2.1
    have O4 := hid h4.out.2.2
    have HN4 := hid (show n4 = n - (i + 1) from by
      have h1 := h4.out.1.len
      rw [List.length_eraseIdx, if_pos (by rw [hlen.out]; exact haq), hlen.out] at h1
      have := hqn1.out
      omega)
    have hc4 := h4.out.1.cap
    clear h4 CW
    go_wp2
    go_roundg (kk - (i + 1))
    case measure => omega
    case rel =>
      refine ⟨i + 1, n4, c4, A4, t.eraseIdx a, u ++ [(y1, y2)], by omega, by omega, by go_num, rfl, HN4.out, hc4, D4, hid (fun z hz e => ?_), hid ⟨HU1.out.below B4.out, by rw [List.length_append, List.length_singleton, HU5.out]⟩, hid (BX.out.trans (B4.out.mono BX.out.size)), hid ?_⟩
      · rcases O4.out z hz with ⟨y, hy, h1⟩ | h1
        · injection hy with hy
          subst hy
          exact HV35.out (by rw [e, h1])
        · have := HV34.out _ e
          omega
      · rw [HE.out, HX.out, List.append_assoc]
        rfl
theorem some_own : SomeOwn := fun _ o p _ _ _ _ _ _ _ _ _ _ h k hB hC => psome_any o p h k hB hC
end Go.Proofs.Ytdemhghflanncaa

