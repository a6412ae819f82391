/- slices.Clone over limbs; dyad.Twin. -/
/- Package mass: Twin. -/
/- Package mass: halved. -/
/- Package mass: pairs. -/
import Derived.Test.YtejngjhdmneaiaaVai
import Derived.Test.YtejngjhdmneaiaaMown
import Derived.Test.YtejngjhdmneaiaaVad

namespace Go.Proofs.Ytejngjhdmneaiaa
set_option maxRecDepth 100000
open Go.RowKit

set_option maxHeartbeats 1600000 in
theorem clone_nil (w : World) : Calls Try.prog 77 #[.slice none 0 0] w fun e w' => e = .returned (.slice none 0 0) ∧ w = w' := by
  have hnil : ∀ w, (binOp .eql 23 (.slice none 0 0) (.slice none 0 0)).run Try.prog w = .ok (.bool true) w := fun w => Lib.run_eql_slice_nil w 23 75 none 0 0 0 0 Try.underlying23
  go_enter Try.func77, Try.ntmps77
  go_wp2
  go_ret
  exact ⟨rfl, rfl⟩
set_option maxHeartbeats 1600000 in
theorem clone_some {p : Addr} {n c : Nat} {f : Nat → Nat} {w : World} (h : Rd w w.heap.size (some p) n c f) (hn : n ≤ 42) :
    Calls Try.prog 77 #[.slice (some p) n c] w fun e w' => ∃ A' c', e = .returned (.slice A' n c') ∧ Hid (Mk w' 75 w.heap.size A' n c' f) ∧ Hid (Below w.heap.size w w') := by
  have Hcells := hid (cells_of_rd h)
  have H := hid h
  have hm := h.max
  have hnil : ∀ w, (binOp .eql 23 (.slice (some p) n c) (.slice none 0 0)).run Try.prog w = .ok (.bool false) w := fun w => Lib.run_eql_slice_nil w 23 75 (some p) n c 0 0 Try.underlying23
  clear h
  go_enter Try.func77, Try.ntmps77
  go_wp2_with (at_builtin; refine wpList_append_copy rfl (.tmp 5) (.tmp 6) 23 rfl 75 (.int .u32 0) 4 Try.underlying23 info_u32 rfl (by decide) rfl rfl (by simp) (fun h => by cases h) Hcells.out (by simp; intros; subst_vars; rfl) (by omega) ?_; intro v1 w1 hown1 hbel1)
  go_ret
  obtain ⟨A1, c1, rfl, hr1⟩ := mk_of_row hown1.out hm H.out.lt H.out.out
  exact ⟨_, _, rfl, hr1, hbel1⟩
theorem clone_any {A : Option Addr} {n c : Nat} {f : Nat → Nat} {w : World} (h : Rd w w.heap.size A n c f) (hnil : A = none → n = 0 ∧ c = 0) (hn : n ≤ 42) :
    Calls Try.prog 77 #[.slice A n c] w fun e w' => ∃ A' c', e = .returned (.slice A' n c') ∧ Hid (Mk w' 75 w.heap.size A' n c' f) ∧ Hid (Below w.heap.size w w') := by
  cases A with
  | none =>
    obtain ⟨rfl, rfl⟩ := hnil rfl
    refine (clone_nil w).mono ?_
    rintro e w' ⟨rfl, rfl⟩
    exact ⟨_, _, rfl, ⟨Nat.le_refl _, by omega, h.lt, h.out, .inl ⟨rfl, rfl, rfl⟩⟩, Below.refl _ _⟩
  | some p => exact clone_some h hn

set_option maxHeartbeats 1600000 in
theorem dtwin_any {A : Option Addr} {n c : Nat} {f : Nat → Nat} {w : World} (h : Rd w w.heap.size A n c f) (hnil : A = none → n = 0 ∧ c = 0) (hn : n ≤ 42) (s : Bool) (x : Int) :
    Calls Try.prog 75 #[.agg #[.bool s, .slice A n c, .int .i64 x]] w fun e w' => ∃ A' c', e = .returned (.agg #[.bool s, .slice A' n c', .int .i64 x]) ∧ Hid (Mk w' 75 w.heap.size A' n c' f) ∧ Hid (Below w.heap.size w w') := by
  have B0 := hid (((Below.refl w.heap.size w).alloc (Nat.le_refl _) (.cells #[.bool s, .slice A n c, .int .i64 x] 25)).alloc (by simp) (.cells #[.bool false, .slice none 0 0, .int .i64 0] 25))
  have P1 : Hid (Dbox _ (w.heap.size + 1) false (.slice none 0 0) 0) := heap_alloc2_new w (.cells #[.bool s, .slice A n c, .int .i64 x] 25) (.cells #[.bool false, .slice none 0 0, .int .i64 0] 25)
  have P0 : Hid (Dbox _ w.heap.size s (.slice A n c) x) := (Below.heap_alloc _ (.cells #[.bool false, .slice none 0 0, .int .i64 0] 25) _ (by simp)).trans (heap_alloc_new w (.cells #[.bool s, .slice A n c, .int .i64 x] 25))
  obtain ⟨W, hW⟩ : ∃ W, W = (w.alloc (.cells #[.bool s, .slice A n c, .int .i64 x] 25)).alloc (.cells #[.bool false, .slice none 0 0, .int .i64 0] 25) := ⟨_, rfl⟩
  have HS : Hid (w.heap.size + 2 = W.heap.size) := by rw [hW]; simp [Hid]
  have HW := hid hW
  rw [← hW] at B0 P1 P0
  have CC := hid (clone_any ((h.below B0.out).mono B0.out.size) hnil hn)
  clear h hnil hW
  have a0 := P0.out.c0
  have a1 := P0.out.c1
  have a2 := P0.out.c2
  go_enter Try.func75, Try.ntmps75
  go_upto_region 1 with fail
  rw [← HW.out]
  go_wp2_with fail
  refine CC.out.mono ?_
  rintro e w1 ⟨A1, c1, rfl, hr1, hbel1⟩
  have P0 := hid (P0.out.below hbel1.out P0.out.lt)
  have P1 := hid (P1.out.below hbel1.out P1.out.lt)
  have B1 := hid (B0.out.trans (hbel1.out.mono B0.out.size))
  have M1 := hid ((hr1.out.far (g := w.heap.size) (by have := HS.out; omega) 1 (.slice A1 n c1)))
  have b1 := P0.out.frozen 1
  have b2 := P0.out.c1
  have P0 := hid (P0.out.set1 (.slice A1 n c1))
  have P1 := hid (P1.out.far (k := w.heap.size) (by omega) 1 (.slice A1 n c1))
  have B1 := hid (B1.out.setCell (p := ⟨w.heap.size, 1, none⟩) (Nat.le_refl _) (.slice A1 n c1))
  have g0 := P1.out.frozen 0
  have g1 := P1.out.frozen 1
  have g2 := P1.out.frozen 2
  have e0 := P1.out.c0
  have e1 := P1.out.c1
  have e2 := P1.out.c2
  have d0 := P0.out.c0
  have d1 := P0.out.c1
  have d2 := P0.out.c2
  clear a0 a1 a2 CC hbel1
  go_wp2
  refine ret_one rfl rfl rfl (P1.out.store (t := s) (u := .slice A1 n c1) (y := x)) ?_
  exact ⟨_, _, rfl, (M1.out.put3 (by have := HS.out; omega)).mono (by have := HS.out; omega), below_put3 B1.out (by omega)⟩

end Go.Proofs.Ytejngjhdmneaiaa


namespace Go.Proofs.Ytejngjhdmneaiaa
set_option maxRecDepth 100000
open Go.RowKit Go.Shelf
attribute [local go_sem] Oper.semAt_some

theorem fst4_pre {s : List (Idx 4)} (h : s.map (·.1) = fst 4) : s.length = 4 := by
  have e := congrArg List.length h
  rwa [List.length_map, fst_length] at e
/-- What the loop keeps: the parts that were gone through are twins. -/
def TwI (w : World) (M : Nat → Dy) (Z : Nat) (pre : List (Idx 4)) (X : World) : Prop :=
  Mbox X (w.heap.size + 1) D0 ∧ Below w.heap.size w X ∧ ∃ R, Mbox X w.heap.size R ∧ (∀ k, k < 4 → k < pre.length → Twd Z X (M k) (R k)) ∧ ∀ k, k < 4 → ¬ k < pre.length → R k = M k

theorem mcells_at {w : World} {g : Nat} {M : Nat → Dy} (h : Mbox w g M) {k : Nat} (hk : k < 4) {m : Dy} (hm : M k = m) : w.cell? ⟨g, 3 * k, none⟩ = some (.bool m.s) ∧ w.cell? ⟨g, 3 * k + 1, none⟩ = some (.slice m.A m.n m.c) ∧ w.cell? ⟨g, 3 * k + 2, none⟩ = some (.int .i64 m.x) := by
  subst hm
  exact h.cell hk

set_option maxRecDepth 100000 in
set_option maxHeartbeats 4000000 in
theorem mtwin_any {w : World} {M : Nat → Dy} (h : Mrd w w.heap.size M) (hnil : ∀ k, k < 4 → (M k).A = none → (M k).n = 0 ∧ (M k).c = 0) (hn : ∀ k, k < 4 → (M k).n ≤ 42) :
    Calls Try.prog 72 #[.agg (mcells M)] w fun e w' => ∃ R, e = .returned (.agg (mcells R)) ∧ Hid (∀ k, k < 4 → Twd w.heap.size w' (M k) (R k)) ∧ Hid (Below w.heap.size w w') := by
  obtain ⟨W, hW⟩ : ∃ W, W = (w.alloc (.cells (mcells M) 27)).alloc (.cells #[.bool false, .slice none 0 0, .int .i64 0, .bool false, .slice none 0 0, .int .i64 0, .bool false, .slice none 0 0, .int .i64 0, .bool false, .slice none 0 0, .int .i64 0] 27) := ⟨_, rfl⟩
  have B0 := hid (show Below w.heap.size w W from hW ▸ ((Below.refl _ w).alloc (Nat.le_refl _) _).alloc (by simp) _)
  have P0 : Hid (Mbox W w.heap.size M) := hid (hW ▸ Mbox.alloc (show Mbox (w.alloc _) w.heap.size M from heap_alloc_new w _) _)
  have P1 : Hid (Mbox W (w.heap.size + 1) D0) := hid (hW ▸ (show Mbox _ (w.heap.size + 1) D0 from heap_alloc2_new w _ _))
  have HR := hid h
  have HW := hid hW
  have HN := hid hnil
  have Hn := hid hn
  clear hW h hnil hn
  refine (callsIn_wide (n := 9)).1 ?_
  refine callsIn_of_wp_marks Try.func72 rfl trivial (wpIn_wide.2 ?_) rfl
  simp only [Try.ntmps72, List.size_toArray, List.length_cons, List.length_nil, Nat.reduceAdd, Nat.reduceSub, Array.replicate_succ, Array.replicate_zero, List.push_toArray, List.append_toArray, List.nil_append, List.cons_append]
  go_upto_region 1 with fail
  rw [← HW.out]
  go_wp2_with fail
  refine (callsIn_wide.1 (parts_any 9 w.heap.size W)).mono ?_
  rintro e W1 ⟨rfl, hW1⟩
  have bS : Boxed W1 W.heap.size 81 (.pointer (some ⟨w.heap.size, 0, none⟩)) := by rw [hW1]; exact heap_alloc_new W _
  have B1 : Below W.heap.size W W1 := by rw [hW1]; exact (Below.refl _ W).alloc (Nat.le_refl _) _
  have hsz : w.heap.size + 2 = W.heap.size := by rw [HW.out]; simp
  have Q0 := hid (P0.out.below B1 P0.out.lt)
  have Q1 := hid (P1.out.below B1 P1.out.lt)
  have hs1 : W.heap.size + 1 = W1.heap.size := by rw [hW1]; simp
  have Hsz := hid hsz
  have Hs1 := hid hs1
  have HB1 := hid (B0.out.trans (B1.mono (by omega)))
  have HbS := hid bS
  have hI0 : TwI w M (W1.heap.size + 2) [] W1 := ⟨Q1.out, HB1.out, M, Q0.out, fun k _ hk => absurd hk (Nat.not_lt_zero _), fun _ _ _ => rfl⟩
  clear hW1 B1 bS hsz hs1
  go_wp2_with fail
  refine wpIn_wide.1 (range_overG (F := Fence.wide) (n := 9) (gf := 67) rfl (by omega) rfl trivial (enters_of Try.func67 (by kernel_rfl) rfl) (K := fun b => b = W.heap.size) (g := W.heap.size) rfl (fun b hb => by have := Hs1.out; have hb2 : b = W.heap.size := hb; omega)
    (parts_comesG 8 (by omega) HbS.out.cell HbS.out.lt) (fun _ => rfl) (TwI w M (W1.heap.size + 2)) (fun _ _ => False)
    ?keep (fun s X Y r h hg hr => h)
    (fun s X Y r h _ _ => h) hI0 ?a1 ?assign ?body ?done ?stop)
  case keep =>
    rintro s X Y r ⟨h1, h2, R, h3, h4, h5⟩ hg hr
    have a1 := Hsz.out
    have a2 := Hs1.out
    have a3 := h3.lt
    exact ⟨h1.grown hg (by omega), below_row h2 hg h2.size (by omega), R, h3.grown hg (by omega), fun k hk hk2 => (h4 k hk hk2).grown hg (by omega), h5⟩
  case assign =>
    intro l x W K hK
    gi_wp2
    exact hK
  case body =>
    intro l pre x Wx hpre hZ hI
    obtain ⟨k, hk⟩ := x
    obtain ⟨hkl, -⟩ := hpre.front
    dsimp only at hkl
    obtain ⟨hQ, hB, R, hR, hT, hS⟩ := hI
    have hRk := hS k hk (by omega)
    have HQ := hid hQ
    have HB := hid hB
    have HRb := hid hR
    have HT := hid hT
    have HS := hid hS
    have HZ := hid hZ
    have Hk := hid hk
    have Hkl := hid hkl
    have hr := (((HR.out k hk).below hB).mono hB.size)
    have hn := HN.out k hk
    have hm := Hn.out k hk
    obtain ⟨m, hmm⟩ : ∃ m, m = M k := ⟨_, rfl⟩
    rw [← hmm] at hr hn hm
    obtain ⟨y0, y1, y2⟩ := mcells_at hR hk (hRk.trans hmm.symm)
    have Hm := hid hmm
    clear hmm hB hR hT hS hQ hI0 hZ hkl hRk hpre
    obtain ⟨s, A, n, c, xx, f⟩ := m
    dsimp only at y0 y1 y2 hr hn hm
    have CC := hid (dtwin_any hr hn hm s xx)
    have Hs := hid (hr.max)
    clear hr hn hm
    unfold pptr
    gi_wp2_with fail
    refine ⟨trivial, ?_⟩
    refine (CallsIn.inRound l (callsIn_wide.2 CC.out)).mono ?_
    rintro e Wy ⟨A1, c1, rfl, hmk, hbel⟩
    have Ry := hid (HRb.out.below hbel.out HRb.out.lt)
    obtain ⟨z0, z1, z2⟩ := Ry.out.cell Hk.out
    have g0 := Ry.out.frozen (3 * k)
    have g1 := Ry.out.frozen (3 * k + 1)
    have g2 := Ry.out.frozen (3 * k + 2)
    clear y0 y1 y2
    gi_wp2
    show KeepsFrom _ _ (mput Wy w.heap.size k ⟨s, A1, n, c1, xx, f⟩) ∧ Kb _ _ (mput Wy w.heap.size k ⟨s, A1, n, c1, xx, f⟩) ∧ TwI w M _ _ (mput Wy w.heap.size k ⟨s, A1, n, c1, xx, f⟩)
    refine ⟨keeps_mput (keeps_below hbel.out), (kb_below hbel.out ?kb).mput ?n1, ?inv⟩
    case kb => intro b hb; have hb2 : b = W.heap.size := hb; have := Hs1.out; have := HZ.out; omega
    case n1 => intro hb; have hb2 : w.heap.size = W.heap.size := hb; have := Hsz.out; omega
    case inv =>
      have e1 := Hsz.out
      have e2 := Hs1.out
      have e3 := HZ.out
      have e4 := Hkl.out
      refine ⟨(HQ.out.below hbel.out HQ.out.lt).mput_far (k := k) (d := ⟨s, A1, n, c1, xx, f⟩) (by omega), below_mput (k := k) (d := ⟨s, A1, n, c1, xx, f⟩) (HB.out.trans (hbel.out.mono HB.out.size)) (Nat.le_refl _), updD R k ⟨s, A1, n, c1, xx, f⟩, Ry.out.put Hk.out ⟨s, A1, n, c1, xx, f⟩, fun j hj hj2 => ?_, fun j hj hj2 => ?_⟩
      · rw [List.length_append, List.length_singleton] at hj2
        by_cases hjk : j = k
        · subst hjk
          rw [updD_same, ← Hm.out]
          exact ⟨(hmk.out.mono (by omega)).mput (by omega), rfl, rfl, rfl, rfl⟩
        · rw [updD_ne _ _ hjk]
          exact ((HT.out j hj (by omega)).below hbel.out).mput (by omega)
      · rw [List.length_append, List.length_singleton] at hj2
        rw [updD_ne _ _ (by omega)]
        exact HS.out j hj (by omega)
  case done =>
    rintro D ys Wx hD hys ⟨hQ, hB, R, hR, hT, hS⟩ hK
    have e1 := Hsz.out
    have e2 := Hs1.out
    have hl := fst4_pre hys
    have HP := hid hR
    have HQ := hid hQ
    have g1 := grown_mstore Wx (w.heap.size + 1) R
    have hK' := (g1.block D (lt_of_heap hK) (by intro e; injection e with e; omega)).trans hK
    have g2 := grownBy_putObj' (mstore Wx (w.heap.size + 1) R) D (.deferred none)
    have HF := hid (show Mbox ((mstore Wx (w.heap.size + 1) R).putObj D (.deferred none)) (w.heap.size + 1) R from (hQ.store R).grown g2 (by omega))
    have HB2 := hid (below_row (below_row hB g1 hB.size (by omega)) g2 (Nat.le_trans hB.size g1.size) (by omega))
    have HT2 := hid (show ∀ k, k < 4 → Twd w.heap.size ((mstore Wx (w.heap.size + 1) R).putObj D (.deferred none)) (M k) (R k) from fun k hk => (((hT k hk (by omega)).grown g1 (by omega)).grown g2 (by omega)).mono (by omega))
    have HK := hid hK'
    clear e1 e2 hl hR hQ hB hT hS hK g1 g2 hK' hI0
    go_wp2_with (first
      | (with_reducible refine wp_mload rfl (.tmp 1) rfl w.heap.size R rfl HP.out ?_)
      | (with_reducible refine wp_mstore rfl (.tmp 2) (.tmp 12) rfl (w.heap.size + 1) D0 R rfl rfl HQ.out ?_)
      | fail)
    refine ⟨by simp, .inl ⟨_, _, rfl, run_takeDeferred HK.out, ?_⟩⟩
    exact ⟨_, mass_cell rfl _ _ (w.heap.size + 1) R rfl HF.out, R, rfl, HT2, HB2⟩
  case stop =>
    rintro D pre Wx hD _ h hK
    exact h.elim

end Go.Proofs.Ytejngjhdmneaiaa


namespace Go.Proofs.Ytejngjhdmneaiaa
set_option maxRecDepth 100000
open Go.RowKit Go.Shelf
attribute [local go_sem] Oper.semAt_some

/-- What the loop keeps: the parts that were gone through are halves; and where it returns. -/
def HaI (w : World) (H : Nat → Int) (D : Nat → Dy) (Z : Nat) (pre : List (Idx 4)) (X : World) : Prop :=
  Mbox X (w.heap.size + 1) D0 ∧ Boxed X (w.heap.size + 2) 32 (.int .i64 0) ∧ Below w.heap.size w X ∧
    ∃ R, Mbox X w.heap.size R ∧ (∀ k, k < 4 → k < pre.length → Owd Z X (H k) (R k) ∧ Okay (H k)) ∧ ∀ k, k < 4 → ¬ k < pre.length → R k = D k
def HaX (w : World) (H : Nat → Int) (X : World) : Prop := Mbox X (w.heap.size + 1) D0 ∧ Boxed X (w.heap.size + 2) 32 (.int .i64 10) ∧ Below w.heap.size w X ∧ ∃ k, k < 4 ∧ ¬ Okay (H k)

end Go.Proofs.Ytejngjhdmneaiaa


namespace Go.Proofs.Ytejngjhdmneaiaa
set_option maxRecDepth 100000
open Go.RowKit Go.Shelf
attribute [local go_sem] Oper.semAt_some

set_option maxRecDepth 100000 in
set_option maxHeartbeats 4000000 in
theorem pairs1_in (n : Nat) (hn : 1 ≤ n) (l Bs Bt g h : Nat) (R : World → World → Prop) (J Jx : List (Idx 4) → World → Prop)
    (hdr : ∀ W W' m, R W W' → R W (W'.drewN m)) (htr : ∀ W W' W'', R W W' → R W' W'' → R W W'')
    (hRa : ∀ W W' o, R W W' → R W (W'.alloc o)) (hJa : ∀ pre W o, J pre W → J pre (W.alloc o))
    (hJd : ∀ pre W m, J pre W → J pre (W.drewN m))
    (hY : ∀ pre x W, J pre W → Pre4 (pre ++ [x]) → YieldAt Fence.wide (n - 1) Try.prog l #[pptr g x.1, pptr h x.1] W fun e W' =>
      (e = .returned (.bool true) ∧ J (pre ++ [x]) W' ∧ R W W') ∨ (e = .returned (.bool false) ∧ Jx (pre ++ [x]) W'))
    (W : World) (hR0 : R W W) (hBs : W.cell? ⟨Bs, 0, none⟩ = some (.pointer (some ⟨g, 0, none⟩))) (hBt : W.cell? ⟨Bt, 0, none⟩ = some (.pointer (some ⟨h, 0, none⟩))) (h0 : J [] W) :
    CallsIn Fence.wide n Try.prog 65 #[.func (.yield l) #[] #[], .pointer (some ⟨Bs, 0, none⟩), .pointer (some ⟨Bt, 0, none⟩)] W fun e W' => (∃ v, e = .returned v) ∧
      ((∃ ys : List (Idx 4), ys.map (·.1) = fst 4 ∧ J ys W') ∨ (∃ pre : List (Idx 4), (∃ k, k ≤ 4 ∧ pre.map (·.1) = fst k) ∧ Jx pre W')) := by
  have i0 : ∀ w : World, (Instr.index 97 (.agg #[.pointer (some ⟨g, 0, none⟩), .pointer (some ⟨h, 0, none⟩), .pointer (some ⟨g, 3, none⟩), .pointer (some ⟨h, 3, none⟩), .pointer (some ⟨g, 6, none⟩), .pointer (some ⟨h, 6, none⟩), .pointer (some ⟨g, 9, none⟩), .pointer (some ⟨h, 9, none⟩)]) (.int .i64 0)).run Try.prog w = .ok (.agg #[.pointer (some ⟨g, 0, none⟩), .pointer (some ⟨h, 0, none⟩)]) w := fun _ => by kernel_rfl
  have i1 : ∀ w : World, (Instr.index 97 (.agg #[.pointer (some ⟨g, 0, none⟩), .pointer (some ⟨h, 0, none⟩), .pointer (some ⟨g, 3, none⟩), .pointer (some ⟨h, 3, none⟩), .pointer (some ⟨g, 6, none⟩), .pointer (some ⟨h, 6, none⟩), .pointer (some ⟨g, 9, none⟩), .pointer (some ⟨h, 9, none⟩)]) (.int .i64 1)).run Try.prog w = .ok (.agg #[.pointer (some ⟨g, 3, none⟩), .pointer (some ⟨h, 3, none⟩)]) w := fun _ => by kernel_rfl
  have i2 : ∀ w : World, (Instr.index 97 (.agg #[.pointer (some ⟨g, 0, none⟩), .pointer (some ⟨h, 0, none⟩), .pointer (some ⟨g, 3, none⟩), .pointer (some ⟨h, 3, none⟩), .pointer (some ⟨g, 6, none⟩), .pointer (some ⟨h, 6, none⟩), .pointer (some ⟨g, 9, none⟩), .pointer (some ⟨h, 9, none⟩)]) (.int .i64 2)).run Try.prog w = .ok (.agg #[.pointer (some ⟨g, 6, none⟩), .pointer (some ⟨h, 6, none⟩)]) w := fun _ => by kernel_rfl
  have i3 : ∀ w : World, (Instr.index 97 (.agg #[.pointer (some ⟨g, 0, none⟩), .pointer (some ⟨h, 0, none⟩), .pointer (some ⟨g, 3, none⟩), .pointer (some ⟨h, 3, none⟩), .pointer (some ⟨g, 6, none⟩), .pointer (some ⟨h, 6, none⟩), .pointer (some ⟨g, 9, none⟩), .pointer (some ⟨h, 9, none⟩)]) (.int .i64 3)).run Try.prog w = .ok (.agg #[.pointer (some ⟨g, 9, none⟩), .pointer (some ⟨h, 9, none⟩)]) w := fun _ => by kernel_rfl
  refine callsIn_of_wp Try.func65 rfl trivial ?_ rfl
  simp only [Try.ntmps65, List.size_toArray, List.length_cons, List.length_nil, Nat.reduceAdd, Nat.reduceSub, Array.replicate_succ, Array.replicate_zero, List.push_toArray, List.append_toArray, List.nil_append, List.cons_append]
  gi_wp2
  gi_quiet (fail)
  gi_wp2
  gi_loopw [35] (fun i wr => ∃ (k : Nat) (pre : List (Idx 4)), k ≤ 4 ∧ i = .int .i64 (k : Int) ∧ pre.map (·.1) = fst k ∧ J pre wr ∧ R W wr)
    (fun i _ => 4 - (intOf i).toNat)
  case atStart => exact ⟨0, [], by omega, rfl, rfl, hJd _ _ _ h0, hdr _ _ _ hR0⟩
  case round =>
    obtain ⟨k, pre, hk, rfl, hpre, hJs, hRr⟩ := hrel
    by_cases hk4 : k < 4
    · have hk1 : k + 1 ≤ 4 := by omega
      have hb : (pre ++ [(⟨k, hk4⟩ : Idx 4)]).map (·.1) = fst (k + 1) := by
        unfold fst at hpre ⊢
        rw [List.map_append, hpre, upto_succ]
        rfl
      obtain ⟨fn, tmps, assign, body, hy, hR⟩ := hY pre ⟨k, hk4⟩ (wr.alloc (.cells #[pptr g k, pptr h k] 96)) (hJa _ _ _ hJs) (pre4_of hb)
      dsimp only at hy
      unfold pptr at hy
      have hc : k = 0 ∨ k = 1 ∨ k = 2 ∨ k = 3 := by omega
      rcases hc with rfl | rfl | rfl | rfl
      all_goals
        simp only [Nat.mul_zero, Nat.mul_one, Nat.reduceMul] at hy
        gi_wp2
        refine hR.mono ?_
        rintro e W3 (⟨rfl, hJ3, hR3⟩ | ⟨rfl, hJx3⟩)
        · gi_wp2
          go_roundw
          case rel => exact ⟨_, _, hk1, rfl, hb, hJ3, htr _ _ _ (hRa _ _ _ hRr) hR3⟩
          case measure => simp [intOf]
        · gi_wp2
          refine bodyPost_ret (results_none rfl _ _ _) rfl ?_
          exact ⟨⟨_, rfl⟩, .inr ⟨_, ⟨_, hk1, hb⟩, hJx3⟩⟩
    · obtain rfl : k = 4 := by omega
      gi_wp2
      go_end0
      exact ⟨⟨_, rfl⟩, .inl ⟨_, hpre, hJs⟩⟩


/-- pairs$1, as the law of a loop over an iterator wants it. -/
theorem pairs_comes (n : Nat) (hn : 1 ≤ n) {Bs Bt g h : Nat} {K : Nat → Prop} {w : World} (hBs : w.cell? ⟨Bs, 0, none⟩ = some (.pointer (some ⟨g, 0, none⟩))) (hBt : w.cell? ⟨Bt, 0, none⟩ = some (.pointer (some ⟨h, 0, none⟩))) (hlt : Bs < w.heap.size) (hlt2 : Bt < w.heap.size) (hKw : ∀ b, K b → b < w.heap.size) :
    Comes Fence.wide n Try.prog 65 #[.pointer (some ⟨Bs, 0, none⟩), .pointer (some ⟨Bt, 0, none⟩)] (fun x : Idx 4 => #[pptr g x.1, pptr h x.1]) K Bs (fun ys _ => ys.map (·.1) = fst 4) (fun pre => ∃ k, k ≤ 4 ∧ pre.map (·.1) = fst k) w := by
  intro l J Jx W hW hJg hY h0
  refine pairs1_in n hn l Bs Bt g h (fun X Y => w.heap.size ≤ X.heap.size → Kb K X Y) J Jx (fun X Y m k hX => ⟨(k hX).size, (k hX).block⟩) (fun X Y Z k1 k2 hX => (k1 hX).trans (k2 (Nat.le_trans hX (k1 hX).size)))
    (fun X Y o k hX => ⟨Nat.le_trans (k hX).size (by simp), fun b hb => (Below.heap_alloc Y o b (Nat.lt_of_lt_of_le (hKw b hb) (Nat.le_trans hX (k hX).size))).trans ((k hX).block b hb)⟩) (fun pre X o k => hJg _ _ _ k (World.grownBy_alloc X o _)) (fun pre X m k => hJg _ _ _ k (grownBy_drewN X m _))
    (fun pre x X k _ => ?_) W (fun _ => Kb.refl K W) ((hW.cell (p := ⟨Bs, 0, none⟩) hlt).trans hBs) ((hW.cell (p := ⟨Bt, 0, none⟩) hlt2).trans hBt) h0
  obtain ⟨fn, tmps, assign, body, hy, hR⟩ := hY pre x X k
  refine ⟨fn, tmps, assign, body, hy, hR.mono ?_⟩
  rintro e Y (⟨h1, h2, h3⟩ | h4)
  · exact .inl ⟨h1, h2, fun _ => h3⟩
  · exact .inr h4

/-- pairs$1, as XMover's law of a loop wants it. -/
theorem pairs_comesG (n : Nat) (hn : 1 ≤ n) {Bs Bt g h : Nat} {K : Nat → Prop} {w : World} (hBs : w.cell? ⟨Bs, 0, none⟩ = some (.pointer (some ⟨g, 0, none⟩))) (hBt : w.cell? ⟨Bt, 0, none⟩ = some (.pointer (some ⟨h, 0, none⟩))) (hlt : Bs < w.heap.size) (hlt2 : Bt < w.heap.size) (hKw : ∀ b, K b → b < w.heap.size) :
    ComesG Fence.wide n Try.prog 65 #[.pointer (some ⟨Bs, 0, none⟩), .pointer (some ⟨Bt, 0, none⟩)] (fun x : Idx 4 => #[pptr g x.1, pptr h x.1]) K Bs Pre4 (fun ys _ => ys.map (·.1) = fst 4) (fun pre => ∃ k, k ≤ 4 ∧ pre.map (·.1) = fst k) w := by
  intro l J Jx W hW hJg hY h0
  refine pairs1_in n hn l Bs Bt g h (fun X Y => w.heap.size ≤ X.heap.size → Kb K X Y) J Jx (fun X Y m k hX => ⟨(k hX).size, (k hX).block⟩) (fun X Y Z k1 k2 hX => (k1 hX).trans (k2 (Nat.le_trans hX (k1 hX).size)))
    (fun X Y o k hX => ⟨Nat.le_trans (k hX).size (by simp), fun b hb => (Below.heap_alloc Y o b (Nat.lt_of_lt_of_le (hKw b hb) (Nat.le_trans hX (k hX).size))).trans ((k hX).block b hb)⟩) (fun pre X o k => hJg _ _ _ k (World.grownBy_alloc X o _)) (fun pre X m k => hJg _ _ _ k (grownBy_drewN X m _))
    (fun pre x X k hg => ?_) W (fun _ => Kb.refl K W) ((hW.cell (p := ⟨Bs, 0, none⟩) hlt).trans hBs) ((hW.cell (p := ⟨Bt, 0, none⟩) hlt2).trans hBt) h0
  obtain ⟨fn, tmps, assign, body, hy, hR⟩ := hY pre x X hg k
  refine ⟨fn, tmps, assign, body, hy, hR.mono ?_⟩
  rintro e Y (⟨h1, h2, h3⟩ | h4)
  · exact .inl ⟨h1, h2, fun _ => h3⟩
  · exact .inr h4

set_option maxHeartbeats 1000000 in
theorem pairs_any (n : Nat) (g h : Nat) (w : World) :
    CallsIn Fence.wide n Try.prog 48 #[.pointer (some ⟨g, 0, none⟩), .pointer (some ⟨h, 0, none⟩)] w fun e w' => e = .returned (.func (.func 65) #[] #[.pointer (some ⟨w.heap.size, 0, none⟩), .pointer (some ⟨w.heap.size + 1, 0, none⟩)]) ∧ w' = (w.alloc (.cells #[.pointer (some ⟨g, 0, none⟩)] 81)).alloc (.cells #[.pointer (some ⟨h, 0, none⟩)] 81) := by
  refine callsIn_of_wp Try.func48 rfl trivial ?_ rfl
  simp only [Try.ntmps48, List.size_toArray, List.length_cons, List.length_nil, Nat.reduceAdd, Nat.reduceSub, Array.replicate_succ, Array.replicate_zero, List.push_toArray, List.append_toArray, List.nil_append, List.cons_append]
  gi_wp2
  go_ret
  exact ⟨rfl, rfl⟩

end Go.Proofs.Ytejngjhdmneaiaa

