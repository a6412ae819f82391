/- slices.Clone over limbs; dyad.Twin. -/
/- Package mass: Twin. -/
/- Package mass: halved. -/
/- Package mass: pairs. -/
/- Package mass: joined, over dyad.Add and over dyad.Sub. -/
/- Package mass: Same. -/
/- Package mass: Add, Sub. -/
/- Package mass: Split. -/
import Derived.Test.YtdcolnipdipkhaaVah
import Derived.Test.YtdcolnipdipkhaaMown
import Derived.Test.YtdcolnipdipkhaaVad

namespace Go.Proofs.Ytdcolnipdipkhaa
set_option maxRecDepth 100000
open Go.RowKit

set_option maxHeartbeats 1600000 in
theorem clone_nil (w : World) : Calls Try.prog 59 #[.slice none 0 0] w fun e w' => e = .returned (.slice none 0 0) ∧ w = w' := by
  have hnil : ∀ w, (binOp .eql 23 (.slice none 0 0) (.slice none 0 0)).run Try.prog w = .ok (.bool true) w := fun w => Lib.run_eql_slice_nil w 23 70 none 0 0 0 0 Try.underlying23
  go_enter Try.func59, Try.ntmps59
  go_wp2
  go_ret
  exact ⟨rfl, rfl⟩
set_option maxHeartbeats 1600000 in
theorem clone_some {p : Addr} {n c : Nat} {f : Nat → Nat} {w : World} (h : Rd w w.heap.size (some p) n c f) (hn : n ≤ 42) :
    Calls Try.prog 59 #[.slice (some p) n c] w fun e w' => ∃ A' c', e = .returned (.slice A' n c') ∧ Hid (Mk w' 70 w.heap.size A' n c' f) ∧ Hid (Below w.heap.size w w') := by
  have Hcells := hid (cells_of_rd h)
  have H := hid h
  have hm := h.max
  have hnil : ∀ w, (binOp .eql 23 (.slice (some p) n c) (.slice none 0 0)).run Try.prog w = .ok (.bool false) w := fun w => Lib.run_eql_slice_nil w 23 70 (some p) n c 0 0 Try.underlying23
  clear h
  go_enter Try.func59, Try.ntmps59
  go_wp2_with (at_builtin; refine wpList_append_copy rfl (.tmp 5) (.tmp 6) 23 rfl 70 (.int .u32 0) 4 Try.underlying23 info_u32 rfl (by decide) rfl rfl (by simp) (fun h => by cases h) Hcells.out (by simp; intros; subst_vars; rfl) (by omega) ?_; intro v1 w1 hown1 hbel1)
  go_ret
  obtain ⟨A1, c1, rfl, hr1⟩ := mk_of_row hown1.out hm H.out.lt H.out.out
  exact ⟨_, _, rfl, hr1, hbel1⟩
theorem clone_any {A : Option Addr} {n c : Nat} {f : Nat → Nat} {w : World} (h : Rd w w.heap.size A n c f) (hnil : A = none → n = 0 ∧ c = 0) (hn : n ≤ 42) :
    Calls Try.prog 59 #[.slice A n c] w fun e w' => ∃ A' c', e = .returned (.slice A' n c') ∧ Hid (Mk w' 70 w.heap.size A' n c' f) ∧ Hid (Below w.heap.size w w') := by
  cases A with
  | none =>
    obtain ⟨rfl, rfl⟩ := hnil rfl
    refine (clone_nil w).mono ?_
    rintro e w' ⟨rfl, rfl⟩
    exact ⟨_, _, rfl, ⟨Nat.le_refl _, by omega, h.lt, h.out, .inl ⟨rfl, rfl, rfl⟩⟩, Below.refl _ _⟩
  | some p => exact clone_some h hn

set_option maxHeartbeats 1600000 in
theorem dtwin_any {A : Option Addr} {n c : Nat} {f : Nat → Nat} {w : World} (h : Rd w w.heap.size A n c f) (hnil : A = none → n = 0 ∧ c = 0) (hn : n ≤ 42) (s : Bool) (x : Int) :
    Calls Try.prog 58 #[.agg #[.bool s, .slice A n c, .int .i64 x]] w fun e w' => ∃ A' c', e = .returned (.agg #[.bool s, .slice A' n c', .int .i64 x]) ∧ Hid (Mk w' 70 w.heap.size A' n c' f) ∧ Hid (Below w.heap.size w w') := by
  have B0 := hid (((Below.refl w.heap.size w).alloc (Nat.le_refl _) (.cells #[.bool s, .slice A n c, .int .i64 x] 25)).alloc (by simp) (.cells #[.bool false, .slice none 0 0, .int .i64 0] 25))
  have P1 : Hid (Dbox _ (w.heap.size + 1) false (.slice none 0 0) 0) := heap_alloc2_new w (.cells #[.bool s, .slice A n c, .int .i64 x] 25) (.cells #[.bool false, .slice none 0 0, .int .i64 0] 25)
  have P0 : Hid (Dbox _ w.heap.size s (.slice A n c) x) := (Below.heap_alloc _ (.cells #[.bool false, .slice none 0 0, .int .i64 0] 25) _ (by simp)).trans (heap_alloc_new w (.cells #[.bool s, .slice A n c, .int .i64 x] 25))
  obtain ⟨W, hW⟩ : ∃ W, W = (w.alloc (.cells #[.bool s, .slice A n c, .int .i64 x] 25)).alloc (.cells #[.bool false, .slice none 0 0, .int .i64 0] 25) := ⟨_, rfl⟩
  have HS : Hid (w.heap.size + 2 = W.heap.size) := by rw [hW]; simp [Hid]
  have HW := hid hW
  rw [← hW] at B0 P1 P0
  have CC := hid (clone_any ((h.below B0.out).mono B0.out.size) hnil hn)
  clear h hnil hW
  have a0 := P0.out.c0
  have a1 := P0.out.c1
  have a2 := P0.out.c2
  go_enter Try.func58, Try.ntmps58
  go_upto_region 1 with fail
  rw [← HW.out]
  go_wp2_with fail
  refine CC.out.mono ?_
  rintro e w1 ⟨A1, c1, rfl, hr1, hbel1⟩
  have P0 := hid (P0.out.below hbel1.out P0.out.lt)
  have P1 := hid (P1.out.below hbel1.out P1.out.lt)
  have B1 := hid (B0.out.trans (hbel1.out.mono B0.out.size))
  have M1 := hid ((hr1.out.far (g := w.heap.size) (by have := HS.out; omega) 1 (.slice A1 n c1)))
  have b1 := P0.out.frozen 1
  have b2 := P0.out.c1
  have P0 := hid (P0.out.set1 (.slice A1 n c1))
  have P1 := hid (P1.out.far (k := w.heap.size) (by omega) 1 (.slice A1 n c1))
  have B1 := hid (B1.out.setCell (p := ⟨w.heap.size, 1, none⟩) (Nat.le_refl _) (.slice A1 n c1))
  have g0 := P1.out.frozen 0
  have g1 := P1.out.frozen 1
  have g2 := P1.out.frozen 2
  have e0 := P1.out.c0
  have e1 := P1.out.c1
  have e2 := P1.out.c2
  have d0 := P0.out.c0
  have d1 := P0.out.c1
  have d2 := P0.out.c2
  clear a0 a1 a2 CC hbel1
  go_wp2
  refine ret_one rfl rfl rfl (P1.out.store (t := s) (u := .slice A1 n c1) (y := x)) ?_
  exact ⟨_, _, rfl, (M1.out.put3 (by have := HS.out; omega)).mono (by have := HS.out; omega), below_put3 B1.out (by omega)⟩

end Go.Proofs.Ytdcolnipdipkhaa


namespace Go.Proofs.Ytdcolnipdipkhaa
set_option maxRecDepth 100000
open Go.RowKit Go.Shelf
attribute [local go_sem] Oper.semAt_some

theorem fst4_pre {s : List (Idx 4)} (h : s.map (·.1) = fst 4) : s.length = 4 := by
  have e := congrArg List.length h
  rwa [List.length_map, fst_length] at e
/-- What the loop keeps: the parts that were gone through are twins. -/
def TwI (w : World) (M : Nat → Dy) (Z : Nat) (pre : List (Idx 4)) (X : World) : Prop :=
  Mbox X (w.heap.size + 1) D0 ∧ Below w.heap.size w X ∧ ∃ R, Mbox X w.heap.size R ∧ (∀ k, k < 4 → k < pre.length → Twd Z X (M k) (R k)) ∧ ∀ k, k < 4 → ¬ k < pre.length → R k = M k

theorem mcells_at {w : World} {g : Nat} {M : Nat → Dy} (h : Mbox w g M) {k : Nat} (hk : k < 4) {m : Dy} (hm : M k = m) : w.cell? ⟨g, 3 * k, none⟩ = some (.bool m.s) ∧ w.cell? ⟨g, 3 * k + 1, none⟩ = some (.slice m.A m.n m.c) ∧ w.cell? ⟨g, 3 * k + 2, none⟩ = some (.int .i64 m.x) := by
  subst hm
  exact h.cell hk

set_option maxRecDepth 100000 in
set_option maxHeartbeats 4000000 in
theorem mtwin_any {w : World} {M : Nat → Dy} (h : Mrd w w.heap.size M) (hnil : ∀ k, k < 4 → (M k).A = none → (M k).n = 0 ∧ (M k).c = 0) (hn : ∀ k, k < 4 → (M k).n ≤ 42) :
    Calls Try.prog 57 #[.agg (mcells M)] w fun e w' => ∃ R, e = .returned (.agg (mcells R)) ∧ Hid (∀ k, k < 4 → Twd w.heap.size w' (M k) (R k)) ∧ Hid (Below w.heap.size w w') := by
  obtain ⟨W, hW⟩ : ∃ W, W = (w.alloc (.cells (mcells M) 27)).alloc (.cells #[.bool false, .slice none 0 0, .int .i64 0, .bool false, .slice none 0 0, .int .i64 0, .bool false, .slice none 0 0, .int .i64 0, .bool false, .slice none 0 0, .int .i64 0] 27) := ⟨_, rfl⟩
  have B0 := hid (show Below w.heap.size w W from hW ▸ ((Below.refl _ w).alloc (Nat.le_refl _) _).alloc (by simp) _)
  have P0 : Hid (Mbox W w.heap.size M) := hid (hW ▸ Mbox.alloc (show Mbox (w.alloc _) w.heap.size M from heap_alloc_new w _) _)
  have P1 : Hid (Mbox W (w.heap.size + 1) D0) := hid (hW ▸ (show Mbox _ (w.heap.size + 1) D0 from heap_alloc2_new w _ _))
  have HR := hid h
  have HW := hid hW
  have HN := hid hnil
  have Hn := hid hn
  clear hW h hnil hn
  refine (callsIn_wide (n := 9)).1 ?_
  refine callsIn_of_wp_marks Try.func57 rfl trivial (wpIn_wide.2 ?_) rfl
  simp only [Try.ntmps57, List.size_toArray, List.length_cons, List.length_nil, Nat.reduceAdd, Nat.reduceSub, Array.replicate_succ, Array.replicate_zero, List.push_toArray, List.append_toArray, List.nil_append, List.cons_append]
  go_upto_region 1 with fail
  rw [← HW.out]
  go_wp2_with fail
  refine (callsIn_wide.1 (parts_any 9 w.heap.size W)).mono ?_
  rintro e W1 ⟨rfl, hW1⟩
  have bS : Boxed W1 W.heap.size 77 (.pointer (some ⟨w.heap.size, 0, none⟩)) := by rw [hW1]; exact heap_alloc_new W _
  have B1 : Below W.heap.size W W1 := by rw [hW1]; exact (Below.refl _ W).alloc (Nat.le_refl _) _
  have hsz : w.heap.size + 2 = W.heap.size := by rw [HW.out]; simp
  have Q0 := hid (P0.out.below B1 P0.out.lt)
  have Q1 := hid (P1.out.below B1 P1.out.lt)
  have hs1 : W.heap.size + 1 = W1.heap.size := by rw [hW1]; simp
  have Hsz := hid hsz
  have Hs1 := hid hs1
  have HB1 := hid (B0.out.trans (B1.mono (by omega)))
  have HbS := hid bS
  have hI0 : TwI w M (W1.heap.size + 2) [] W1 := ⟨Q1.out, HB1.out, M, Q0.out, fun k _ hk => absurd hk (Nat.not_lt_zero _), fun _ _ _ => rfl⟩
  clear hW1 B1 bS hsz hs1
  go_wp2_with fail
  refine wpIn_wide.1 (range_overG (F := Fence.wide) (n := 9) (gf := 52) rfl (by omega) rfl trivial (enters_of Try.func52 (by kernel_rfl) rfl) (K := fun b => b = W.heap.size) (g := W.heap.size) rfl (fun b hb => by have := Hs1.out; have hb2 : b = W.heap.size := hb; omega)
    (parts_comesG 8 (by omega) HbS.out.cell HbS.out.lt) (fun _ => rfl) (TwI w M (W1.heap.size + 2)) (fun _ _ => False)
    ?keep (fun s X Y r h hg hr => h)
    (fun s X Y r h _ _ => h) hI0 ?a1 ?assign ?body ?done ?stop)
  case keep =>
    rintro s X Y r ⟨h1, h2, R, h3, h4, h5⟩ hg hr
    have a1 := Hsz.out
    have a2 := Hs1.out
    have a3 := h3.lt
    exact ⟨h1.grown hg (by omega), below_row h2 hg h2.size (by omega), R, h3.grown hg (by omega), fun k hk hk2 => (h4 k hk hk2).grown hg (by omega), h5⟩
  case assign =>
    intro l x W K hK
    gi_wp2
    exact hK
  case body =>
    intro l pre x Wx hpre hZ hI
    obtain ⟨k, hk⟩ := x
    obtain ⟨hkl, -⟩ := hpre.front
    dsimp only at hkl
    obtain ⟨hQ, hB, R, hR, hT, hS⟩ := hI
    have hRk := hS k hk (by omega)
    have HQ := hid hQ
    have HB := hid hB
    have HRb := hid hR
    have HT := hid hT
    have HS := hid hS
    have HZ := hid hZ
    have Hk := hid hk
    have Hkl := hid hkl
    have hr := (((HR.out k hk).below hB).mono hB.size)
    have hn := HN.out k hk
    have hm := Hn.out k hk
    obtain ⟨m, hmm⟩ : ∃ m, m = M k := ⟨_, rfl⟩
    rw [← hmm] at hr hn hm
    obtain ⟨y0, y1, y2⟩ := mcells_at hR hk (hRk.trans hmm.symm)
    have Hm := hid hmm
    clear hmm hB hR hT hS hQ hI0 hZ hkl hRk hpre
    obtain ⟨s, A, n, c, xx, f⟩ := m
    dsimp only at y0 y1 y2 hr hn hm
    have CC := hid (dtwin_any hr hn hm s xx)
    have Hs := hid (hr.max)
    clear hr hn hm
    unfold pptr
    gi_wp2_with fail
    refine ⟨trivial, ?_⟩
    refine (CallsIn.inRound l (callsIn_wide.2 CC.out)).mono ?_
    rintro e Wy ⟨A1, c1, rfl, hmk, hbel⟩
    have Ry := hid (HRb.out.below hbel.out HRb.out.lt)
    obtain ⟨z0, z1, z2⟩ := Ry.out.cell Hk.out
    have g0 := Ry.out.frozen (3 * k)
    have g1 := Ry.out.frozen (3 * k + 1)
    have g2 := Ry.out.frozen (3 * k + 2)
    clear y0 y1 y2
    gi_wp2
    show KeepsFrom _ _ (mput Wy w.heap.size k ⟨s, A1, n, c1, xx, f⟩) ∧ Kb _ _ (mput Wy w.heap.size k ⟨s, A1, n, c1, xx, f⟩) ∧ TwI w M _ _ (mput Wy w.heap.size k ⟨s, A1, n, c1, xx, f⟩)
    refine ⟨keeps_mput (keeps_below hbel.out), (kb_below hbel.out ?kb).mput ?n1, ?inv⟩
    case kb => intro b hb; have hb2 : b = W.heap.size := hb; have := Hs1.out; have := HZ.out; omega
    case n1 => intro hb; have hb2 : w.heap.size = W.heap.size := hb; have := Hsz.out; omega
    case inv =>
      have e1 := Hsz.out
      have e2 := Hs1.out
      have e3 := HZ.out
      have e4 := Hkl.out
      refine ⟨(HQ.out.below hbel.out HQ.out.lt).mput_far (k := k) (d := ⟨s, A1, n, c1, xx, f⟩) (by omega), below_mput (k := k) (d := ⟨s, A1, n, c1, xx, f⟩) (HB.out.trans (hbel.out.mono HB.out.size)) (Nat.le_refl _), updD R k ⟨s, A1, n, c1, xx, f⟩, Ry.out.put Hk.out ⟨s, A1, n, c1, xx, f⟩, fun j hj hj2 => ?_, fun j hj hj2 => ?_⟩
      · rw [List.length_append, List.length_singleton] at hj2
        by_cases hjk : j = k
        · subst hjk
          rw [updD_same, ← Hm.out]
          exact ⟨(hmk.out.mono (by omega)).mput (by omega), rfl, rfl, rfl, rfl⟩
        · rw [updD_ne _ _ hjk]
          exact ((HT.out j hj (by omega)).below hbel.out).mput (by omega)
      · rw [List.length_append, List.length_singleton] at hj2
        rw [updD_ne _ _ (by omega)]
        exact HS.out j hj (by omega)
  case done =>
    rintro D ys Wx hD hys ⟨hQ, hB, R, hR, hT, hS⟩ hK
    have e1 := Hsz.out
    have e2 := Hs1.out
    have hl := fst4_pre hys
    have HP := hid hR
    have HQ := hid hQ
    have g1 := grown_mstore Wx (w.heap.size + 1) R
    have hK' := (g1.block D (lt_of_heap hK) (by intro e; injection e with e; omega)).trans hK
    have g2 := grownBy_putObj' (mstore Wx (w.heap.size + 1) R) D (.deferred none)
    have HF := hid (show Mbox ((mstore Wx (w.heap.size + 1) R).putObj D (.deferred none)) (w.heap.size + 1) R from (hQ.store R).grown g2 (by omega))
    have HB2 := hid (below_row (below_row hB g1 hB.size (by omega)) g2 (Nat.le_trans hB.size g1.size) (by omega))
    have HT2 := hid (show ∀ k, k < 4 → Twd w.heap.size ((mstore Wx (w.heap.size + 1) R).putObj D (.deferred none)) (M k) (R k) from fun k hk => (((hT k hk (by omega)).grown g1 (by omega)).grown g2 (by omega)).mono (by omega))
    have HK := hid hK'
    clear e1 e2 hl hR hQ hB hT hS hK g1 g2 hK' hI0
    go_wp2_with (first
      | (with_reducible refine wp_mload rfl (.tmp 1) rfl w.heap.size R rfl HP.out ?_)
      | (with_reducible refine wp_mstore rfl (.tmp 2) (.tmp 12) rfl (w.heap.size + 1) D0 R rfl rfl HQ.out ?_)
      | fail)
    refine ⟨by simp, .inl ⟨_, _, rfl, run_takeDeferred HK.out, ?_⟩⟩
    exact ⟨_, mass_cell rfl _ _ (w.heap.size + 1) R rfl HF.out, R, rfl, HT2, HB2⟩
  case stop =>
    rintro D pre Wx hD _ h hK
    exact h.elim

end Go.Proofs.Ytdcolnipdipkhaa


namespace Go.Proofs.Ytdcolnipdipkhaa
set_option maxRecDepth 100000
open Go.RowKit Go.Shelf
attribute [local go_sem] Oper.semAt_some

/-- What the loop keeps: the parts that were gone through are halves; and where it returns. -/
def HaI (w : World) (H : Nat → Int) (D : Nat → Dy) (Z : Nat) (pre : List (Idx 4)) (X : World) : Prop :=
  Mbox X (w.heap.size + 1) D0 ∧ Boxed X (w.heap.size + 2) 32 (.int .i64 0) ∧ Below w.heap.size w X ∧
    ∃ R, Mbox X w.heap.size R ∧ (∀ k, k < 4 → k < pre.length → Owd Z X (H k) (R k) ∧ Okay (H k)) ∧ ∀ k, k < 4 → ¬ k < pre.length → R k = D k
def HaX (w : World) (H : Nat → Int) (X : World) : Prop := Mbox X (w.heap.size + 1) D0 ∧ Boxed X (w.heap.size + 2) 32 (.int .i64 10) ∧ Below w.heap.size w X ∧ ∃ k, k < 4 ∧ ¬ Okay (H k)

end Go.Proofs.Ytdcolnipdipkhaa


namespace Go.Proofs.Ytdcolnipdipkhaa
set_option maxRecDepth 100000
open Go.RowKit Go.Shelf
attribute [local go_sem] Oper.semAt_some

end Go.Proofs.Ytdcolnipdipkhaa


namespace Go.Proofs.Ytdcolnipdipkhaa
set_option maxRecDepth 100000
open Go.RowKit Go.Shelf
attribute [local go_sem] Oper.semAt_some

theorem new_at {w : World} {o : Obj} {g : Nat} (hg : g = w.heap.size) : (w.alloc o).heap[g]? = some o := by
  subst hg
  exact heap_alloc_new w o
theorem Boxed.alloc_ {W : World} {B : Nat} {t : TypeId} {v : Value} (h : Boxed W B t v) (o : Obj) : Boxed (W.alloc o) B t v := (Below.heap_alloc W o B h.lt).trans h
def JoX (w : World) (H : Nat → Int) (X : World) : Prop := Mbox X (w.heap.size + 3) D0 ∧ Boxed X (w.heap.size + 4) 32 (.int .i64 10) ∧ Below w.heap.size w X ∧ ∃ k, k < 4 ∧ ¬ Okay (H k)

end Go.Proofs.Ytdcolnipdipkhaa


namespace Go.Proofs.Ytdcolnipdipkhaa
set_option maxRecDepth 100000
open Go.RowKit Go.Shelf
attribute [local go_sem] Oper.semAt_some

/-- All of two dyads is the same. -/
def Dsm (d e : Dy) : Prop := d.s = e.s ∧ d.x = e.x ∧ d.n = e.n ∧ ∀ j, d.f j = e.f j
def SaI (w : World) (D E : Nat → Dy) (pre : List (Idx 4)) (X : World) : Prop :=
  Mbox X w.heap.size D ∧ Mbox X (w.heap.size + 1) E ∧ Boxed X (w.heap.size + 2) 4 (.bool false) ∧ Below w.heap.size w X ∧ ∀ p ∈ pre, Dsm (D p.1) (E p.1)
def SaX (w : World) (D E : Nat → Dy) (X : World) : Prop := Boxed X (w.heap.size + 2) 4 (.bool false) ∧ Below w.heap.size w X ∧ ¬ ∀ k, k < 4 → Dsm (D k) (E k)

end Go.Proofs.Ytdcolnipdipkhaa


namespace Go.Proofs.Ytdcolnipdipkhaa
open Go.RowKit Go.Shelf

theorem ret_mass {fn : Func} {R : Ending → World → Prop} {a : Act} {w : World} {p u : Tmp} {g : Nat} {D : Nat → Dy} {er : Value} (h : fn.results = #[.cell p 27, .tmp u]) (hp : a.tmps.getD p undef = .pointer (some ⟨g, 0, none⟩)) (hu : a.tmps.getD u undef = er)
    (hd : a.defers = []) (hg : Mbox w g D) (hR : R (.returned (.tuple #[.agg (mcells D), er])) w) : bodyPost Try.prog fn R .ret a w := by
  refine bodyPost_ret ?_ hd hR
  rw [← hu]
  exact cells_agg_tmp h a.tmps w g _ _ _ _ hp hg Try.underlying27 rfl (mass_size_ D)

end Go.Proofs.Ytdcolnipdipkhaa


namespace Go.Proofs.Ytdcolnipdipkhaa
open Go.RowKit Go.Shelf

theorem yields_mload {ops : Array Oper} {S : World → Prop} {o : Oper} {a : Act} (hw : Region.wanted o (yielded ops a.tmps) = true) (x : Operand) (ho : o.op = .load 27 x)
    (g : Nat) (D : Nat → Dy) (hx : a.eval x = .pointer (some ⟨g, 0, none⟩)) (hS : ∀ w, S w → Mbox w g D) : YieldsIf Try.prog ops S o (.agg (mcells D)) a :=
  .inl ⟨hw, fun w hw' => by
    unfold execOp
    simp only [ho, hx, Instr.loadAt, Instr.sureAddr, Sem.run_bind, Sem.run_pure, Result.andThen_ok, run_loadVar_row w g _ 27 _ _ _ (hS w hw') Try.underlying27 rfl (mass_size_ D)]⟩
theorem wp1_mstore {o : Oper} {a : Act} {w : World} {K : Act → World → Prop} {Q : Exit → Act → World → Prop} (x y : Operand) (ho : o.op = .store 27 x y)
    (g : Nat) (D E : Nat → Dy) (hx : a.eval x = .pointer (some ⟨g, 0, none⟩)) (hy : a.eval y = .agg (mcells E)) (hg : Mbox w g D) (h : K (a.put o.dst undef) (mstore w g E)) : o.wp Try.prog a w K Q :=
  wp_store_mid _ x y ho g 0 (mcells E) hx hy (hg.there E) (mass_size_ E) (mcells_one E) h
theorem results_cct {fn : Func} {p q u : Tmp} {ty tz : TypeId} (h : fn.results = #[.cell p ty, .cell q tz, .tmp u]) (tmps : Array Value) (P : Program) (w : World) :
    (results fn tmps).run P w =
      ((asAddr (tmps.getD p undef)).run P w).andThen fun a w₁ => ((loadVar ty a).run P w₁).andThen fun x w₂ => ((asAddr (tmps.getD q undef)).run P w₂).andThen fun b w₃ => ((loadVar tz b).run P w₃).andThen fun y w₄ => .ok (.tuple #[x, y, tmps.getD u undef]) w₄ := by
  simp only [results, h]
  simp [Sem.run_bind, Result.andThen]
theorem ret_masses {fn : Func} {R : Ending → World → Prop} {a : Act} {w : World} {p q u : Tmp} {g k : Nat} {D E : Nat → Dy} {er : Value} (h : fn.results = #[.cell p 27, .cell q 27, .tmp u]) (hp : a.tmps.getD p undef = .pointer (some ⟨g, 0, none⟩)) (hq : a.tmps.getD q undef = .pointer (some ⟨k, 0, none⟩)) (hu : a.tmps.getD u undef = er)
    (hd : a.defers = []) (hg : Mbox w g D) (hk : Mbox w k E) (hR : R (.returned (.tuple #[.agg (mcells D), .agg (mcells E), er])) w) : bodyPost Try.prog fn R .ret a w := by
  refine bodyPost_ret ?_ hd hR
  have e1 := run_loadVar_row w g _ 27 _ _ _ hg Try.underlying27 rfl (mass_size_ D)
  have e2 := run_loadVar_row w k _ 27 _ _ _ hk Try.underlying27 rfl (mass_size_ E)
  rw [results_cct h, hp, hq, hu]
  simp only [asAddr, Result.andThen, Sem.run_pure, e1, e2]
theorem Mbox.at_ {w : World} {g : Nat} {D : Nat → Dy} (h : Mbox w g D) (j : Nat) (v : Value) (hv : (mcells D)[j]? = some v) : w.cell? ⟨g, j, none⟩ = some v := by
  rw [cell_of_row w g j _ _ (0, 0) h]
  exact hv
theorem ite_go {c P Q : Prop} [Decidable c] (hc : c) (h : P) : if c then P else Q := by rw [if_pos hc]; exact h
/-- Four of a kind. -/
def of4 {α : Type} (a b c d : α) : Nat → α
  | 0 => a
  | 1 => b
  | 2 => c
  | _ => d
theorem all_of4 {P : Nat → Prop} (h0 : P 0) (h1 : P 1) (h2 : P 2) (h3 : P 3) : ∀ k, k < 4 → P k := fun k hk => by
  have hc : k = 0 ∨ k = 1 ∨ k = 2 ∨ k = 3 := by omega
  rcases hc with rfl | rfl | rfl | rfl <;> assumption
/-- The dyad of nothing. -/
abbrev d0 : Dy := ⟨false, none, 0, 0, 0, fun _ => 0⟩
/-- The error of a split. -/
def Serr (p : Prop) (H0 H1 : Int) (er : Int) : Prop := (p → ((Okay H0 ∧ Okay H1) ∧ er = 0) ∨ (¬ (Okay H0 ∧ Okay H1) ∧ er = 10)) ∧ (¬ p → er = 8)
/-- What a split hands back: what is kept lies in memory that was made behind what is sent. -/
def SRes (w : World) (p : Prop) (M : Nat → Int) (H0 H1 : Int) (e : Ending) (w' : World) : Prop :=
  ∃ K S er, e = .returned (.tuple #[.agg (mcells K), .agg (mcells S), .int .i64 er]) ∧ Hid (Serr p H0 H1 er) ∧
    Hid (∃ B, w.heap.size ≤ B ∧ Mow B w' (resM er (of4 H0 H1 (M 2) (M 3))) K ∧ Mow w.heap.size w' (resM er (of4 H0 H1 0 0)) S ∧ Mrd w' B S) ∧ Hid (Below w.heap.size w w')

/-- What the last statement keeps. -/
def SpS (w : World) (g k B : Nat) (MK MS : Nat → Int) (K S : Nat → Dy) (X : World) : Prop :=
  Mbox X g K ∧ Mbox X k S ∧ Mow B X MK K ∧ Mow w.heap.size X MS S ∧ Mrd X B S ∧ Below w.heap.size w X ∧ w.heap.size ≤ g ∧ w.heap.size ≤ k ∧ g < B ∧ k < B ∧ g < k
theorem Mrd.grown_ {B r : Nat} {X Y : World} {S : Nat → Dy} {MS : Nat → Int} {C : Nat} (h : Mrd X B S) (ho : Mow C X MS S) (hg : X.grownBy Y (some r)) (hr : r < C) : Mrd Y B S := fun k hk =>
  ⟨(h k hk).cap, (h k hk).max, (h k hk).lt, (h k hk).out, fun hn => by
    obtain ⟨b, off, hA, hB, hc⟩ := (h k hk).at_ hn
    refine ⟨b, off, hA, hB, fun j hj => ?_⟩
    have hne : b ≠ r := by
      rcases (ho k hk).lim.own with ⟨_, h0, _⟩ | ⟨g, cs, hA2, hB2, _⟩
      · omega
      · rw [hA2] at hA
        injection hA with hA
        injection hA with hA
        omega
    have hlt : b < X.heap.size := block_lt_of_cell (hc j hj)
    rw [← hc j hj]
    exact World.cell?_of_block (hg.block b hlt (by intro e; injection e with e; exact hne e))⟩

theorem Mrd.zero (B : Nat) (w : World) : Mrd w B D0 := fun _ _ => Rd.nil w B
theorem drew_below (B : Nat) (w : World) : Below B w w.drew := (Below.refl B w).drew
theorem SpS.drew_ {w : World} {g k B C : Nat} {MK MS : Nat → Int} {K S : Nat → Dy} {X : World} (h : SpS w g k B MK MS K S X ∧ Mow C X MS S) : SpS w g k B MK MS K S X.drew ∧ Mow C X.drew MS S := by
  obtain ⟨⟨a1, a2, a3, a4, a5, a6, a7, a8, a9, a10, a11⟩, h2⟩ := h
  exact ⟨⟨a1, a2, a3.below (drew_below _ _), a4.below (drew_below _ _), a5.below (drew_below _ _), a6.drew, a7, a8, a9, a10, a11⟩, h2.below (drew_below _ _)⟩

theorem SpS.put {w : World} {g k B C : Nat} {MK MS : Nat → Int} {K S : Nat → Dy} {X Y : World} {r : Nat} (h : SpS w g k B MK MS K S X) (hS : Mow C X MS S) (hC : w.heap.size ≤ C) (hgC : g < C) (hkC : k < C) (hg : X.grownBy Y (some r)) (hr : r = g ∨ r = k) (h1 : Mbox Y g K) (h2 : Mbox Y k S) : SpS w g k B MK MS K S Y ∧ Mow C Y MS S := by
  obtain ⟨a1, a2, a3, a4, a5, a6, a7, a8, a9, a10, a11⟩ := h
  have hS2 : Mow C Y MS S := fun j hj => (hS j hj).grown hg (by omega)
  exact ⟨⟨h1, h2, fun j hj => (a3 j hj).grown hg (by omega), fun j hj => (hS2 j hj).mono hC, a5.grown_ hS hg (by omega), below_row a6 hg a6.size (by omega), a7, a8, a9, a10, a11⟩, hS2⟩


end Go.Proofs.Ytdcolnipdipkhaa

