/- FieldPuts, walked. -/
import Derived.Test.YtmaggpigodkhhaaJrtext
import Derived.Test.YtmaggpigodkhhaaFset
import Derived.Test.YtmaggpigodkhhaaEcom
import Derived.Deep.RegionHeld3
import Derived.Laws.OwnMore
namespace Go.Proofs.Ytmaggpigodkhhaa
open Go.RowKit

/-- 'append([]byte{}, b...)', at a step of a region that draws its order. -/
theorem step_copy_any {ops : Array Oper} {o : Oper} {a : Act} {K : Act → World → Prop} {Q : Exit → Act → World → Prop} {E : Prop} (hgd : o.guard = none) (s x : Operand)
    (ho : o.op = .call { callee := .builtin .append, args := #[s, x], argTypes := #[22, 22] }) {w : World} {g B' m c : Nat} {ys : List Nat} {A : Option Addr} (hs : a.eval s = .slice (some ⟨g, 0, none⟩) 0 0) (hx : a.eval x = .slice A m c)
    (hown : Ow w g (.slice (some ⟨g, 0, none⟩) 0 0) []) (hy : By w B' A m c ys) (hn : m ≤ 17592186044416)
    (h : ∀ v' w', Hid (Ow w' g v' ys) → Hid (w.grownBy w' (some g)) → K (a.put o.dst v') w') : if Region.wanted o (yielded ops a.tmps) = true then Oper.wp Try.prog o a w K Q else E := by
  obtain ⟨i, hi, hz, hsz, hby⟩ := info_one u8_info
  rw [if_pos (by simp [Region.wanted, hgd])]
  have hgw : g < w.heap.size := by
    rcases hown.1 with ⟨_, ⟨h, _⟩ | ⟨g', cap', cur, h, hg, hh, _⟩⟩
    · cases h
    · injection h with h1
      injection h1 with h1
      injection h1 with h1
      subst h1
      exact lt_of_heap hh
  cases A with
  | none =>
    obtain ⟨rfl, rfl⟩ := hy.nil rfl
    obtain rfl : ys = [] := List.length_eq_zero_iff.1 hy.len
    have hrun := run_append_owned_none (P := Try.prog) (w := w) g 22 o.type 5 i 1 (by kernel_rfl) hi (.slice (some ⟨g, 0, none⟩) 0 0) 0 [] hown.1
    unfold Oper.wp execOp
    simp only [ho, resolve, invoke, builtin, Sem.run_bind, Sem.run_pure, Result.andThen_ok, List.map_toArray, List.map_cons, List.map_nil, hs, hx, hrun]
    exact h _ w (hid hown) (hid (grefl _ _))
  | some p =>
    obtain ⟨v', w', hr, h2, h3, -, -⟩ := run_append_own_at (P := Try.prog) w g 22 o.type 5 i (.int .u8 0) 1 1 (by kernel_rfl) hi hz hsz hby rfl (by decide) (.slice (some ⟨g, 0, none⟩) 0 0) 0 [] hown.1 p m c (vals ys) (by rw [vals_length, hy.len, Nat.mul_one]) (hy.cells _ rfl) (fun u hu => vals_one hu) (by unfold maxLen; omega) (by omega) (Nat.le_of_lt hgw)
    unfold Oper.wp execOp
    simp only [ho, resolve, invoke, builtin, Sem.run_bind, Sem.run_pure, Result.andThen_ok, List.map_toArray, List.map_cons, List.map_nil, hs, hx, hr]
    refine h v' w' (hid ⟨?_, hy.lt, ?_⟩) (hid h3)
    · rw [hy.len]
      rw [Nat.zero_add, List.nil_append] at h2
      exact h2
    · rw [hy.len]
      exact hy.max
theorem Ow.empty' {X : World} {g : Nat} (hg : g = X.heap.size) : Ow (X.alloc (.cells #[] 5)) g (.slice (some ⟨g, 0, none⟩) 0 0) [] := by
  subst hg
  exact ⟨⟨rfl, .inr ⟨X.heap.size, 0, #[], rfl, Nat.le_refl _, heap_alloc_new X _, Nat.le_refl _, by unfold maxLen; omega, rfl, rfl⟩⟩, by simp, by simp⟩
theorem Mk.grown {w w' : World} {e : TypeId} {B n c g : Nat} {A : Option Addr} {f : Nat → Nat} (h : Mk w e B A n c f) (hg : w.grownBy w' (some g)) (hlt : g < B) : Mk w' e B A n c f :=
  ⟨h.cap, h.max, h.lt, h.out, by
    rcases h.own with h0 | ⟨b, cs, e1, hb, hh, h2, h3⟩
    · exact .inl h0
    · exact .inr ⟨b, cs, e1, hb, (hg.block b (lt_of_heap hh) (by intro e; injection e with e; omega)).trans hh, h2, h3⟩⟩
theorem bel_then {w1 Y w' : World} (h : Below w1.heap.size w1 Y) (hb : Hid (Below Y.heap.size Y w')) : Hid (Below w1.heap.size w1 w') := hid (h.trans (hb.out.mono h.size))
theorem bel_grown {w1 Y w' : World} {g : Nat} (h : Below w1.heap.size w1 Y) (hb : Hid (Y.grownBy w' (some g))) (hg : w1.heap.size ≤ g) : Hid (Below w1.heap.size w1 w') :=
  hid (h.grown hb.out h.size (fun k hk => by injection hk with hk; subst hk; exact hg))
theorem undrew_b {Y w' : World} (h : Hid (Below Y.drew.heap.size Y.drew w')) : Hid (Below Y.heap.size Y w') := hid ⟨h.out.os, h.out.tape, h.out.output, h.out.size, h.out.block⟩
theorem undrew_g {Y w' : World} {g : Nat} (h : Hid (Y.drew.grownBy w' (some g))) : Hid (Y.grownBy w' (some g)) := hid ⟨h.out.os, h.out.tape, h.out.output, h.out.size, h.out.block⟩
abbrev EB : Obj := .cells #[] 5
abbrev OwE (w : World) (g : Nat) : Prop := Ow w g (.slice (some ⟨g, 0, none⟩) 0 0) []
abbrev DbZ (w : World) (g : Nat) : Prop := Dbox w g false (.slice none 0 0) 0
section
variable {N w' : World} {o : Obj} {g : Nat}
theorem ow_e (hg : g = N.heap.size) : OwE (N.alloc (.cells #[] 5)) g := Ow.empty' hg
theorem OwE.drew (h : OwE N g) : OwE N.drew g := ⟨h.1, h.2⟩
theorem OwE.alloc (h : OwE N g) (o : Obj) : OwE (N.alloc o) g := Ow.below h ((Below.refl _ _).alloc (Nat.le_refl _) o) (Nat.le_refl _)
theorem OwE.then (h : OwE N g) (hb : Hid (Below N.heap.size N w')) : OwE w' g := Ow.below h hb.out (Nat.le_refl _)
theorem db_z (hg : g = N.heap.size) : DbZ (N.alloc (.cells #[.bool false, .slice none 0 0, .int .i64 0] 26)) g := by
  subst hg
  exact heap_alloc_new N _
theorem DbZ.then (h : DbZ N g) (hb : Hid (Below N.heap.size N w')) : DbZ w' g := Dbox.below h hb.out h.lt
theorem Ow.stay {B : Nat} {v : Value} {xs : List Nat} {s t : Bool} {u u' : Value} {x y : Int} (h : Ow N B v xs) (hg : Dbox N g s u x) : Ow (put3 N g t u' y) B v xs := by
  refine ⟨?_, h.2⟩
  obtain ⟨⟨hl, hor⟩, -⟩ := h
  refine ⟨hl, ?_⟩
  rcases hor with h0 | ⟨b, cap, cur, e1, hb, hh, hr⟩
  · exact .inl h0
  · have hne : b ≠ g := by
      rintro rfl
      have e := hh.symm.trans hg
      injection e with e
      injection e with _ e
      exact absurd e (by decide)
    refine .inr ⟨b, cap, cur, e1, hb, ?_, hr⟩
    exact (Below.heap_setCell _ _ _ b (by exact hne)).trans ((Below.heap_setCell _ _ _ b (by exact hne)).trans ((Below.heap_setCell _ _ _ b (by exact hne)).trans hh))
end
section
variable {N w' : World} {o : Obj} {g b : Nat}
abbrev ZD : Obj := .cells #[.bool false, .slice none 0 0, .int .i64 0] 26
theorem t_e (h : Hid (Below (N.alloc (.cells #[] 5)).heap.size (N.alloc (.cells #[] 5)) w')) : Hid (OwE w' N.heap.size) := hid ((ow_e rfl).then h)
theorem t_z (h : Hid (Below (N.alloc (.cells #[.bool false, .slice none 0 0, .int .i64 0] 26)).heap.size (N.alloc (.cells #[.bool false, .slice none 0 0, .int .i64 0] 26)) w')) : Hid (DbZ w' N.heap.size) := hid ((db_z rfl).then h)
theorem t_ez (h : Hid (Below ((N.alloc (.cells #[] 5)).alloc (.cells #[.bool false, .slice none 0 0, .int .i64 0] 26)).heap.size ((N.alloc (.cells #[] 5)).alloc (.cells #[.bool false, .slice none 0 0, .int .i64 0] 26)) w')) : Hid (OwE w' N.heap.size) ∧ Hid (DbZ w' (N.heap.size + 1)) :=
  ⟨hid (((ow_e rfl).alloc _).then h), hid ((db_z (by simp)).then h)⟩
theorem t_ze (h : Hid (Below ((N.alloc (.cells #[.bool false, .slice none 0 0, .int .i64 0] 26)).alloc (.cells #[] 5)).heap.size ((N.alloc (.cells #[.bool false, .slice none 0 0, .int .i64 0] 26)).alloc (.cells #[] 5)) w')) : Hid (OwE w' (N.heap.size + 1)) ∧ Hid (DbZ w' N.heap.size) :=
  ⟨hid ((ow_e (by simp)).then h), hid (DbZ.then (Dbox.alloc (db_z rfl) _) h)⟩
theorem p_ez (h : Hid (((N.alloc (.cells #[] 5)).alloc (.cells #[.bool false, .slice none 0 0, .int .i64 0] 26)).grownBy w' (some g))) (hg : g = N.heap.size) : Hid (DbZ w' (N.heap.size + 1)) :=
  hid (Dbox.grown (db_z (by simp)) h.out (by omega))
theorem p_ze (h : Hid (((N.alloc (.cells #[.bool false, .slice none 0 0, .int .i64 0] 26)).alloc (.cells #[] 5)).grownBy w' (some g))) (hg : g = N.heap.size + 1) : Hid (DbZ w' N.heap.size) :=
  hid (Dbox.grown (Dbox.alloc (db_z rfl) _) h.out (by omega))
theorem p_z (h : Hid ((N.alloc (.cells #[.bool false, .slice none 0 0, .int .i64 0] 26)).grownBy w' (some g))) (hg : g < N.heap.size) : Hid (DbZ w' N.heap.size) :=
  hid (Dbox.grown (db_z rfl) h.out (by omega))
theorem p_b0 {q : Nat} (hq : Hid (DbZ N q)) (h : Hid (N.grownBy w' (some g))) (hne : q ≠ g) : Hid (DbZ w' q) := hid (Dbox.grown hq.out h.out hne)
theorem p_b1 {q : Nat} (hq : Hid (DbZ N q)) (h : Hid ((N.alloc o).grownBy w' (some g))) (hg : N.heap.size ≤ g) : Hid (DbZ w' q) := hid (Dbox.grown (Dbox.alloc hq.out _) h.out (by have := Dbox.lt hq.out; omega))
theorem glow {Y : World} (_ : Hid (Y.grownBy w' (some g))) (h : b ≤ g) : b ≤ g := h
theorem OwE.lt (h : OwE N g) : g < N.heap.size := by
  rcases h.1 with ⟨_, ⟨h, _⟩ | ⟨g', cap', cur, h, hg, hh, _⟩⟩
  · cases h
  · injection h with h1
    injection h1 with h1
    injection h1 with h1
    subst h1
    exact lt_of_heap hh
variable {e : TypeId} {B n c : Nat} {A : Option Addr} {f : Nat → Nat}
theorem mk_g0 (h : Hid (Mk N e B A n c f)) (hg : Hid (N.grownBy w' (some g))) (hl : g < B) : Hid (Mk w' e B A n c f) := hid (h.out.grown hg.out hl)
theorem mk_g1 (h : Hid (Mk N e B A n c f)) (hg : Hid ((N.alloc o).grownBy w' (some g))) (hl : g < B) : Hid (Mk w' e B A n c f) :=
  hid (Mk.grown (h.out.below ((Below.refl _ _).alloc (Nat.le_refl _) _) (Nat.le_refl _)) hg.out hl)
theorem mk_o1 (h : Hid (Mk N e B A n c f)) (hg : Hid ((N.alloc o).grownBy w' (some g))) (hl : N.heap.size ≤ g) : Hid (Mk w' e B A n c f) :=
  hid (h.out.below (((Below.refl N.heap.size N).alloc (Nat.le_refl _) o).grown hg.out (by simp) (fun k hk => by injection hk with hk; subst hk; exact hl)) (Nat.le_refl _))
theorem mk_o2 {o' : Obj} (h : Hid (Mk N e B A n c f)) (hg : Hid (((N.alloc o).alloc o').grownBy w' (some g))) (hl : N.heap.size ≤ g) : Hid (Mk w' e B A n c f) :=
  hid (h.out.below ((((Below.refl N.heap.size N).alloc (Nat.le_refl _) o).alloc (by simp) o').grown hg.out (by simp; omega) (fun k hk => by injection hk with hk; subst hk; exact hl)) (Nat.le_refl _))
end
/-- What the cut wants. -/
def Cut3 (w1 wx : World) (A1 : Option Addr) (n c1 g : Nat) (D1 : Option Addr) (k d1 : Nat) (xs : List Nat) (s : Bool) (x : Int) (f : Nat → Nat) : Prop :=
  Ow wx w1.heap.size (.slice A1 n c1) xs ∧ Dbox wx g s (.slice D1 k d1) x ∧ Rd wx wx.heap.size D1 k d1 f ∧ Below w1.heap.size w1 wx
section
variable {w1 N : World} {A1 : Option Addr} {n c1 g b : Nat} {D1 : Option Addr} {k d1 : Nat} {xs : List Nat} {s : Bool} {x : Int} {f : Nat → Nat}
theorem cut_new (ho : Ow N b (.slice A1 n c1) xs) (hb : w1.heap.size ≤ b) (hr : Rd N N.heap.size D1 k d1 f) (hB : Below w1.heap.size w1 N) (hg : g = N.heap.size) :
    Cut3 w1 (N.alloc (.cells #[.bool s, .slice D1 k d1, .int .i64 x] 26)) A1 n c1 g D1 k d1 xs s x f := by
  subst hg
  have bb : Below N.heap.size N (N.alloc (.cells #[.bool s, .slice D1 k d1, .int .i64 x] 26)) := (Below.refl _ _).alloc (Nat.le_refl _) _
  exact ⟨(ho.mono hb).below bb (Nat.le_refl _), heap_alloc_new N _, (hr.below bb).mono bb.size, hB.trans (bb.mono hB.size)⟩
theorem cut_old (ho : Ow N b (.slice A1 n c1) xs) (hb : w1.heap.size ≤ b) (hr : Rd N N.heap.size D1 k d1 f) (hB : Below w1.heap.size w1 N) (hg : DbZ N g) (hl : w1.heap.size ≤ g) :
    Cut3 w1 (((N.setCell ⟨g, 0, none⟩ (.bool s)).setCell ⟨g, 1, none⟩ (.slice D1 k d1)).setCell ⟨g, 2, none⟩ (.int .i64 x)) A1 n c1 g D1 k d1 xs s x f :=
  ⟨(ho.mono hb).stay hg, Dbox.store hg, Rd.stay hr hg, below_put3 hB hl⟩
end

/-- Only the row at A has been written. -/
def Wr (A : Option Addr) (w w' : World) : Prop := (A = none ∧ w' = w) ∨ ∃ g, A = some ⟨g, 0, none⟩ ∧ w.grownBy w' (some g)
theorem Wr.refl {A : Option Addr} {B n c : Nat} {w : World} {xs : List Nat} (h : Ow w B (.slice A n c) xs) : Wr A w w := by
  obtain ⟨⟨_, hor⟩, -⟩ := h
  rcases hor with ⟨e, _⟩ | ⟨g, cap, cur, e, _⟩
  · injection e with e1
    exact .inl ⟨e1, rfl⟩
  · injection e with e1
    exact .inr ⟨g, e1, ⟨rfl, rfl, rfl, Nat.le_refl _, fun _ _ _ => rfl⟩⟩
theorem Wr.set {g : Nat} {w w' : World} (h : Wr (some ⟨g, 0, none⟩) w w') (j : Nat) (u : Value) : Wr (some ⟨g, 0, none⟩) w (w'.setCell ⟨g, j, none⟩ u) := by
  rcases h with ⟨e, _⟩ | ⟨g', e, hg⟩
  · cases e
  · injection e with e
    injection e with e1
    subst e1
    exact .inr ⟨g, rfl, hg.os, hg.tape, hg.output, by simpa [World.setCell] using hg.size, fun i hi hne => (Below.heap_setCell _ _ _ i (by rintro rfl; exact hne rfl)).trans (hg.block i hi hne)⟩
theorem Wr.below {A : Option Addr} {w w' w0 : World} {B : Nat} (h : Wr A w w') (hb : Below B w0 w) (hs : B ≤ w.heap.size) (hA : ∀ g, A = some ⟨g, 0, none⟩ → B ≤ g) : Below B w0 w' := by
  rcases h with ⟨_, rfl⟩ | ⟨g, e, hg⟩
  · exact hb
  · exact hb.grown hg hs (fun k hk => by injection hk with hk; subst hk; exact hA _ e)

theorem Ow.from {w : World} {B n c : Nat} {A : Option Addr} {xs : List Nat} (h : Ow w B (.slice A n c) xs) : ∀ g, A = some ⟨g, 0, none⟩ → B ≤ g ∧ g < w.heap.size := by
  obtain ⟨⟨_, hor⟩, -⟩ := h
  rintro g rfl
  rcases hor with ⟨e, _⟩ | ⟨g', cap, cur, e, hg, hh, _⟩
  · cases e
  · injection e with e1
    injection e1 with e1
    injection e1 with e1
    subst e1
    exact ⟨hg, lt_of_heap hh⟩
/-- A row of the call's own that is not the one that was written. -/
theorem Ow.wr {w w' : World} {A : Option Addr} {B n c : Nat} {A' : Option Addr} {xs : List Nat} (h : Ow w B (.slice A' n c) xs) (hw : Wr A w w') (hA : ∀ g, A = some ⟨g, 0, none⟩ → g < B) : Ow w' B (.slice A' n c) xs := by
  rcases hw with ⟨_, rfl⟩ | ⟨g, e, hg⟩
  · exact h
  · have hgB := hA g e
    refine ⟨?_, h.2⟩
    obtain ⟨⟨hl, hor⟩, -⟩ := h
    refine ⟨hl, ?_⟩
    rcases hor with h0 | ⟨g', cap, cur, e1, hg', hh, hr⟩
    · exact .inl h0
    · exact .inr ⟨g', cap, cur, e1, hg', (hg.block g' (lt_of_heap hh) (by intro e; injection e with e; omega)).trans hh, hr⟩

theorem wrap_u8 (x : Nat) : ∃ y : Nat, y < 256 ∧ ((x : Int) + 1) % 256 = (y : Int) := ⟨(x + 1) % 256, Nat.mod_lt _ (by omega), by omega⟩

set_option maxRecDepth 100000 in
set_option maxHeartbeats 12800000 in
theorem fputs_walk {w : World} {A D : Option Addr} {n c k d : Nat} {xs : List Nat} {f : Nat → Nat} {N z x : Int} {s : Bool} (h : By w w.heap.size A n c xs) (hN : 0 ≤ N ∧ N ≤ 18446744073709551615) (_hz : -9223372036854775808 ≤ z ∧ z ≤ 9223372036854775807) (hr : Rd w w.heap.size D k d f) (hnil : D = none → k = 0 ∧ d = 0) :
    Calls Try.prog 3 #[.slice A n c, .int .u64 N, .int .i64 z, .agg #[.bool s, .slice D k d, .int .i64 x]] w fun e w' => e = .returned (.bool true) ∧ Below w.heap.size w w' := by
  obtain ⟨V, rfl⟩ : ∃ V : Nat, N = V := ⟨N.toNat, by omega⟩
  have hV : V ≤ 18446744073709551615 := by omega
  have hn := h.max
  have hkm := hr.max
  have HNil := hid hnil
  obtain ⟨W, hW⟩ : ∃ W, W = w.alloc (.cells #[.bool s, .slice D k d, .int .i64 x] 26) := ⟨_, rfl⟩
  have K := hid (show Below w.heap.size w W from hW ▸ (Below.refl w.heap.size w).alloc (Nat.le_refl _) _)
  have PA : Hid (Dbox W w.heap.size s (.slice D k d) x) := hid (hW ▸ heap_alloc_new w _)
  have HX := hid ((h.below K.out).mono K.out.size)
  have HR := hid ((hr.below K.out).mono K.out.size)
  have HW := hid hW
  have PAc0 := PA.out.c0
  have PAc1 := PA.out.c1
  have PAc2 := PA.out.c2
  clear hW h hr hN hnil
  by_cases hg : 5000 < (n : Int)
  · go_enter Try.func3, Try.ntmps3
    go_upto_region 1 with fail
    rw [← HW.out]
    clear HW
    go_wp2
    go_ret
    exact ⟨rfl, K.out⟩
  go_enter Try.func3, Try.ntmps3
  go_upto_region 1 with fail
  rw [← HW.out]
  clear HW
  go_wp2_with fail
  refine (dgreat_any _ _ _ _ _ _ hkm).mono ?_
  rintro e w1 ⟨rfl, hb1⟩
  clear PAc0 PAc1 PAc2
  replace K := hid (K.out.trans (hb1.out.mono K.out.size))
  replace PA := hid (PA.out.below hb1.out PA.out.lt)
  replace HX := hid ((HX.out.below hb1.out).mono hb1.out.size)
  replace HR := hid ((HR.out.below hb1.out).mono hb1.out.size)
  have PAc0 := PA.out.c0
  have PAc1 := PA.out.c1
  have PAc2 := PA.out.c2
  clear hb1
  by_cases hga : 42 < k ∨ 1100 < x
  · rw [bool_of_dec hga]
    clear hga
    go_wp2
    go_ret
    exact ⟨rfl, K.out⟩
  rw [bool_of_not hga]
  have ha42 : k ≤ 42 := by omega
  clear hga
  go_upto_region 3 with fail
  go_cut [9, 10] (fun s9 s10 wx => ∃ (A1 : Option Addr) (c1 g : Nat) (D1 : Option Addr) (d1 : Nat), s9 = .slice A1 n c1 ∧ s10 = .pointer (some ⟨g, 0, none⟩) ∧ Hid (Cut3 w1 wx A1 n c1 g D1 k d1 xs s x f))
  case first =>
    have CF : Hid (∀ w', Below w1.heap.size w1 w' → w'.cell? ⟨w.heap.size, 0, none⟩ = some (.bool s) ∧ w'.cell? ⟨w.heap.size, 1, none⟩ = some (.slice D k d) ∧ w'.cell? ⟨w.heap.size, 2, none⟩ = some (.int .i64 x)) :=
      fun w' hb => ⟨(PA.out.below hb PA.out.lt).c0, (PA.out.below hb PA.out.lt).c1, (PA.out.below hb PA.out.lt).c2⟩
    have HB0 := hid (Below.refl w1.heap.size w1)
    have HBz := hid ((Below.refl w1.heap.size w1).drew)
    have CT := hid (fun (w' : World) (hb : Below w1.heap.size w1 w') => etwin_any ((HR.out.below hb).mono hb.size) HNil.out ha42 s x)
    have HXL := hid HX.out.len
    have CX := hid (fun (w' : World) (hb : Below w1.heap.size w1 w') => HX.out.below hb)
    clear PA HX HR
    go_region_held3 (fun w' => w'.cell? ⟨w.heap.size, 0, none⟩ = some (.bool s) ∧ w'.cell? ⟨w.heap.size, 1, none⟩ = some (.slice D k d) ∧ w'.cell? ⟨w.heap.size, 2, none⟩ = some (.int .i64 x))
      ((refine CF.out _ ?_; repeat' (first | with_reducible exact HBz.out | with_reducible refine Below.setCell ?_ ?_ _ | with_reducible refine Below.alloc ?_ ?_ _ | with_reducible refine Below.drew ?_ | with_reducible exact Below.refl _ _ | with_reducible exact Nat.le_refl _ | with_reducible exact HBz.out.size | (simp; done) | (simp; first | (have := HBz.out.size; omega) | (have := HPl.out; omega) | (have := HTl.out; omega)))))
      (first
      | (refine step_copy_any rfl (.tmp 29) (.tmp 30) rfl rfl rfl (by repeat' (first | with_reducible exact OE.out | with_reducible refine ow_e ?_ | with_reducible refine OwE.drew ?_ | with_reducible refine OwE.alloc ?_ _ | rfl | (simp; done))) (CX.out _ (by (repeat' (first | with_reducible exact HBz.out | with_reducible exact HB0.out | with_reducible refine Below.alloc ?_ ?_ _ | with_reducible refine Below.drew ?_ | with_reducible exact Nat.le_refl _ | with_reducible exact HBz.out.size | (simp; done) | (simp; first | (have := HBz.out.size; omega) | (have := HPl.out; omega) | (have := HTl.out; omega)))))) (by omega) ?_
         intro vo wo hOo hgo
         obtain ⟨A1, c1, hvo, -⟩ := hOo.out.shape
         rw [HXL.out] at hvo
         subst hvo
         try (replace hgo := (by with_reducible exact undrew_g hgo))
         have Hgl := hid (glow (b := w1.heap.size) hgo (by have := HBz.out.size; omega))
         first
           | (have PB := (by with_reducible exact p_ez hgo rfl))
           | (have PB := (by with_reducible exact p_ze hgo rfl))
           | (have PB := (by with_reducible exact p_z hgo OE.out.lt))
           | (have PB := (by with_reducible exact p_b0 PB hgo (by have := OE.out.lt; omega)))
           | (have PB := (by with_reducible exact p_b1 PB hgo (by simp)))
           | skip
         try
           (have MT := (by first | with_reducible exact mk_g0 MT hgo (by simp) | with_reducible exact mk_g1 MT hgo (by simp) | with_reducible exact mk_o1 MT hgo (by simp) | with_reducible exact mk_o2 MT hgo (by simp)))
         have HBz := bel_grown (w1 := w1) (by (repeat' (first | with_reducible exact HBz.out | with_reducible exact HB0.out | with_reducible refine Below.alloc ?_ ?_ _ | with_reducible refine Below.drew ?_ | with_reducible exact Nat.le_refl _ | with_reducible exact HBz.out.size | (simp; done) | (simp; first | (have := HBz.out.size; omega) | (have := HPl.out; omega) | (have := HTl.out; omega))))) hgo Hgl.out
         have HPl := hid HBz.out.size
         try
           (have q0 := PB.out.frozen 0
            have q1 := PB.out.frozen 1
            have q2 := PB.out.frozen 2
            have r0 := PB.out.c0
            have r1 := PB.out.c1
            have r2 := PB.out.c2)
         have QZ : DbZ (wo.alloc (.cells #[.bool false, .slice none 0 0, .int .i64 0] 26)) wo.heap.size := db_z rfl
         have k0 := QZ.frozen 0
         have k1 := QZ.frozen 1
         have k2 := QZ.frozen 2
         have l0 := QZ.c0
         have l1 := QZ.c1
         have l2 := QZ.c2
         have QZ := hid QZ)
      | (go_at_call 6
         refine (CT.out _ (by (repeat' (first | with_reducible exact HBz.out | with_reducible exact HB0.out | with_reducible refine Below.alloc ?_ ?_ _ | with_reducible refine Below.drew ?_ | with_reducible exact Nat.le_refl _ | with_reducible exact HBz.out.size | (simp; done) | (simp; first | (have := HBz.out.size; omega) | (have := HPl.out; omega) | (have := HTl.out; omega)))))).mono ?_
         rintro e wt ⟨D1, d1, rfl, MT, Ba⟩
         try (replace Ba := (by with_reducible exact undrew_b Ba))
         have HBz := bel_then (w1 := w1) (by (repeat' (first | with_reducible exact HBz.out | with_reducible exact HB0.out | with_reducible refine Below.alloc ?_ ?_ _ | with_reducible refine Below.drew ?_ | with_reducible exact Nat.le_refl _ | with_reducible exact HBz.out.size | (simp; done) | (simp; first | (have := HBz.out.size; omega) | (have := HPl.out; omega) | (have := HTl.out; omega))))) Ba
         have HTl := hid HBz.out.size
         first
           | (have OE := (by with_reducible exact t_e Ba))
           | (have QQ := (by with_reducible exact t_ez Ba); obtain ⟨OE, PB⟩ := QQ)
           | (have QQ := (by with_reducible exact t_ze Ba); obtain ⟨OE, PB⟩ := QQ)
           | (have PB := (by with_reducible exact t_z Ba))
           | (have PB := hid (DbZ.then PB.out Ba))
           | skip
         try
           (have hOo := hid (by first | with_reducible exact Ow.below hOo.out Ba.out (Nat.le_refl _) | with_reducible exact Ow.below (Ow.below hOo.out ((Below.refl _ _).alloc (Nat.le_refl _) _) (Nat.le_refl _)) Ba.out (Nat.le_refl _)))
         try
           (have q0 := PB.out.frozen 0
            have q1 := PB.out.frozen 1
            have q2 := PB.out.frozen 2
            have r0 := PB.out.c0
            have r1 := PB.out.c1
            have r2 := PB.out.c2)
         have QZ : DbZ (wt.alloc (.cells #[.bool false, .slice none 0 0, .int .i64 0] 26)) wt.heap.size := db_z rfl
         have k0 := QZ.frozen 0
         have k1 := QZ.frozen 1
         have k2 := QZ.frozen 2
         have l0 := QZ.c0
         have l1 := QZ.c1
         have l2 := QZ.c2
         have QZ := hid QZ))
    all_goals
      clear CF CT CX
      go_wp2_with fail
      go_meet
      first
        | with_reducible exact ⟨_, _, _, _, _, rfl, rfl, hid (cut_new hOo.out Hgl.out MT.out.rd HBz.out rfl)⟩
        | with_reducible exact ⟨_, _, _, _, _, rfl, rfl, hid (cut_old hOo.out Hgl.out MT.out.rd HBz.out PB.out (by first | omega | (have := HTl.out; omega) | (have := HPl.out; omega)))⟩
        | trace_state
  obtain ⟨A1, c1, g, D1, d1, rfl, rfl, HC⟩ := hcut
  have HO1 := hid HC.out.1
  have P1 := hid HC.out.2.1
  have HR1 := hid HC.out.2.2.1
  have hb2 := hid HC.out.2.2.2
  clear HC
  clear PAc0 PAc1 PAc2
  replace K := hid (K.out.trans (hb2.out.mono K.out.size))
  replace PA := hid (PA.out.below hb2.out PA.out.lt)
  replace HX := hid ((HX.out.below hb2.out).mono hb2.out.size)
  replace HR := hid ((HR.out.below hb2.out).mono hb2.out.size)
  have PAc0 := PA.out.c0
  have PAc1 := PA.out.c1
  have PAc2 := PA.out.c2
  clear hb2
  have HY1 := hid HO1.out.by_.2
  clear HO1
  go_wp2_with fail
  refine (PutNumber_any HY1.out hV z).mono ?_
  rintro e w3 ⟨Ax, nx, cx, ex, rfl, hex, hOx, hnx, hb3⟩
  have Z3 := hb3.out.size
  go_wp2_with fail
  refine (rPutNumber_any ((HX.out.below hb3.out).mono Z3) hV z (by omega)).mono ?_
  rintro e w4 ⟨Ay, ny, cy, ey, rfl, hey, hOy, hny, hb4⟩
  obtain rfl : ey = ex := hey.out.trans hex.out.symm
  generalize (if ey = 0 then xs ++ be V z.toNat else []) = Xs at hOx hOy hnx hny
  obtain rfl : ny = nx := hny.out.trans hnx.out.symm
  have B4 := hid (hb3.out.trans (hb4.out.mono Z3))
  have Z4 := B4.out.size
  have P4 := hid (P1.out.below B4.out P1.out.lt)
  have P4c0 := P4.out.c0
  have P4c1 := P4.out.c1
  have P4c2 := P4.out.c2
  clear hex hey
  go_wp2_with fail
  refine (PutDyad_any ((HY1.out.below B4.out).mono Z4) ((HR1.out.below B4.out).mono Z4)).mono ?_
  rintro e w5 ⟨Ap, np, cp, ep, rfl, hep, hOp, hnp, hb5⟩
  clear P4c0 P4c1 P4c2 P4
  have B5 := hid (B4.out.trans (hb5.out.mono Z4))
  have Z5 := B5.out.size
  have A5 := hid (PA.out.below B5.out PA.out.lt)
  have A5c0 := A5.out.c0
  have A5c1 := A5.out.c1
  have A5c2 := A5.out.c2
  go_wp2_with fail
  refine (rPutDyad_any ((HX.out.below B5.out).mono Z5) ((HR.out.below B5.out).mono Z5) (by omega)).mono ?_
  rintro e w6 ⟨Aq, nq, cq, eq, rfl, heq, hOq, hnq, hb6⟩
  clear A5c0 A5c1 A5c2 A5
  obtain rfl : eq = ep := heq.out.trans hep.out.symm
  generalize (if eq = 0 then xs ++ dtx s k f x.toNat else []) = Ys at hOp hOq hnp hnq
  obtain rfl : nq = np := hnq.out.trans hnp.out.symm
  clear hep heq hnq hny
  have B6 := hid (B5.out.trans (hb6.out.mono Z5))
  have Z6 := B6.out.size
  have z45 := hb5.out.size
  have z56 := hb6.out.size
  have z34 := hb4.out.size
  have b46 : Hid (Below w4.heap.size w4 w6) := hid (hb5.out.trans (hb6.out.mono z45))
  have b36 : Hid (Below w3.heap.size w3 w6) := hid (hb4.out.trans (b46.out.mono z34))
  have b56 : Hid (Below w5.heap.size w5 w6) := hb6
  have cvx := conv_any (hOx.out.by_.2.below b36.out)
  have cvy := conv_any (hOy.out.by_.2.below b46.out)
  have cvp := conv_any (hOp.out.by_.2.below b56.out)
  have cvq := conv_any hOq.out.by_.2
  have Ox := hid (hOx.out.below b36.out (Nat.le_refl _))
  have Op := hid (hOp.out.below b56.out (Nat.le_refl _))
  have gAx := hid hOx.out.from
  have gAp := hid hOp.out.from
  have se1 : (str Xs == str Xs) = true := beq_self_eq_true (str Xs).data
  have se2 : (str Ys == str Ys) = true := beq_self_eq_true (str Ys).data
  have hLx : Hid (ny ≤ 140737488355328) := hid (by have := hOx.out.2.2; have := hnx.out; omega)
  have hLp : Hid (nq ≤ 140737488355328) := hid (by have := hOp.out.2.2; have := hnp.out; omega)
  generalize str Xs = T1 at *
  generalize str Ys = T2 at *
  clear hOx hOy hOp hOq hb3 hb4 hb5 hb6 hnx hnp
  go_wp2_with fail
  clear cvx cvy cvp cvq se1 se2
  have z3 : wc.heap.size ≤ w6.heap.size := Z6
  go_loopw [20] (fun i wr => ∃ (j : Nat) (zs : List Nat), j ≤ ny ∧ i = .int .i64 (j : Int) ∧ Hid (Ow wr wc.heap.size (.slice Ax ny cx) zs) ∧ Hid (Wr Ax w6 wr)) (fun i _ => ny - (intOf i).toNat)
  case atStart => exact ⟨0, _, Nat.zero_le _, rfl, Ox, hid (Wr.refl Ox.out)⟩
  case round =>
    obtain ⟨j, zs, hj, rfl, hOz, hWz⟩ := hrel
    by_cases hcon : j < ny
    · have hop := hOz.out.open_ (Nat.lt_of_le_of_lt (Nat.zero_le _) hcon)
      obtain ⟨b, rfl, hzl, -, hbb, -, hcell, hfr⟩ := hop
      have hcj := hcell j hcon
      have hfj := hfr j
      obtain ⟨x0, hx0⟩ : ∃ x0, x0 = zs.getD j 0 := ⟨_, rfl⟩
      rw [← hx0] at hcj
      have hx0l : x0 < 256 := by
        rw [hx0, List.getD_eq_getElem?_getD, List.getElem?_eq_getElem (show j < zs.length by omega)]
        exact hOz.out.2.1 _ (List.getElem_mem (show j < zs.length by omega))
      obtain ⟨y, hy, hv⟩ := wrap_u8 x0
      have hO2' := hid (hOz.out.set j hy)
      have hW2' := hid (hWz.out.set j (.int .u8 (y : Int)))
      have hji : (j : Int) < (ny : Int) := by omega
      have hLb : ny ≤ 140737488355328 := hLx.out
      clear hcell hfr hx0 hzl
      go_wp2
      go_roundw
      case rel => exact ⟨j + 1, _, by omega, by go_num, hO2', hW2'⟩
      case measure => simp [intOf]; omega
    · obtain rfl : j = ny := by omega
      have Op' := hid (Op.out.wr hWz.out (fun b e => by have := (gAx.out b e).2; omega))
      have hwr := hid (hWz.out.below B6.out z3 (fun b e => (gAx.out b e).1))
      have zwr : wc.heap.size ≤ wr.heap.size := hwr.out.size
      go_wp2_with fail
      go_loopw [21] (fun i wq => ∃ (j : Nat) (zs : List Nat), j ≤ nq ∧ i = .int .i64 (j : Int) ∧ Hid (Ow wq w4.heap.size (.slice Ap nq cp) zs) ∧ Hid (Wr Ap wr wq)) (fun i _ => nq - (intOf i).toNat)
      case atStart => exact ⟨0, _, Nat.zero_le _, rfl, Op', hid (Wr.refl Op'.out)⟩
      case round =>
        obtain ⟨j, zs, hj, rfl, hOz, hWz⟩ := hrel
        by_cases hcon : j < nq
        · have hop := hOz.out.open_ (Nat.lt_of_le_of_lt (Nat.zero_le _) hcon)
          obtain ⟨b, rfl, hzl, -, hbb, -, hcell, hfr⟩ := hop
          have hcj := hcell j hcon
          have hfj := hfr j
          obtain ⟨x0, hx0⟩ : ∃ x0, x0 = zs.getD j 0 := ⟨_, rfl⟩
          rw [← hx0] at hcj
          have hx0l : x0 < 256 := by
            rw [hx0, List.getD_eq_getElem?_getD, List.getElem?_eq_getElem (show j < zs.length by omega)]
            exact hOz.out.2.1 _ (List.getElem_mem (show j < zs.length by omega))
          obtain ⟨y, hy, hv⟩ := wrap_u8 x0
          have hO2' := hid (hOz.out.set j hy)
          have hW2' := hid (hWz.out.set j (.int .u8 (y : Int)))
          have hji : (j : Int) < (nq : Int) := by omega
          have hLb : nq ≤ 140737488355328 := hLp.out
          clear hcell hfr hx0 hzl
          go_wp2
          go_roundw
          case rel => exact ⟨j + 1, _, by omega, by go_num, hO2', hW2'⟩
          case measure => simp [intOf]; omega
        · obtain rfl : j = nq := by omega
          have hq := hid (hWz.out.below hwr.out zwr (fun b e => Nat.le_trans (by omega) (gAp.out b e).1))
          have Zq := hq.out.size
          have ca := conv_any (HY1.out.below hq.out)
          have cb := conv_any (HX.out.below hq.out)
          have se : (str xs == str xs) = true := beq_self_eq_true (str xs).data
          generalize str xs = T3 at *
          have PQ := hid (P1.out.below hq.out P1.out.lt)
          have AQ := hid (PA.out.below hq.out PA.out.lt)
          have PQc0 := PQ.out.c0
          have PQc1 := PQ.out.c1
          have PQc2 := PQ.out.c2
          have AQc0 := AQ.out.c0
          have AQc1 := AQ.out.c1
          have AQc2 := AQ.out.c2
          go_wp2_with fail
          refine (esame_raw (P := True) ((HR1.out.below hq.out).mono Zq) ((HR.out.below hq.out).mono Zq) (hid ⟨fun _ => ⟨rfl, rfl, rfl, fun _ => rfl⟩, fun _ => trivial⟩)).mono ?_
          rintro e w7 ⟨r, rfl, Hr, J⟩
          obtain rfl : r = true := Hr.out.2 trivial
          clear PQc0 PQc1 PQc2 AQc0 AQc1 AQc2 ca cb se
          have K7 := hid (K.out.trans (hq.out.mono K.out.size))
          go_wp2
          go_ret
          exact ⟨rfl, K7.out.trans (J.out.mono K7.out.size)⟩

end Go.Proofs.Ytmaggpigodkhhaa
