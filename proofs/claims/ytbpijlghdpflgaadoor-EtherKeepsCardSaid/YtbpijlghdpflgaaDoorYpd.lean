/- Ether, the program: put, Send, finder, both finds, Double. -/
import Derived.Test.YtbpijlghdpflgaaDoorYpc
namespace Go.Proofs.YtbpijlghdpflgaaDoor.Eth
open Go.RowKit Go.Shelf Go.Lib

set_option maxHeartbeats 1600000 in
theorem put_full {w : World} {m d c : Nat} {A D : Option Addr} {x y : Int} {s : Bool} :
    Calls Tryd.prog 22 #[.slice A 16 c, .agg #[.int .i64 x, .int .i64 y, .slice D m d, .bool s]] w (LstR w 9 []) := by
  obtain ⟨W, hW⟩ : ∃ W, W = w.alloc (.cells #[.int .i64 x, .int .i64 y, .slice D m d, .bool s] 28) := ⟨_, rfl⟩
  have B0 := hid (show Below w.heap.size w W from hW ▸ (Below.refl _ w).alloc (Nat.le_refl _) _)
  have HW := hid hW
  clear hW
  go_enter Tryd.func22, Tryd.ntmps22
  go_upto_region 1 with fail
  rw [← HW.out]
  go_wp2
  go_ret2
  exact LstR.none' B0.out
theorem cow_of_tg {w w1 w' : World} {l : List Cp} {A' : Option Addr} {n' c' : Nat} {rs : List Cr} {q : Int} (hb : Below w.heap.size w w1) (h : Cow w' (fun k => w1.heap.size ≤ k) A' n' c' rs l ∧ Below w1.heap.size w1 w' ∧ n' = l.length) :
    LstR w q l (.returned (.tuple #[.slice A' n' c', .int .i64 q])) w' := ⟨_, _, _, _, rfl, hid ⟨h.1.mono (fun _ hk => Nat.le_trans hb.size hk), gbelow_on hb (Nat.le_refl _) h.2.1, h.2.2⟩⟩
set_option maxHeartbeats 3200000 in
set_option maxRecDepth 100000 in
theorem put_room {w : World} {B C n m d c : Nat} {A D : Option Addr} {l : List Cp} {x y : Int} {t : List Nat} {s : Bool} (h : Cls w B A n c l) (hB : B ≤ w.heap.size) (hn : n < 16) (hT : ∀ p ∈ l, MayC p) (ht : Gs w C D m d 1 (cellsB t)) (hf : ∀ b ∈ t, b < 256) (hC : C ≤ w.heap.size) (hm : m ≤ 50000) :
    Calls Tryd.prog 22 #[.slice A n c, .agg #[.int .i64 x, .int .i64 y, .slice D m d, .bool s]] w (LstR w 0 (l ++ [(x, y, t, s)])) := by
  obtain ⟨W, hW⟩ : ∃ W, W = w.alloc (.cells #[.int .i64 x, .int .i64 y, .slice D m d, .bool s] 28) := ⟨_, rfl⟩
  have B0 := hid (show Below w.heap.size w W from hW ▸ (Below.refl _ w).alloc (Nat.le_refl _) _)
  have X0 := hid (show Cbx W w.heap.size x y D m d s from hW ▸ Cbx.new w x y D m d s)
  have x0 := X0.out.c0
  have x1 := X0.out.c1
  have x2 := X0.out.c2
  have x3 := X0.out.c3
  have HW := hid hW
  have H0 := hid (h.on hB B0.out)
  have T0 := hid (ht.on hC B0.out)
  have hl := h.len
  have ho := cls_one (x := x) (y := y) (s := s) T0.out hf
  have hb1 : Below W.heap.size W (W.alloc (.cells #[.int .i64 x, .int .i64 y, .slice D m d, .bool s] 28)) := (Below.refl _ W).alloc (Nat.le_refl _) _
  have hs1 : (W.alloc (.cells #[.int .i64 x, .int .i64 y, .slice D m d, .bool s] 28)).heap.size = W.heap.size + 1 := by simp
  have hb2 : Below (W.heap.size + 1) (W.alloc (.cells #[.int .i64 x, .int .i64 y, .slice D m d, .bool s] 28)) ((W.alloc (.cells #[.int .i64 x, .int .i64 y, .slice D m d, .bool s] 28)).alloc (.cells #[.slice A n c, .slice (some ⟨W.heap.size, 0, none⟩) 1 1] 22)) := by
    rw [← hs1]
    exact (Below.refl _ _).alloc (Nat.le_refl _) _
  have h2 := heap_alloc_new (W.alloc (.cells #[.int .i64 x, .int .i64 y, .slice D m d, .bool s] 28)) (.cells #[.slice A n c, .slice (some ⟨W.heap.size, 0, none⟩) 1 1] 22)
  rw [hs1] at h2 ho
  have hz : W.heap.size + 1 < ((W.alloc (.cells #[.int .i64 x, .int .i64 y, .slice D m d, .bool s] 28)).alloc (.cells #[.slice A n c, .slice (some ⟨W.heap.size, 0, none⟩) 1 1] 22)).heap.size := by simp
  have BB := hid (below_two W (.cells #[.int .i64 x, .int .i64 y, .slice D m d, .bool s] 28) (.cells #[.slice A n c, .slice (some ⟨W.heap.size, 0, none⟩) 1 1] 22))
  have CT := hid (together_any (w := (W.alloc (.cells #[.int .i64 x, .int .i64 y, .slice D m d, .bool s] 28)).alloc (.cells #[.slice A n c, .slice (some ⟨W.heap.size, 0, none⟩) 1 1] 22))
    (Gs.new (cs := cellsS [(A, n, c), (some ⟨W.heap.size, 0, none⟩, 1, 1)]) (k := 1) (n := 2) (c := 2) h2 hz rfl (Nat.le_refl _) (by omega))
    (Lss.cons ((H0.out.on (Nat.le_refl _) BB.out)) (Lss.one ((ho.below hb2).mono (Nat.le_of_lt hz)))) (Nat.le_refl _) (by simp; omega)
    (by
      intro q hq p hp
      rcases List.mem_cons.1 hq with rfl | hq
      · have := (hT p hp).2.2.2; omega
      · obtain rfl : q = [(x, y, t, s)] := by simpa using hq
        obtain rfl : p = (x, y, t, s) := by simpa using hp
        show t.length ≤ 50000
        rw [T0.out.blen]; exact hm))
  rw [show ([l, [(x, y, t, s)]] : List (List Cp)).flatten = l ++ [(x, y, t, s)] by simp] at CT
  have hnz : ((n : Int) == 16) = false := by rw [beq_eq_false_iff_ne]; omega
  have hnz2 : ¬ (n : Int) = 16 := by omega
  clear hW h hB hT ht hf hC hl ho hb1 hs1 hb2 h2 hz T0
  go_enter Tryd.func22, Tryd.ntmps22
  go_upto_region 1 with fail
  rw [← HW.out]
  go_wp2_with fail
  refine CT.out.mono ?_
  rintro e w1 ⟨A1, n1, c1, rs1, rfl, h1⟩
  go_wp2
  go_ret2
  exact cow_of_tg (gbelow_on B0.out (Nat.le_refl _) BB.out) h1.out

set_option maxHeartbeats 6400000 in
set_option maxRecDepth 100000 in
theorem send_ok : SendOk := by
  intro w B C n c m d A D l x y t s h hB ht hf hC
  obtain ⟨W, hW⟩ : ∃ W, W = w.alloc (.cells #[.int .i64 x, .int .i64 y, .slice D m d, .bool s] 28) := ⟨_, rfl⟩
  have B0 := hid (show Below w.heap.size w W from hW ▸ (Below.refl _ w).alloc (Nat.le_refl _) _)
  have X0 := hid (show Cbx W w.heap.size x y D m d s from hW ▸ Cbx.new w x y D m d s)
  have HW := hid hW
  have H0 := hid (h.on hB B0.out)
  have T0 := hid (ht.on hC B0.out)
  have hl := hid h.len
  have hcap := h.cap
  have HF := hid hf
  have CK := hid (check_ok H0.out (Nat.le_refl _))
  clear hW h hB ht hC hf
  by_cases h0 : echk l = 0
  case neg =>
    have hE : snE l (x, y, t, s) = echk l := by unfold snE; rw [if_pos h0]
    have hL : snL l (x, y, t, s) = [] := by unfold snL; rw [hE, if_neg h0]
    rw [hE, hL]
    clear hE hL
    generalize echk l = q at h0 CK ⊢
    go_enter Tryd.func7, Tryd.ntmps7
    go_upto_region 1 with fail
    rw [← HW.out]
    go_wp2_with fail
    refine CK.out.mono ?_
    rintro e w1 ⟨rfl, hb⟩
    go_wp2
    go_ret2
    exact LstR.none' (gbelow_on B0.out (Nat.le_refl _) hb.out)
  rw [h0] at CK
  have HMY := hid (echk_zero.1 h0).2
  have hlen := (echk_zero.1 h0).1
  have CM := hid (fun X (hX : Below W.heap.size W X) => bad_any (w := X) (x := x) (y := y) (s := s) (T0.out.below hX))
  by_cases hm : MayC (x, y, t, s)
  case neg =>
    have hE : snE l (x, y, t, s) = 8 := by unfold snE; rw [if_neg (by simp [h0]), if_pos hm]
    have hL : snL l (x, y, t, s) = [] := by unfold snL; rw [hE]; rfl
    rw [hE, hL]
    rw [decide_eq_true hm] at CM
    clear hE hL h0 hlen hm
    go_enter Tryd.func7, Tryd.ntmps7
    go_upto_region 1 with fail
    rw [← HW.out]
    go_wp2_with fail
    refine CK.out.mono ?_
    rintro e w1 ⟨rfl, hb⟩
    have X1 := hid (X0.out.below hb.out X0.out.lt)
    have x0 := X1.out.c0
    have x1 := X1.out.c1
    have x2 := X1.out.c2
    have x3 := X1.out.c3
    go_wp2_with fail
    refine (CM.out _ hb.out).mono ?_
    rintro e w2 ⟨rfl, hb2⟩
    go_wp2
    go_ret2
    exact LstR.none' (gbelow_on (gbelow_on B0.out (Nat.le_refl _) hb.out) (Nat.le_refl _) hb2.out)
  rw [decide_eq_false (show ¬ ¬ MayC (x, y, t, s) from fun q => q hm)] at CM
  have hmm : m ≤ 50000 := by have h1 := hm.2.2.2; have h2 := T0.out.blen; simp only at h1; omega
  by_cases h16 : 16 ≤ n
  case pos =>
    have hE : snE l (x, y, t, s) = 9 := by unfold snE; rw [if_neg (by simp [h0]), if_neg (fun h => h hm), if_pos (by rw [hl.out]; exact h16)]
    have hL : snL l (x, y, t, s) = [] := by unfold snL; rw [hE]; rfl
    obtain rfl : n = 16 := by have := hl.out; omega
    rw [hE, hL]
    clear hE hL h0 hlen hm h16
    go_enter Tryd.func7, Tryd.ntmps7
    go_upto_region 1 with fail
    rw [← HW.out]
    go_wp2_with fail
    refine CK.out.mono ?_
    rintro e w1 ⟨rfl, hb⟩
    have X1 := hid (X0.out.below hb.out X0.out.lt)
    have x0 := X1.out.c0
    have x1 := X1.out.c1
    have x2 := X1.out.c2
    have x3 := X1.out.c3
    go_wp2_with fail
    refine (CM.out _ hb.out).mono ?_
    rintro e w2 ⟨rfl, hb2⟩
    have X2 := hid (X1.out.below hb2.out X1.out.lt)
    clear x0 x1 x2 x3
    have x0 := X2.out.c0
    have x1 := X2.out.c1
    have x2 := X2.out.c2
    have x3 := X2.out.c3
    go_wp2_with fail
    refine put_full.mono ?_
    rintro e w3 ⟨A3, n3, c3, rs3, rfl, h3⟩
    go_wp2
    go_ret2
    exact ⟨_, _, _, _, rfl, hid ⟨h3.out.1.mono (fun k hk => Nat.le_trans (gbelow_on (gbelow_on B0.out (Nat.le_refl _) hb.out) (Nat.le_refl _) hb2.out).size hk), gbelow_on (gbelow_on (gbelow_on B0.out (Nat.le_refl _) hb.out) (Nat.le_refl _) hb2.out) (Nat.le_refl _) h3.out.2.1, h3.out.2.2⟩⟩
  have hE : snE l (x, y, t, s) = 0 := by unfold snE; rw [if_neg (by simp [h0]), if_neg (fun h => h hm), if_neg (by rw [hl.out]; exact h16)]
  have hL : snL l (x, y, t, s) = l ++ [(x, y, t, s)] := by unfold snL; rw [hE]; rfl
  rw [hE, hL]
  have h16' : n < 16 := by omega
  clear hE hL h0 hlen hm h16
  go_enter Tryd.func7, Tryd.ntmps7
  go_upto_region 1 with fail
  rw [← HW.out]
  go_wp2_with fail
  refine CK.out.mono ?_
  rintro e w1 ⟨rfl, hb⟩
  have X1 := hid (X0.out.below hb.out X0.out.lt)
  have x0 := X1.out.c0
  have x1 := X1.out.c1
  have x2 := X1.out.c2
  have x3 := X1.out.c3
  go_wp2_with fail
  refine (CM.out _ hb.out).mono ?_
  rintro e w2 ⟨rfl, hb2⟩
  have X2 := hid (X1.out.below hb2.out X1.out.lt)
  have H2 := hid ((H0.out.on (Nat.le_refl _) hb.out).on (Nat.le_refl _) hb2.out)
  have T2 := hid ((T0.out.on (Nat.le_refl _) hb.out).on (Nat.le_refl _) hb2.out)
  have CP := hid (put_room (x := x) (y := y) (s := s) H2.out (Nat.le_refl _) h16' HMY.out T2.out HF.out (Nat.le_refl _) hmm)
  clear x0 x1 x2 x3 CM CK T0 H0
  have x0 := X2.out.c0
  have x1 := X2.out.c1
  have x2 := X2.out.c2
  have x3 := X2.out.c3
  go_wp2_with fail
  refine CP.out.mono ?_
  rintro e w3 ⟨A3, n3, c3, rs3, rfl, h3⟩
  go_wp2
  go_ret2
  exact ⟨_, _, _, _, rfl, hid ⟨h3.out.1.mono (fun k hk => Nat.le_trans (gbelow_on (gbelow_on B0.out (Nat.le_refl _) hb.out) (Nat.le_refl _) hb2.out).size hk), gbelow_on (gbelow_on (gbelow_on B0.out (Nat.le_refl _) hb.out) (Nat.le_refl _) hb2.out) (Nat.le_refl _) h3.out.2.1, h3.out.2.2⟩⟩

set_option maxHeartbeats 1600000 in
theorem finder_bad {w : World} {B n c : Nat} {A : Option Addr} {l : List Cp} (h : Cls w B A n c l) (hB : B ≤ w.heap.size) (h0 : echk l ≠ 0) :
    Calls Tryd.prog 23 #[.slice A n c] w fun e w' => e = .returned (.func (.func 35) #[.int .i64 (echk l)] #[]) ∧ Hid (Below w.heap.size w w') := by
  have CK := hid (check_ok h hB)
  clear h
  generalize echk l = q at h0 CK ⊢
  go_enter Tryd.func23, Tryd.ntmps23
  go_wp2_with fail
  refine CK.out.mono ?_
  rintro e w1 ⟨rfl, hb⟩
  go_wp2
  go_ret
  exact ⟨rfl, hb⟩
set_option maxHeartbeats 1600000 in
theorem finder_good {w : World} {B n c : Nat} {A : Option Addr} {l : List Cp} (h : Cls w B A n c l) (hB : B ≤ w.heap.size) (h0 : echk l = 0) :
    Calls Tryd.prog 23 #[.slice A n c] w fun e w' => e = .returned (.func (.func 36) #[.slice A n c] #[]) ∧ Hid (Below w.heap.size w w') := by
  have CK := hid (check_ok h hB)
  rw [h0] at CK
  clear h h0
  go_enter Tryd.func23, Tryd.ntmps23
  go_wp2_with fail
  refine CK.out.mono ?_
  rintro e w1 ⟨rfl, hb⟩
  go_wp2
  go_ret
  exact ⟨rfl, hb⟩

theorem res2_cell {P : Program} {fn : Func} {p u : Tmp} {ty : TypeId} (h : fn.results = #[.cell p ty, .tmp u]) (tmps : Array Value) (w : World) (g : Nat) (t : TypeId) (cs : Array Value) (fr : Nat × Nat) (d : TypeDesc)
    (hp : tmps.getD p undef = .pointer (some ⟨g, 0, none⟩)) (hg : w.heap[g]? = some (.cells cs t fr))
    (hu : P.underlying ty = some d) (hd : (match d with | .struct _ | .array _ _ => true | _ => false) = true) (hi : (P.info? ty).map (·.size) = some cs.size) :
    (results fn tmps).run P w = .ok (.tuple #[.agg cs, tmps.getD u undef]) w := by
  have hp2 : tmps[p]?.getD undef = .pointer (some ⟨g, 0, none⟩) := by simpa using hp
  simp only [results, h]
  simp [Result.andThen, hp2, asAddr, run_loadVar_row w g t ty cs fr d hg hu hd hi]
theorem ret_copy2 {fn : Func} {R : Ending → World → Prop} {a : Act} {w : World} {p u : Tmp} {g n c : Nat} {x y : Int} {A : Option Addr} {s : Bool} {er : Value} (h : fn.results = #[.cell p 28, .tmp u]) (hp : a.tmps.getD p undef = .pointer (some ⟨g, 0, none⟩)) (hu : a.tmps.getD u undef = er)
    (hd : a.defers = []) (hg : Cbx w g x y A n c s) (hR : R (.returned (.tuple #[.agg #[.int .i64 x, .int .i64 y, .slice A n c, .bool s], er])) w) : bodyPost Tryd.prog fn R .ret a w := by
  refine bodyPost_ret ?_ hd hR
  rw [← hu]
  exact res2_cell h a.tmps w g _ _ _ _ hp hg Tryd.underlying28 rfl sizeC

/-- What find leaves that finds none. -/
def FnoR (w : World) (q : Int) (e : Ending) (w' : World) : Prop := e = .returned (.tuple #[.agg #[.int .i64 0, .int .i64 0, .slice none 0 0, .bool false], .int .i64 q]) ∧ Hid (Below w.heap.size w w')
set_option maxHeartbeats 1600000 in
set_option maxRecDepth 100000 in
theorem refuse_any (w : World) (q i : Int) : Calls Tryd.prog 35 #[.int .i64 q, .int .i64 i] w (FnoR w q) := by
  obtain ⟨W, hW⟩ : ∃ W, W = w.alloc (.cells #[.int .i64 0, .int .i64 0, .slice none 0 0, .bool false] 28) := ⟨_, rfl⟩
  have B0 := hid (show Below w.heap.size w W from hW ▸ (Below.refl _ w).alloc (Nat.le_refl _) _)
  have X0 := hid (show Cbx W w.heap.size 0 0 none 0 0 false from hW ▸ Cbx.new w 0 0 none 0 0 false)
  have HW := hid hW
  clear hW
  go_enter Tryd.func35, Tryd.ntmps35
  go_upto_region 1 with fail
  rw [← HW.out]
  go_wp2_with (first
    | (refine gput_row (P := Tryd.prog) rfl _ (.tmp 4) (.tmp 6) rfl w.heap.size 28 _ #[.int .i64 0, .int .i64 0, .slice none 0 0, .bool false] rfl rfl X0.out rfl sizeC (arr_one _ _ _ _ _ _) ?_
       intro w4 x4 q4
       have B4 := hid (q4.bel B0.out (Nat.le_refl _)))
    | fail)
  refine ret_copy2 (g := w.heap.size) rfl rfl rfl rfl x4 ?_
  exact ⟨rfl, B4⟩
set_option maxHeartbeats 1600000 in
set_option maxRecDepth 100000 in
theorem find_none {w : World} {n c : Nat} {A : Option Addr} {i : Int} (hi : ¬ (0 ≤ i ∧ i < (n : Int))) : Calls Tryd.prog 36 #[.slice A n c, .int .i64 i] w (FnoR w 2) := by
  obtain ⟨W, hW⟩ : ∃ W, W = w.alloc (.cells #[.int .i64 0, .int .i64 0, .slice none 0 0, .bool false] 28) := ⟨_, rfl⟩
  have B0 := hid (show Below w.heap.size w W from hW ▸ (Below.refl _ w).alloc (Nat.le_refl _) _)
  have X0 := hid (show Cbx W w.heap.size 0 0 none 0 0 false from hW ▸ Cbx.new w 0 0 none 0 0 false)
  have HW := hid hW
  clear hW
  by_cases h1 : i < 0
  · clear hi
    go_enter Tryd.func36, Tryd.ntmps36
    go_upto_region 1 with fail
    rw [← HW.out]
    go_wp2_with (first
      | (refine gput_row (P := Tryd.prog) rfl _ (.tmp 4) (.tmp 14) rfl w.heap.size 28 _ #[.int .i64 0, .int .i64 0, .slice none 0 0, .bool false] rfl rfl X0.out rfl sizeC (arr_one _ _ _ _ _ _) ?_
         intro w4 x4 q4
         have B4 := hid (q4.bel B0.out (Nat.le_refl _)))
      | fail)
    refine ret_copy2 (g := w.heap.size) rfl rfl rfl rfl x4 ?_
    exact ⟨rfl, B4⟩
  · have h2 : i ≥ (n : Int) := by omega
    clear hi
    go_enter Tryd.func36, Tryd.ntmps36
    go_upto_region 1 with fail
    rw [← HW.out]
    go_wp2_with (first
      | (refine gput_row (P := Tryd.prog) rfl _ (.tmp 4) (.tmp 14) rfl w.heap.size 28 _ #[.int .i64 0, .int .i64 0, .slice none 0 0, .bool false] rfl rfl X0.out rfl sizeC (arr_one _ _ _ _ _ _) ?_
         intro w4 x4 q4
         have B4 := hid (q4.bel B0.out (Nat.le_refl _)))
      | fail)
    refine ret_copy2 (g := w.heap.size) rfl rfl rfl rfl x4 ?_
    exact ⟨rfl, B4⟩
/-- What find leaves that finds one. -/
def FndR (w : World) (p : Cp) (e : Ending) (w' : World) : Prop := ∃ (A' : Option Addr) (c' : Nat), e = .returned (.tuple #[.agg #[.int .i64 p.1, .int .i64 p.2.1, .slice A' p.2.2.1.length c', .bool p.2.2.2], .int .i64 0]) ∧
  Hid (Tow w' (fun k => w.heap.size ≤ k) (p.1, p.2.1, (A', p.2.2.1.length, c'), p.2.2.2) ∧ Crd w' w'.heap.size (p.1, p.2.1, (A', p.2.2.1.length, c'), p.2.2.2) p ∧ Below w.heap.size w w')
set_option maxHeartbeats 3200000 in
set_option maxRecDepth 100000 in
theorem find_any {w : World} {B n c k : Nat} {A : Option Addr} {l : List Cp} {p : Cp} (h : Cls w B A n c l) (hB : B ≤ w.heap.size) (hp : l[k]? = some p) (hT : p.2.2.1.length ≤ 50000) :
    Calls Tryd.prog 36 #[.slice A n c, .int .i64 (k : Int)] w (FndR w p) := by
  have hk : k < n := by rw [← h.len]; exact (List.getElem?_eq_some_iff.1 hp).1
  obtain ⟨W, hW⟩ : ∃ W, W = w.alloc (.cells #[.int .i64 0, .int .i64 0, .slice none 0 0, .bool false] 28) := ⟨_, rfl⟩
  have B0 := hid (show Below w.heap.size w W from hW ▸ (Below.refl _ w).alloc (Nat.le_refl _) _)
  have X0 := hid (show Cbx W w.heap.size 0 0 none 0 0 false from hW ▸ Cbx.new w 0 0 none 0 0 false)
  have HW := hid hW
  have hm := h.max
  have hcap := h.cap
  obtain ⟨b, off, x, y, A', n', c', t, s, rfl, hb, hp2, c0, c1, c2, c3, ht, hf⟩ := ((h.mono hB).below B0.out).get hk
  obtain rfl : p = (x, y, t, s) := by rw [hp] at hp2; injection hp2
  have hn' : n' ≤ 50000 := by have := ht.blen; simp only at hT; omega
  have HNT := hid ht.blen
  have CT := hid (tw_any (w := W) (x := x) (y := y) (s := s) ht hf B0.out.size hn')
  have hkz : ¬ (k : Int) < 0 := by omega
  have hkn : ¬ (k : Int) ≥ (n : Int) := by omega
  have hkn2 : (k : Int) < (n : Int) := by omega
  clear hW h hB hp hp2 ht hf hT
  go_enter Tryd.func36, Tryd.ntmps36
  go_upto_region 1 with fail
  rw [← HW.out]
  go_wp2_with (first
    | (go_at_call 39
       refine CT.out.mono ?_
       rintro e w1 ⟨A1, c1, rfl, h1⟩
       have B1 := hid (gbelow_on B0.out (Nat.le_refl _) h1.out.2.2)
       have X1 := hid (X0.out.below h1.out.2.2 X0.out.lt)
       have T1 := hid h1.out.1
       have C1 := hid h1.out.2.1
       clear h1)
    | (refine gput_row (P := Tryd.prog) rfl _ (.tmp 4) (.tmp 19) rfl w.heap.size 28 _ #[.int .i64 x, .int .i64 y, .slice A1 n' c1, .bool s] rfl rfl X1.out rfl sizeC (arr_one _ _ _ _ _ _) ?_
       intro w4 x4 q4
       have B4 := hid (q4.bel B1.out (Nat.le_refl _))
       have K4 := hid (show Keep8 (fun k => W.heap.size ≤ k) w1 w4 from ⟨Nat.le_of_eq q4.size, fun k cur hk _ => q4.block k (fun e => by have h1 := X0.out.lt; have h2 : W.heap.size ≤ k := hk; omega)⟩)
       have T4 := hid ((T1.out.kept K4.out).mono (T := fun k => w.heap.size ≤ k) (fun q (hq : W.heap.size ≤ q) => Nat.le_trans B0.out.size hq))
       have C4 := hid (T1.out.crd C1.out K4.out)
       have X4 := hid (show Cbx w4 w.heap.size x y A1 n' c1 s from x4)
       clear x4)
    | fail)
  refine ret_copy2 (g := w.heap.size) rfl rfl rfl rfl X4.out ?_
  obtain rfl : t.length = n' := HNT.out
  exact ⟨_, _, rfl, hid ⟨T4.out, C4.out, B4.out⟩⟩

set_option maxHeartbeats 6400000 in
set_option maxRecDepth 100000 in
theorem double_ok : DoubleOk := by
  intro w B n c A l i h hB
  have H := hid (h.mono hB)
  have hl := hid h.len
  have hcap := h.cap
  have hmax := h.max
  clear h hB
  by_cases h0 : echk l = 0
  case neg =>
    have hE : dbE l i = echk l := by unfold dbE; rw [if_pos h0]
    have hL : dbL l i = [] := by unfold dbL; rw [hE, if_neg h0]
    rw [hE, hL]
    have CK := hid (finder_bad H.out (Nat.le_refl _) h0)
    clear hE hL
    generalize echk l = q at h0 CK ⊢
    go_enter Tryd.func9, Tryd.ntmps9
    go_wp2_with fail
    refine CK.out.mono ?_
    rintro e w1 ⟨rfl, hb⟩
    go_wp2_with fail
    refine (refuse_any _ q i).mono ?_
    rintro e w2 ⟨rfl, hb2⟩
    have B3 := hid ((gbelow_on hb.out (Nat.le_refl _) hb2.out).alloc (gbelow_on hb.out (Nat.le_refl _) hb2.out).size (.cells #[.int .i64 0, .int .i64 0, .slice none 0 0, .bool false] 28))
    go_wp2
    go_ret2
    exact LstR.none' B3.out
  have CK := hid (finder_good H.out (Nat.le_refl _) h0)
  have HMY := hid (echk_zero.1 h0).2
  have hlen := (echk_zero.1 h0).1
  by_cases hi : plc l i
  case neg =>
    have hE : dbE l i = 2 := by unfold dbE; rw [if_neg (by simp [h0]), if_pos hi]
    have hL : dbL l i = [] := by unfold dbL; rw [hE]; rfl
    rw [hE, hL]
    have CF := hid (fun (X : World) => find_none (w := X) (c := c) (A := A) (show ¬ (0 ≤ i ∧ i < (n : Int)) from fun q => hi (by unfold plc; rw [hl.out]; exact q)))
    clear hE hL h0 hlen hi
    go_enter Tryd.func9, Tryd.ntmps9
    go_wp2_with fail
    refine CK.out.mono ?_
    rintro e w1 ⟨rfl, hb⟩
    go_wp2_with fail
    refine (CF.out _).mono ?_
    rintro e w2 ⟨rfl, hb2⟩
    have B3 := hid ((gbelow_on hb.out (Nat.le_refl _) hb2.out).alloc (gbelow_on hb.out (Nat.le_refl _) hb2.out).size (.cells #[.int .i64 0, .int .i64 0, .slice none 0 0, .bool false] 28))
    go_wp2
    go_ret2
    exact LstR.none' B3.out
  obtain ⟨k, rfl⟩ : ∃ k : Nat, i = (k : Int) := ⟨i.toNat, by have := hi.1; omega⟩
  have hkn : k < n := by have := hi.2; rw [hl.out] at this; omega
  obtain ⟨⟨x, y, t, s⟩, hp0⟩ : ∃ p, l[k]? = some p := ⟨_, List.getElem?_eq_getElem (by rw [hl.out]; exact hkn)⟩
  have hmp := HMY.out _ (List.mem_of_getElem? hp0)
  have htl : t.length ≤ 50000 := by have := hmp.2.2.2; simp only at this; omega
  have CF := hid (fun (X : World) (hX : Below w.heap.size w X) => find_any (H.out.on (Nat.le_refl _) hX) (Nat.le_refl _) hp0 htl)
  have hg : l.getD k C0 = (x, y, t, s) := by rw [List.getD_eq_getElem?_getD, hp0]; rfl
  by_cases h16 : 16 ≤ n
  case pos =>
    have hE : dbE l (k : Int) = 9 := by unfold dbE; rw [if_neg (by simp [h0]), if_neg (fun q => q hi), if_pos (by rw [hl.out]; exact h16)]
    have hL : dbL l (k : Int) = [] := by unfold dbL; rw [hE]; rfl
    obtain rfl : n = 16 := by have := hl.out; omega
    rw [hE, hL]
    clear hE hL h0 hlen hi hg hp0 hmp h16
    go_enter Tryd.func9, Tryd.ntmps9
    go_wp2_with fail
    refine CK.out.mono ?_
    rintro e w1 ⟨rfl, hb⟩
    go_wp2_with fail
    refine (CF.out _ hb.out).mono ?_
    rintro e w2 ⟨A2, c2, rfl, h2⟩
    have B3 := hid ((gbelow_on hb.out (Nat.le_refl _) h2.out.2.2).alloc (gbelow_on hb.out (Nat.le_refl _) h2.out.2.2).size (.cells #[.int .i64 x, .int .i64 y, .slice A2 t.length c2, .bool s] 28))
    go_wp2_with fail
    refine put_full.mono ?_
    rintro e w3 ⟨A3, n3, c3, rs3, rfl, h3⟩
    go_wp2
    go_ret2
    exact ⟨_, _, _, _, rfl, hid ⟨h3.out.1.mono (fun k hk => Nat.le_trans B3.out.size hk), gbelow_on B3.out (Nat.le_refl _) h3.out.2.1, h3.out.2.2⟩⟩
  have hE : dbE l (k : Int) = 0 := by unfold dbE; rw [if_neg (by simp [h0]), if_neg (fun q => q hi), if_neg (by rw [hl.out]; exact h16)]
  have hL : dbL l (k : Int) = l ++ [(x, y, t, s)] := by unfold dbL; rw [hE]; simp only [if_true, Int.toNat_natCast, hg]
  have h16' : n < 16 := by omega
  rw [hE, hL]
  clear hE hL h0 hlen hi hg hp0 hmp h16
  go_enter Tryd.func9, Tryd.ntmps9
  go_wp2_with fail
  refine CK.out.mono ?_
  rintro e w1 ⟨rfl, hb⟩
  go_wp2_with fail
  refine (CF.out _ hb.out).mono ?_
  rintro e w2 ⟨A2, c2, rfl, h2⟩
  have b2 := hid ((Below.refl w2.heap.size w2).alloc (Nat.le_refl _) (.cells #[.int .i64 x, .int .i64 y, .slice A2 t.length c2, .bool s] 28))
  have B3 := hid (gbelow_on (gbelow_on hb.out (Nat.le_refl _) h2.out.2.2) (Nat.le_refl _) b2.out)
  have C2 := hid (h2.out.2.1.on (Nat.le_refl _) b2.out)
  have CP := hid (put_room (x := x) (y := y) (s := s) (H.out.on (Nat.le_refl _) B3.out) (Nat.le_refl _) h16' HMY.out C2.out.txt C2.out.fit (Nat.le_refl _) htl)
  clear h2 CF CK
  go_wp2_with fail
  refine CP.out.mono ?_
  rintro e w3 ⟨A3, n3, c3, rs3, rfl, h3⟩
  go_wp2
  go_ret2
  exact ⟨_, _, _, _, rfl, hid ⟨h3.out.1.mono (fun k hk => Nat.le_trans B3.out.size hk), gbelow_on B3.out (Nat.le_refl _) h3.out.2.1, h3.out.2.2⟩⟩
end Go.Proofs.YtbpijlghdpflgaaDoor.Eth
