/- Ether: the document's Take. -/
import Derived.Test.YtbpijlghdpflgaaYtk
import Derived.Deep.RegionWith
import Derived.Laws.ResultCell
import Derived.Laws.Rows
namespace Go.Proofs.Ytbpijlghdpflgaa.Eth
open Go.RowKit Go.Shelf Go.Lib

theorem res3_cell {P : Program} {fn : Func} {b p u : Tmp} {ty : TypeId} (h : fn.results = #[.tmp b, .cell p ty, .tmp u]) (tmps : Array Value) (w : World) (g : Nat) (t : TypeId) (cs : Array Value) (fr : Nat × Nat) (d : TypeDesc)
    (hp : tmps.getD p undef = .pointer (some ⟨g, 0, none⟩)) (hg : w.heap[g]? = some (.cells cs t fr))
    (hu : P.underlying ty = some d) (hd : (match d with | .struct _ | .array _ _ => true | _ => false) = true) (hi : (P.info? ty).map (·.size) = some cs.size) :
    (results fn tmps).run P w = .ok (.tuple #[tmps.getD b undef, .agg cs, tmps.getD u undef]) w := by
  have hp2 : tmps[p]?.getD undef = .pointer (some ⟨g, 0, none⟩) := by simpa using hp
  simp only [results, h]
  simp [Result.andThen, hp2, asAddr, run_loadVar_row w g t ty cs fr d hg hu hd hi]
theorem ret_copy3 {fn : Func} {R : Ending → World → Prop} {a : Act} {w : World} {b p u : Tmp} {g n c : Nat} {x y : Int} {A : Option Addr} {s : Bool} {v er : Value} (h : fn.results = #[.tmp b, .cell p 25, .tmp u]) (hb : a.tmps.getD b undef = v) (hp : a.tmps.getD p undef = .pointer (some ⟨g, 0, none⟩)) (hu : a.tmps.getD u undef = er)
    (hd : a.defers = []) (hg : Cbx w g x y A n c s) (hR : R (.returned (.tuple #[v, .agg #[.int .i64 x, .int .i64 y, .slice A n c, .bool s], er])) w) : bodyPost Try.prog fn R .ret a w := by
  refine bodyPost_ret ?_ hd hR
  rw [← hu, ← hb]
  exact res3_cell h a.tmps w g _ _ _ _ hp hg Try.underlying25 rfl sizeC
theorem res1_cell {P : Program} {fn : Func} {p : Tmp} {ty : TypeId} (h : fn.results = #[.cell p ty]) (tmps : Array Value) (w : World) (g : Nat) (t : TypeId) (cs : Array Value) (fr : Nat × Nat) (d : TypeDesc)
    (hp : tmps.getD p undef = .pointer (some ⟨g, 0, none⟩)) (hg : w.heap[g]? = some (.cells cs t fr))
    (hu : P.underlying ty = some d) (hd : (match d with | .struct _ | .array _ _ => true | _ => false) = true) (hi : (P.info? ty).map (·.size) = some cs.size) :
    (results fn tmps).run P w = .ok (.agg cs) w := results_cell_row h tmps w g t cs fr d hp hg hu hd hi
theorem ret_copy1 {fn : Func} {R : Ending → World → Prop} {a : Act} {w : World} {p : Tmp} {g n c : Nat} {x y : Int} {A : Option Addr} {s : Bool} (h : fn.results = #[.cell p 25]) (hp : a.tmps.getD p undef = .pointer (some ⟨g, 0, none⟩))
    (hd : a.defers = []) (hg : Cbx w g x y A n c s) (hR : R (.returned (.agg #[.int .i64 x, .int .i64 y, .slice A n c, .bool s])) w) : bodyPost Try.prog fn R .ret a w :=
  bodyPost_ret (res1_cell h a.tmps w g _ _ _ _ hp hg Try.underlying25 rfl sizeC) hd hR

theorem arr_one (x y : Int) (A : Option Addr) (n c : Nat) (s : Bool) : (#[.int .i64 x, .int .i64 y, .slice A n c, .bool s] : Array Value).all (·.oneCell') = true :=
  all_oneCell_toArray (cs := [.int .i64 x, .int .i64 y, .slice A n c, .bool s]) (by intro v hv; simp at hv; rcases hv with rfl | rfl | rfl | rfl <;> rfl)
/-- A copy stored into its box. -/
def put4 (w : World) (g : Nat) (x y : Int) (A : Option Addr) (n c : Nat) (s : Bool) : World := (((w.setCell ⟨g, 0, none⟩ (.int .i64 x)).setCell ⟨g, 1, none⟩ (.int .i64 y)).setCell ⟨g, 2, none⟩ (.slice A n c)).setCell ⟨g, 3, none⟩ (.bool s)
theorem Cbx.put4 {w : World} {g n c n' c' : Nat} {x y x' y' : Int} {A A' : Option Addr} {s s' : Bool} (h : Cbx w g x y A n c s) : Cbx (put4 w g x' y' A' n' c' s') g x' y' A' n' c' s' := by
  have h0 := heap_setCell_same w g 0 _ _ (.int .i64 x') h
  have h1 := heap_setCell_same _ g 1 _ _ (.int .i64 y') h0
  have h2 := heap_setCell_same _ g 2 _ _ (.slice A' n' c') h1
  exact heap_setCell_same _ g 3 _ _ (.bool s') h2
theorem gq_put4 (w : World) (g : Nat) (x y : Int) (A : Option Addr) (n c : Nat) (s : Bool) : Gq g w (put4 w g x y A n c s) :=
  ⟨rfl, rfl, rfl, by simp [Eth.put4, World.setCell], fun b hb => by
    unfold Eth.put4
    rw [Below.heap_setCell _ _ _ b hb, Below.heap_setCell _ _ _ b hb, Below.heap_setCell _ _ _ b hb, Below.heap_setCell _ _ _ b hb]⟩
/-- A single copy of its own. -/
theorem Cow.one {w : World} {S : Nat → Prop} {A : Option Addr} {c : Nat} {rs : List Cr} {p : Cp} (h : Cow w S A 1 c rs [p]) : ∃ (g o : Nat) (x y : Int) (D : Option Addr) (m d : Nat) (s : Bool), A = some ⟨g, o, none⟩ ∧ S g ∧ g < w.heap.size ∧
    w.cell? ⟨g, o, none⟩ = some (.int .i64 x) ∧ w.cell? ⟨g, o + 1, none⟩ = some (.int .i64 y) ∧ w.cell? ⟨g, o + 2, none⟩ = some (.slice D m d) ∧ w.cell? ⟨g, o + 3, none⟩ = some (.bool s) ∧ Tow w S (x, y, (D, m, d), s) ∧ Crd w w.heap.size (x, y, (D, m, d), s) p := by
  obtain ⟨h1, h2, h3, h4⟩ := h
  obtain ⟨g, o, cur, rfl, hS, hh, _⟩ := h4 (by omega)
  obtain ⟨r, rfl⟩ : ∃ r, rs = [r] := by
    match rs, h2.1 with
    | [r], _ => exact ⟨r, rfl⟩
  obtain ⟨x, y, ⟨D, m, d⟩, s⟩ := r
  have hc := h1.cells
  have e : cellsC [((x, y, (D, m, d), s) : Cr)] = [.int .i64 x, .int .i64 y, .slice D m d, .bool s] := rfl
  rw [e] at hc
  refine ⟨g, o, x, y, D, m, d, s, rfl, hS, lt_of_heap hh, ?_, ?_, ?_, ?_, h3 _ (by simp), h2.2 0 _ _ rfl rfl⟩
  · have := hc 0 _ rfl; rwa [Addr.add_lit] at this
  · have := hc 1 _ rfl; rwa [Addr.add_lit] at this
  · have := hc 2 _ rfl; rwa [Addr.add_lit] at this
  · have := hc 3 _ rfl; rwa [Addr.add_lit] at this
/-- What Take leaves, to be read. -/
def TakR (w : World) (q : Int) (l : List Cp) (p : Cp) (e : Ending) (w' : World) : Prop :=
  ∃ A' n' c' x y D m d s, e = .returned (.tuple #[.slice A' n' c', .agg #[.int .i64 x, .int .i64 y, .slice D m d, .bool s], .int .i64 q]) ∧ Hid (Cls w' w'.heap.size A' n' c' l ∧ Crd w' w'.heap.size (x, y, (D, m, d), s) p ∧ Below w.heap.size w w' ∧ Tow w' (fun k => w.heap.size ≤ k) (x, y, (D, m, d), s))
theorem Crd.zero (w : World) (B : Nat) : Crd w B (0, 0, (none, 0, 0), false) C0 := ⟨rfl, rfl, rfl, Gs.nil' w B 1, by simp [C0]⟩
theorem TakR.none' {w w' : World} {q : Int} (hb : Below w.heap.size w w') : TakR w q [] C0 (.returned (.tuple #[.slice none 0 0, .agg #[.int .i64 0, .int .i64 0, .slice none 0 0, .bool false], .int .i64 q])) w' := ⟨_, _, _, _, _, _, _, _, _, rfl, hid ⟨Cls.nil' _ _, Crd.zero _ _, hb, fun h0 => absurd h0 (Nat.lt_irrefl 0)⟩⟩

set_option maxHeartbeats 6400000 in
set_option maxRecDepth 100000 in
theorem rtake_any {w : World} {B n c : Nat} {A : Option Addr} {l : List Cp} (h : Cls w B A n c l) (hB : B ≤ w.heap.size) (i : Int) :
    Calls Try.prog 9 #[.slice A n c, .int .i64 i] w (TakR w (tkE l i) (tkL l i) (tkC l i)) := by
  obtain ⟨W, hW⟩ : ∃ W, W = w.alloc (.cells #[.int .i64 0, .int .i64 0, .slice none 0 0, .bool false] 25) := ⟨_, rfl⟩
  have B0 := hid (show Below w.heap.size w W from hW ▸ (Below.refl _ w).alloc (Nat.le_refl _) _)
  have X0 := hid (show Cbx W w.heap.size 0 0 none 0 0 false from hW ▸ Cbx.new w 0 0 none 0 0 false)
  have HW := hid hW
  have H0 := hid (h.on hB B0.out)
  have hl := hid h.len
  have hcap := h.cap
  have CK := hid (rcheck_any H0.out (Nat.le_refl _))
  clear hW h hB
  by_cases h0 : echk l = 0
  case neg =>
    have hE : tkE l i = echk l := by unfold tkE; rw [if_pos h0]
    have hL : tkL l i = [] := by unfold tkL; rw [hE, if_neg h0]
    have hC : tkC l i = C0 := by unfold tkC; rw [hE, if_neg h0]
    rw [hE, hL, hC]
    clear hE hL hC
    generalize echk l = q at h0 CK ⊢
    go_enter Try.func9, Try.ntmps9
    go_upto_region 1 with fail
    rw [← HW.out]
    go_wp2_with fail
    refine CK.out.mono ?_
    rintro e w1 ⟨rfl, hb⟩
    have X1 := hid (X0.out.below hb.out X0.out.lt)
    have B1 := hid (gbelow_on B0.out (Nat.le_refl _) hb.out)
    go_wp2_with (first
      | (refine gput_row (P := Try.prog) rfl _ (.tmp 5) (.tmp 12) rfl w.heap.size 25 _ #[.int .i64 0, .int .i64 0, .slice none 0 0, .bool false] rfl rfl X1.out rfl sizeC (arr_one _ _ _ _ _ _) ?_
         intro w3 x3 q3
         have X3 := hid (show Cbx w3 w.heap.size 0 0 none 0 0 false from x3)
         have B3 := hid (q3.bel B1.out (Nat.le_refl _))
         clear x3 q3)
      | fail)
    refine ret_copy3 (g := w.heap.size) rfl rfl rfl rfl rfl X3.out ?_
    exact TakR.none' B3.out
  rw [h0] at CK
  have hmay := (echk_zero.1 h0).2
  have hn16 : n ≤ 16 := by have := (echk_zero.1 h0).1; rw [hl.out] at this; exact this
  by_cases hi0 : i < 0
  case pos =>
    have hE : tkE l i = 2 := by unfold tkE plc; rw [if_neg (by simp [h0]), if_pos (by omega)]
    have hL : tkL l i = [] := by unfold tkL; rw [hE]; rfl
    have hC : tkC l i = C0 := by unfold tkC; rw [hE]; rfl
    rw [hE, hL, hC]
    clear hE hL hC h0 hmay
    go_enter Try.func9, Try.ntmps9
    go_upto_region 1 with fail
    rw [← HW.out]
    go_wp2_with fail
    refine CK.out.mono ?_
    rintro e w1 ⟨rfl, hb⟩
    have X1 := hid (X0.out.below hb.out X0.out.lt)
    have B1 := hid (gbelow_on B0.out (Nat.le_refl _) hb.out)
    go_wp2_with (first
      | (refine gput_row (P := Try.prog) rfl _ (.tmp 5) (.tmp 22) rfl w.heap.size 25 _ #[.int .i64 0, .int .i64 0, .slice none 0 0, .bool false] rfl rfl X1.out rfl sizeC (arr_one _ _ _ _ _ _) ?_
         intro w3 x3 q3
         have X3 := hid (show Cbx w3 w.heap.size 0 0 none 0 0 false from x3)
         have B3 := hid (q3.bel B1.out (Nat.le_refl _))
         clear x3 q3)
      | fail)
    refine ret_copy3 (g := w.heap.size) rfl rfl rfl rfl rfl X3.out ?_
    exact TakR.none' B3.out
  obtain ⟨k, rfl⟩ : ∃ k : Nat, i = (k : Int) := ⟨i.toNat, by omega⟩
  clear hi0
  by_cases hkn : k < n
  case neg =>
    have hE : tkE l (k : Int) = 2 := by unfold tkE plc; rw [if_neg (by simp [h0]), if_pos (by rw [hl.out]; omega)]
    have hL : tkL l (k : Int) = [] := by unfold tkL; rw [hE]; rfl
    have hC : tkC l (k : Int) = C0 := by unfold tkC; rw [hE]; rfl
    have hz : (k : Int) ≥ (n : Int) := by omega
    rw [hE, hL, hC]
    clear hE hL hC h0 hmay
    go_enter Try.func9, Try.ntmps9
    go_upto_region 1 with fail
    rw [← HW.out]
    go_wp2_with fail
    refine CK.out.mono ?_
    rintro e w1 ⟨rfl, hb⟩
    have X1 := hid (X0.out.below hb.out X0.out.lt)
    have B1 := hid (gbelow_on B0.out (Nat.le_refl _) hb.out)
    go_wp2_with (first
      | (refine gput_row (P := Try.prog) rfl _ (.tmp 5) (.tmp 22) rfl w.heap.size 25 _ #[.int .i64 0, .int .i64 0, .slice none 0 0, .bool false] rfl rfl X1.out rfl sizeC (arr_one _ _ _ _ _ _) ?_
         intro w3 x3 q3
         have X3 := hid (show Cbx w3 w.heap.size 0 0 none 0 0 false from x3)
         have B3 := hid (q3.bel B1.out (Nat.le_refl _))
         clear x3 q3)
      | fail)
    refine ret_copy3 (g := w.heap.size) rfl rfl rfl rfl rfl X3.out ?_
    exact TakR.none' B3.out
  have hz : ¬ (k : Int) ≥ (n : Int) := by omega
  obtain ⟨p0, hp0⟩ : ∃ p0, l[k]? = some p0 := ⟨_, List.getElem?_eq_getElem (by rw [hl.out]; exact hkn)⟩
  have hE : tkE l (k : Int) = 0 := by unfold tkE plc; rw [if_neg (by simp [h0]), if_neg (fun h => h (by rw [hl.out]; omega))]
  have hL : tkL l (k : Int) = l.take k ++ l.drop (k + 1) := by unfold tkL; rw [if_pos hE]; rfl
  have hC : tkC l (k : Int) = p0 := by
    unfold tkC
    rw [if_pos hE, Int.toNat_natCast, List.getD_eq_getElem?_getD, hp0]
    rfl
  rw [hE, hL, hC]
  obtain ⟨b, off, _, _, _, _, _, _, _, rfl, _, _⟩ := H0.out.get hkn
  have HP0 := hid hp0
  have HMY := hid hmay
  have hmp := hmay p0 (List.mem_of_getElem? hp0)
  clear hE hL hC h0 hp0 hmay
  have hw3 : IntKind.i64.wrap ((k : Int) + 1) = (k : Int) + 1 := by rw [IntKind.wrap_i64]; omega
  have htn : ((k : Int) + 1).toNat = k + 1 := by omega
  have hb1 : (0 : Int) ≤ (k : Int) + 1 := by omega
  have hb2 : (k : Int) + 1 ≤ (n : Int) := by omega
  have hb3 : (k : Int) + 1 ≤ (c : Int) := by omega
  have hb4 : (k : Int) ≤ (k : Int) + 1 := by omega
  have hb5 : (k : Int) ≤ (n : Int) := by omega
  have hb6 : (k : Int) ≤ (c : Int) := by omega
  have ha1 : k + 1 ≤ c := by omega
  have hck : ¬ (c = k) := by omega
  have hk1 : k + 1 - k = 1 := by omega
  go_enter Try.func9, Try.ntmps9
  go_upto_region 1 with fail
  rw [← HW.out]
  go_wp2_with fail
  refine CK.out.mono ?_
  rintro e w1 ⟨rfl, hb⟩
  have X1 := hid (X0.out.below hb.out X0.out.lt)
  have B1 := hid (gbelow_on B0.out (Nat.le_refl _) hb.out)
  have H1 := hid (H0.out.on (Nat.le_refl _) hb.out)
  have CW := hid (fun X (hX : Below w1.heap.size w1 X) => without_any (H1.out.on (Nat.le_refl _) hX) (Nat.le_refl _) hn16 HMY.out hkn)
  have CT := hid (fun X (hX : Below w1.heap.size w1 X) => show Calls Try.prog 5 #[.slice (some ⟨b, off + k * 4, none⟩) 1 (c - k)] X (TwinR X 1 [p0]) from by
    have h1 := ((H1.out.on (Nat.le_refl _) hX).restA (p := k) (c' := c - k) (by omega) (by omega)).first (p := 1) (c' := c - k) (by omega) (by omega) (fun e => (by cases e))
    rw [Addr.add_lit] at h1
    have h2 : (l.drop k).take 1 = [p0] := by
      obtain ⟨hk2, h3⟩ := List.getElem?_eq_some_iff.1 HP0.out
      rw [List.drop_eq_getElem_cons hk2, h3]
      rfl
    rw [h2] at h1
    exact twin_own h1 (Nat.le_refl _) (by omega) (by intro p hp; simp at hp; rw [hp]; exact hmp))
  have HB0 := hid ((Below.refl w1.heap.size w1).drew)
  clear hb CK H0 B0 X0 HW
  go_upto_region 6 with fail
  go_region_with
    (first
    | (go_at_call 26
       first
       | (with_reducible refine (CW.out _ HBb.out).mono ?_
          rintro e wf ⟨Aa, ca, rsa, rfl, ha⟩
          have HLf := hid (ha.out.1.mono (fun q hq => Nat.le_trans HBb.out.size hq))
          have HBf := hid (gbelow_on HBb.out (Nat.le_refl _) ha.out.2)
          have HOf := hid (HOb.out.kept (Keep8.of_below ha.out.2))
          have HTf := hid (HTb.out.on (Nat.le_refl _) ha.out.2)
          have d0 := (ha.out.2.cell (p := ⟨g, o, none⟩) hgb.out).trans d0
          have d1 := (ha.out.2.cell (p := ⟨g, o + 1, none⟩) hgb.out).trans d1
          have d2 := (ha.out.2.cell (p := ⟨g, o + 2, none⟩) hgb.out).trans d2
          have d3 := (ha.out.2.cell (p := ⟨g, o + 3, none⟩) hgb.out).trans d3
          have XF := hid (X1.out.below HBf.out X1.out.lt)
          have k0 := XF.out.c0
          have k1 := XF.out.c1
          have k2 := XF.out.c2
          have k3 := XF.out.c3
          have z0 := XF.out.frozen 0
          have z1 := XF.out.frozen 1
          have z2 := XF.out.frozen 2
          have z3 := XF.out.frozen 3)
       | (with_reducible refine (CW.out _ HB0.out).mono ?_
          rintro e wa ⟨Aa, ca, rsa, rfl, ha⟩
          have HBa := hid (gbelow_on HB0.out (Nat.le_refl _) ha.out.2)))
    | (go_at_call 5
       first
       | (with_reducible refine (CT.out _ HBa.out).mono ?_
          rintro e wf ⟨Ab, cb, rsb, rfl, hb⟩
          obtain ⟨g, o, x, y, D, m, d, s, rfl, hSg, hgb, d0, d1, d2, d3, hto, htc⟩ := hb.out.1.one
          have HOf := hid (hto.mono (T := fun q => w1.heap.size ≤ q) (fun q hq => Nat.le_trans HBa.out.size hq))
          have HTf := hid htc
          have HBf := hid (gbelow_on HBa.out (Nat.le_refl _) hb.out.2)
          have HLf := hid ((ha.out.1.mono (T := fun q => w1.heap.size ≤ q) (fun q hq => Nat.le_trans HB0.out.size hq)).below hb.out.2)
          clear hto htc hSg hgb
          have XF := hid (X1.out.below HBf.out X1.out.lt)
          have k0 := XF.out.c0
          have k1 := XF.out.c1
          have k2 := XF.out.c2
          have k3 := XF.out.c3
          have z0 := XF.out.frozen 0
          have z1 := XF.out.frozen 1
          have z2 := XF.out.frozen 2
          have z3 := XF.out.frozen 3)
       | (with_reducible refine (CT.out _ HB0.out).mono ?_
          rintro e wb ⟨Ab, cb, rsb, rfl, hb⟩
          obtain ⟨g, o, x, y, D, m, d, s, rfl, hSg, hgb, d0, d1, d2, d3, hto, htc⟩ := hb.out.1.one
          have HOb := hid (hto.mono (T := fun q => w1.heap.size ≤ q) (fun q hq => Nat.le_trans HB0.out.size hq))
          have HTb := hid htc
          have HBb := hid (gbelow_on HB0.out (Nat.le_refl _) hb.out.2)
          have hgb := hid hgb
          clear hto htc hSg)))
  all_goals
    have GP := hid (gq_put4 wf w.heap.size x y D m d s)
    have XP := hid (show Cbx (put4 wf w.heap.size x y D m d s) w.heap.size x y D m d s from XF.out.put4)
    have BP := hid (GP.out.bel (gbelow_on B1.out (Nat.le_refl _) HBf.out) (Nat.le_refl _))
    have LP := hid (HLf.out.keep (Nat.le_of_eq GP.out.size) (fun q hq _ => GP.out.block q (by have := X1.out.lt; show q ≠ w.heap.size; omega))).cls
    have TP := hid (HOf.out.crd HTf.out (Keep8.gq GP.out XF.out))
    have UP := hid ((HOf.out.kept (Keep8.gq GP.out XF.out)).mono (T := fun k => w.heap.size ≤ k) (fun q hq => Nat.le_trans B1.out.size hq))
    clear d0 d1 d2 d3 k0 k1 k2 k3 z0 z1 z2 z3
    go_wp2
    refine ret_copy3 (g := w.heap.size) rfl rfl rfl rfl rfl XP.out ?_
    exact ⟨_, _, _, x, y, D, m, d, s, rfl, hid ⟨LP.out, TP.out, BP.out, UP.out⟩⟩
end Go.Proofs.Ytbpijlghdpflgaa.Eth
