/- Ether, the program: Take. -/
import Derived.Test.YtbpijlghdpflgaaDoorYpd
namespace Go.Proofs.YtbpijlghdpflgaaDoor.Eth
open Go.RowKit Go.Shelf Go.Lib

theorem Tow.old {w : World} {S : Nat → Prop} {r : Cr} (h : Tow w S r) : Tow w (fun k => S k ∧ k < w.heap.size) r := fun h0 => by
  obtain ⟨tb, off, cur, e, hs, hh, hc⟩ := h h0
  exact ⟨tb, off, cur, e, ⟨hs, lt_of_heap hh⟩, hh, hc⟩
theorem TakO.none' {w w' : World} {q : Int} (h : Below w.heap.size w w') : TakO w q [] C0 (.returned (.tuple #[.slice none 0 0, .agg #[.int .i64 0, .int .i64 0, .slice none 0 0, .bool false], .int .i64 q])) w' :=
  ⟨none, 0, 0, [], 0, 0, none, 0, 0, false, fun _ => False, rfl, hid ⟨Cow.nil _ _, fun _ h => h.elim, fun h0 => absurd h0 (Nat.lt_irrefl 0), ⟨rfl, rfl, rfl, Gs.nil' _ _ _, by simp [C0]⟩, h, rfl⟩⟩
/-- The two parts of a list beside a place. -/
theorem two_parts {w : World} {B n c k b off : Nat} {l : List Cp} (h : Cls w B (some ⟨b, off, none⟩) n c l) (hk : k < n) :
    Cls w B (some ⟨b, off, none⟩) k c (l.take k) ∧ (¬ c = k + 1 → Cls w B (some ⟨b, off + (k + 1) * 4, none⟩) (n - (k + 1)) (c - (k + 1)) (l.drop (k + 1))) ∧ (c = k + 1 → Cls w B (some ⟨b, off, none⟩) 0 0 (l.drop (k + 1))) := by
  have hcap := h.cap
  refine ⟨h.first (by omega) (by omega) (fun e => (by cases e)), fun _ => ?_, fun e => ?_⟩
  · have h1 := h.restA (p := k + 1) (c' := c - (k + 1)) (by omega) (by omega)
    rwa [Addr.add_lit] at h1
  · have : l.drop (k + 1) = [] := List.drop_of_length_le (by rw [h.len]; omega)
    rw [this]
    exact Cls.none' _ _ _ _

/-- together, of two lists that stand in a row of their own. -/
theorem tg_two {w : World} {C n c n2 c2 g : Nat} {A A2 : Option Addr} {l l2 : List Cp} (hC : C ≤ w.heap.size) (h : Cls w C A n c l) (h2 : Cls w C A2 n2 c2 l2) (hn : ([l, l2] : List (List Cp)).flatten.length ≤ 1000) (hT : ∀ q ∈ ([l, l2] : List (List Cp)), ∀ p ∈ q, p.2.2.1.length ≤ 50000)
    (Y : World) (hY : Below w.heap.size w Y) (hr : Y.heap[g]? = some (.cells #[.slice A n c, .slice A2 n2 c2] 22 (0, 0))) :
    Calls Tryd.prog 26 #[.slice (some ⟨g, 0, none⟩) 2 2] Y (TgR Y ([l, l2] : List (List Cp)).flatten) :=
  together_any (Gs.new (cs := cellsS [(A, n, c), (A2, n2, c2)]) (k := 1) (n := 2) (c := 2) hr (lt_of_heap hr) rfl (Nat.le_refl _) (by omega))
    (Lss.cons (h.on hC hY) (Lss.one (h2.on hC hY))) (Nat.le_refl _) hn hT
theorem alloc_drew (w : World) (o : Obj) : (w.alloc o).drew.heap[w.heap.size]? = some o := (((Below.refl (w.alloc o).heap.size (w.alloc o)).drew).block _ (by simp)).trans (heap_alloc_new w o)

set_option maxHeartbeats 6400000 in
set_option maxRecDepth 100000 in
theorem take_ok : TakeOk := by
  intro w B n c A l i h hB
  obtain ⟨W, hW⟩ : ∃ W, W = w.alloc (.cells #[.int .i64 0, .int .i64 0, .slice none 0 0, .bool false] 28) := ⟨_, rfl⟩
  have B0 := hid (show Below w.heap.size w W from hW ▸ (Below.refl _ w).alloc (Nat.le_refl _) _)
  have X0 := hid (show Cbx W w.heap.size 0 0 none 0 0 false from hW ▸ Cbx.new w 0 0 none 0 0 false)
  have HW := hid hW
  have H := hid (h.on hB B0.out)
  have HL0 := hid (h.mono hB)
  have hl := hid h.len
  have hcap := h.cap
  have hmax := h.max
  clear h hB hW
  by_cases h0 : echk l = 0
  case neg =>
    have hE : tkE l i = echk l := by unfold tkE; rw [if_pos h0]
    have hL : tkL l i = [] := by unfold tkL; rw [hE, if_neg h0]
    have hC : tkC l i = C0 := by unfold tkC; rw [hE, if_neg h0]
    rw [hE, hL, hC]
    have CK := hid (finder_bad H.out (Nat.le_refl _) h0)
    clear hE hL hC
    generalize echk l = q at h0 CK ⊢
    go_enter Tryd.func11, Tryd.ntmps11
    go_upto_region 1 with fail
    rw [← HW.out]
    go_wp2_with fail
    refine CK.out.mono ?_
    rintro e w1 ⟨rfl, hb⟩
    go_wp2_with fail
    refine (refuse_any _ q i).mono ?_
    rintro e w2 ⟨rfl, hb2⟩
    have B2 := hid (gbelow_on (gbelow_on B0.out (Nat.le_refl _) hb.out) (Nat.le_refl _) hb2.out)
    have X2 := hid ((X0.out.below hb.out X0.out.lt).below hb2.out (Nat.lt_of_lt_of_le X0.out.lt hb.out.size))
    go_wp2_with (first
      | (refine gput_row (P := Tryd.prog) rfl _ (.tmp 5) (.tmp 12) rfl w.heap.size 28 _ #[.int .i64 0, .int .i64 0, .slice none 0 0, .bool false] rfl rfl X2.out rfl sizeC (arr_one _ _ _ _ _ _) ?_
         intro w3 x3 q3
         have X3 := hid (show Cbx w3 w.heap.size 0 0 none 0 0 false from x3)
         have B3 := hid (q3.bel B2.out (Nat.le_refl _))
         clear x3)
      | (refine gput_row (P := Tryd.prog) rfl _ (.tmp 5) (.tmp 16) rfl w.heap.size 28 _ #[.int .i64 0, .int .i64 0, .slice none 0 0, .bool false] rfl rfl X3.out rfl sizeC (arr_one _ _ _ _ _ _) ?_
         intro w4 x4 q4
         have X4 := hid (show Cbx w4 w.heap.size 0 0 none 0 0 false from x4)
         have B4 := hid (q4.bel B3.out (Nat.le_refl _))
         clear x4)
      | fail)
    refine ret_copy3 (g := w.heap.size) rfl rfl rfl rfl rfl X4.out ?_
    exact TakO.none' B4.out
  have CK := hid (finder_good H.out (Nat.le_refl _) h0)
  have HMY := hid (echk_zero.1 h0).2
  have hlen := (echk_zero.1 h0).1
  by_cases hi : plc l i
  case neg =>
    have hE : tkE l i = 2 := by unfold tkE; rw [if_neg (by simp [h0]), if_pos hi]
    have hL : tkL l i = [] := by unfold tkL; rw [hE]; rfl
    have hC : tkC l i = C0 := by unfold tkC; rw [hE]; rfl
    rw [hE, hL, hC]
    have CF := hid (fun (X : World) => find_none (w := X) (c := c) (A := A) (show ¬ (0 ≤ i ∧ i < (n : Int)) from fun q => hi (by unfold plc; rw [hl.out]; exact q)))
    clear hE hL hC h0 hlen hi
    go_enter Tryd.func11, Tryd.ntmps11
    go_upto_region 1 with fail
    rw [← HW.out]
    go_wp2_with fail
    refine CK.out.mono ?_
    rintro e w1 ⟨rfl, hb⟩
    go_wp2_with fail
    refine (CF.out _).mono ?_
    rintro e w2 ⟨rfl, hb2⟩
    have B2 := hid (gbelow_on (gbelow_on B0.out (Nat.le_refl _) hb.out) (Nat.le_refl _) hb2.out)
    have X2 := hid ((X0.out.below hb.out X0.out.lt).below hb2.out (Nat.lt_of_lt_of_le X0.out.lt hb.out.size))
    go_wp2_with (first
      | (refine gput_row (P := Tryd.prog) rfl _ (.tmp 5) (.tmp 12) rfl w.heap.size 28 _ #[.int .i64 0, .int .i64 0, .slice none 0 0, .bool false] rfl rfl X2.out rfl sizeC (arr_one _ _ _ _ _ _) ?_
         intro w3 x3 q3
         have X3 := hid (show Cbx w3 w.heap.size 0 0 none 0 0 false from x3)
         have B3 := hid (q3.bel B2.out (Nat.le_refl _))
         clear x3)
      | (refine gput_row (P := Tryd.prog) rfl _ (.tmp 5) (.tmp 16) rfl w.heap.size 28 _ #[.int .i64 0, .int .i64 0, .slice none 0 0, .bool false] rfl rfl X3.out rfl sizeC (arr_one _ _ _ _ _ _) ?_
         intro w4 x4 q4
         have X4 := hid (show Cbx w4 w.heap.size 0 0 none 0 0 false from x4)
         have B4 := hid (q4.bel B3.out (Nat.le_refl _))
         clear x4)
      | fail)
    refine ret_copy3 (g := w.heap.size) rfl rfl rfl rfl rfl X4.out ?_
    exact TakO.none' B4.out
  obtain ⟨k, rfl⟩ : ∃ k : Nat, i = (k : Int) := ⟨i.toNat, by have := hi.1; omega⟩
  have hkn : k < n := by have := hi.2; rw [hl.out] at this; omega
  obtain ⟨⟨x, y, t, s⟩, hp0⟩ : ∃ p, l[k]? = some p := ⟨_, List.getElem?_eq_getElem (by rw [hl.out]; exact hkn)⟩
  have hmp := HMY.out _ (List.mem_of_getElem? hp0)
  have htl : t.length ≤ 50000 := by have := hmp.2.2.2; simp only at this; omega
  have CF := hid (fun (X : World) (hX : Below W.heap.size W X) => find_any (H.out.on (Nat.le_refl _) hX) (Nat.le_refl _) hp0 htl)
  have hg : l.getD k C0 = (x, y, t, s) := by rw [List.getD_eq_getElem?_getD, hp0]; rfl
  have hE : tkE l (k : Int) = 0 := by unfold tkE; rw [if_neg (by simp [h0]), if_neg (fun q => q hi)]
  have hL : tkL l (k : Int) = l.take k ++ l.drop (k + 1) := by unfold tkL; rw [if_pos hE, Int.toNat_natCast]
  have hC : tkC l (k : Int) = (x, y, t, s) := by unfold tkC; rw [if_pos hE, Int.toNat_natCast, hg]
  rw [hE, hL, hC]
  obtain ⟨b, off, _, _, _, _, _, _, _, rfl, _, _⟩ := HL0.out.get hkn
  have HTX := hid (show ∀ q ∈ ([l.take k, l.drop (k + 1)] : List (List Cp)), ∀ p ∈ q, p.2.2.1.length ≤ 50000 from by
    intro q hq p hp
    have hpl : p ∈ l := by
      rcases List.mem_cons.1 hq with rfl | hq
      · exact List.mem_of_mem_take hp
      · obtain rfl : q = l.drop (k + 1) := by simpa using hq
        exact List.mem_of_mem_drop hp
    have := (HMY.out p hpl).2.2.2
    omega)
  have hNF : ([l.take k, l.drop (k + 1)] : List (List Cp)).flatten = l.take k ++ l.drop (k + 1) := by simp
  have HNL := hid (show ([l.take k, l.drop (k + 1)] : List (List Cp)).flatten.length ≤ 1000 from by
    rw [hNF, List.length_append, List.length_take, List.length_drop]
    omega)
  have HNF := hid hNF
  clear hE hL hC h0 hlen hi hg hp0 hmp hNF
  have hw3 : IntKind.i64.wrap ((k : Int) + 1) = (k : Int) + 1 := by rw [IntKind.wrap_i64]; omega
  have htn : ((k : Int) + 1).toNat = k + 1 := by omega
  have hb1 : (0 : Int) ≤ (k : Int) + 1 := by omega
  have hb2 : (k : Int) + 1 ≤ (n : Int) := by omega
  have hb3 : (k : Int) ≤ (c : Int) := by omega
  have hb5 : (k : Int) ≤ (n : Int) := by omega
  have ha1 : k + 1 ≤ c := by omega
  go_enter Tryd.func11, Tryd.ntmps11
  go_upto_region 1 with fail
  rw [← HW.out]
  go_wp2_with fail
  refine CK.out.mono ?_
  rintro e w1 ⟨rfl, hb⟩
  go_wp2_with fail
  refine (CF.out _ hb.out).mono ?_
  rintro e w2 ⟨A2, c2, rfl, h2⟩
  have B2 := hid (gbelow_on (gbelow_on B0.out (Nat.le_refl _) hb.out) (Nat.le_refl _) h2.out.2.2)
  have X2 := hid ((X0.out.below hb.out X0.out.lt).below h2.out.2.2 (Nat.lt_of_lt_of_le X0.out.lt hb.out.size))
  have L2 := hid ((H.out.on (Nat.le_refl _) hb.out).on (Nat.le_refl _) h2.out.2.2)
  have hz01 : w.heap.size < w1.heap.size := Nat.lt_of_lt_of_le X0.out.lt hb.out.size
  have hz12 := h2.out.2.2.size
  have T2 := hid (h2.out.1.old)
  have C2 := hid h2.out.2.1
  have HZ := hid (And.intro hz01 hz12)
  clear hb h2 CF CK hz01 hz12
  change Hid (Crd w2 w2.heap.size (x, y, (A2, t.length, c2), s) (x, y, t, s)) at C2
  change Hid (Tow w2 (fun q => w1.heap.size ≤ q ∧ q < w2.heap.size) (x, y, (A2, t.length, c2), s)) at T2
  generalize t.length = m at *
  go_upto_region 2 with (first
    | (refine gput_row (P := Tryd.prog) rfl _ (.tmp 5) (.tmp 12) rfl w.heap.size 28 _ #[.int .i64 x, .int .i64 y, .slice A2 m c2, .bool s] rfl rfl X2.out rfl sizeC (arr_one _ _ _ _ _ _) ?_
       intro w3 x3 q3
       have X3 := hid (show Cbx w3 w.heap.size x y A2 m c2 s from x3)
       have B3 := hid (q3.bel B2.out (Nat.le_refl _))
       have Q3 := hid q3
       clear x3 q3)
    | fail)
  have L3 := hid (HL0.out.below B3.out)
  have P3 := hid (two_parts L3.out hkn)
  have HS := hid (fun (X : World) (hX : Below w3.heap.size w3 X) => show X.cell? ⟨w.heap.size, 0, none⟩ = some (.int .i64 x) ∧ X.cell? ⟨w.heap.size, 1, none⟩ = some (.int .i64 y) ∧ X.cell? ⟨w.heap.size, 2, none⟩ = some (.slice A2 m c2) ∧ X.cell? ⟨w.heap.size, 3, none⟩ = some (.bool s) from
    have hx := X3.out.below hX X3.out.lt
    ⟨hx.c0, hx.c1, hx.c2, hx.c3⟩)
  have HBd := hid (fun (o : Obj) => show Below w3.heap.size w3 (w3.alloc o).drew from ((Below.refl w3.heap.size w3).alloc (Nat.le_refl _) o).drew)
  have HBz := hid (Below.refl w3.heap.size w3)
  have hBw : w.heap.size ≤ w3.heap.size := B3.out.size
  clear L2 B2
  by_cases hpc : c = k + 1
  · have CT := hid (tg_two (g := w3.heap.size) hBw P3.out.1 (P3.out.2.2 hpc) HNL.out HTX.out)
    clear P3
    subst hpc
    obtain rfl : n = k + 1 := by omega
    have hz3 : k + 1 - (k + 1) = 0 := by omega
    have hb6 : (k : Int) ≤ (k : Int) + 1 := by omega
    rw [HNF.out] at CT
    go_upto_region 4 with fail
    go_region_held3 (fun X => X.cell? ⟨w.heap.size, 0, none⟩ = some (.int .i64 x) ∧ X.cell? ⟨w.heap.size, 1, none⟩ = some (.int .i64 y) ∧ X.cell? ⟨w.heap.size, 2, none⟩ = some (.slice A2 m c2) ∧ X.cell? ⟨w.heap.size, 3, none⟩ = some (.bool s))
      (first | (with_reducible exact HS.out _ HBz.out) | (with_reducible exact HS.out _ (HBz.out.drew)) | (with_reducible exact HS.out _ (HBd.out _)) | (exact ⟨XF.out.put4.c0, XF.out.put4.c1, XF.out.put4.c2, XF.out.put4.c3⟩) | (with_reducible exact HS.out _ ((Below.refl w3.heap.size w3).alloc (Nat.le_refl _) _)))
      (first
      | (go_at_call 26
         with_reducible refine (CT.out _ (HBd.out _) (alloc_drew _ _)).mono ?_
         rintro e wf ⟨Af, nf, cf, rsf, rfl, hf⟩
         have HBz := hid (gbelow_on (HBd.out _) (Nat.le_refl _) hf.out.2.1)
         have XF := hid (X3.out.below HBz.out X3.out.lt)
         have k0 := XF.out.c0
         have k1 := XF.out.c1
         have k2 := XF.out.c2
         have k3 := XF.out.c3
         have z0 := XF.out.frozen 0
         have z1 := XF.out.frozen 1
         have z2 := XF.out.frozen 2
         have z3 := XF.out.frozen 3)
      | fail)
    have BF := hid (gbelow_on B3.out (Nat.le_refl _) HBz.out)
    have GP := hid (gq_put4 wf w.heap.size x y A2 m c2 s)
    have XP := hid (show Cbx (put4 wf w.heap.size x y A2 m c2 s) w.heap.size x y A2 m c2 s from XF.out.put4)
    have BP := hid (GP.out.bel BF.out (Nat.le_refl _))
    have DZ := HBd.out (.cells #[.slice (some ⟨b, off, none⟩) k (k + 1), .slice (some ⟨b, off, none⟩) 0 0] 22)
    have hw23 := Q3.out.size
    have LP := hid (hf.out.1.keep (Nat.le_of_eq GP.out.size) (fun q (hq : (w3.alloc (.cells #[.slice (some ⟨b, off, none⟩) k (k + 1), .slice (some ⟨b, off, none⟩) 0 0] 22)).drew.heap.size ≤ q) _ => GP.out.block q (by have h1 := DZ.size; have h2 := X3.out.lt; show q ≠ w.heap.size; omega)))
    have K3 := hid (show Keep8 (fun q => w1.heap.size ≤ q ∧ q < w2.heap.size) w2 (put4 wf w.heap.size x y A2 m c2 s) from ((Keep8.gq Q3.out X2.out).trans (Keep8.of_below HBz.out)).trans (Keep8.gq GP.out XF.out))
    have TP := hid (T2.out.kept K3.out)
    have CP := hid (T2.out.crd C2.out K3.out)
    have hz := HZ.out
    clear k0 k1 k2 k3 z0 z1 z2 z3
    go_wp2
    refine ret_copy3 (g := w.heap.size) rfl rfl rfl rfl rfl XP.out ?_
    exact ⟨_, _, _, _, x, y, A2, m, c2, s, fun q => (w3.alloc (.cells #[.slice (some ⟨b, off, none⟩) k (k + 1), .slice (some ⟨b, off, none⟩) 0 0] 22)).drew.heap.size ≤ q, rfl, hid ⟨LP.out, fun q hq => Nat.le_trans hBw (Nat.le_trans DZ.size hq), TP.out.mono (fun q hq => ⟨by have := hq.1; show w.heap.size ≤ q; omega, fun h2 => by have h1 := DZ.size; have h3 := hq.2; omega⟩), CP.out, BP.out, hf.out.2.2⟩⟩
  · have CT := hid (tg_two (g := w3.heap.size) hBw P3.out.1 (P3.out.2.1 hpc) HNL.out HTX.out)
    clear P3
    have hkc : ¬ (c = k + 1) := hpc
    rw [HNF.out] at CT
    go_upto_region 4 with fail
    go_region_held3 (fun X => X.cell? ⟨w.heap.size, 0, none⟩ = some (.int .i64 x) ∧ X.cell? ⟨w.heap.size, 1, none⟩ = some (.int .i64 y) ∧ X.cell? ⟨w.heap.size, 2, none⟩ = some (.slice A2 m c2) ∧ X.cell? ⟨w.heap.size, 3, none⟩ = some (.bool s))
      (first | (with_reducible exact HS.out _ HBz.out) | (with_reducible exact HS.out _ (HBz.out.drew)) | (with_reducible exact HS.out _ (HBd.out _)) | (exact ⟨XF.out.put4.c0, XF.out.put4.c1, XF.out.put4.c2, XF.out.put4.c3⟩) | (with_reducible exact HS.out _ ((Below.refl w3.heap.size w3).alloc (Nat.le_refl _) _)))
      (first
      | (go_at_call 26
         with_reducible refine (CT.out _ (HBd.out _) (alloc_drew _ _)).mono ?_
         rintro e wf ⟨Af, nf, cf, rsf, rfl, hf⟩
         have HBz := hid (gbelow_on (HBd.out _) (Nat.le_refl _) hf.out.2.1)
         have XF := hid (X3.out.below HBz.out X3.out.lt)
         have k0 := XF.out.c0
         have k1 := XF.out.c1
         have k2 := XF.out.c2
         have k3 := XF.out.c3
         have z0 := XF.out.frozen 0
         have z1 := XF.out.frozen 1
         have z2 := XF.out.frozen 2
         have z3 := XF.out.frozen 3)
      | fail)
    have BF := hid (gbelow_on B3.out (Nat.le_refl _) HBz.out)
    have GP := hid (gq_put4 wf w.heap.size x y A2 m c2 s)
    have XP := hid (show Cbx (put4 wf w.heap.size x y A2 m c2 s) w.heap.size x y A2 m c2 s from XF.out.put4)
    have BP := hid (GP.out.bel BF.out (Nat.le_refl _))
    have DZ := HBd.out (.cells #[.slice (some ⟨b, off, none⟩) k c, .slice (some ⟨b, off + (k + 1) * 4, none⟩) (n - (k + 1)) (c - (k + 1))] 22)
    have hw23 := Q3.out.size
    have LP := hid (hf.out.1.keep (Nat.le_of_eq GP.out.size) (fun q (hq : (w3.alloc (.cells #[.slice (some ⟨b, off, none⟩) k c, .slice (some ⟨b, off + (k + 1) * 4, none⟩) (n - (k + 1)) (c - (k + 1))] 22)).drew.heap.size ≤ q) _ => GP.out.block q (by have h1 := DZ.size; have h2 := X3.out.lt; show q ≠ w.heap.size; omega)))
    have K3 := hid (show Keep8 (fun q => w1.heap.size ≤ q ∧ q < w2.heap.size) w2 (put4 wf w.heap.size x y A2 m c2 s) from ((Keep8.gq Q3.out X2.out).trans (Keep8.of_below HBz.out)).trans (Keep8.gq GP.out XF.out))
    have TP := hid (T2.out.kept K3.out)
    have CP := hid (T2.out.crd C2.out K3.out)
    have hz := HZ.out
    clear k0 k1 k2 k3 z0 z1 z2 z3
    go_wp2
    refine ret_copy3 (g := w.heap.size) rfl rfl rfl rfl rfl XP.out ?_
    exact ⟨_, _, _, _, x, y, A2, m, c2, s, fun q => (w3.alloc (.cells #[.slice (some ⟨b, off, none⟩) k c, .slice (some ⟨b, off + (k + 1) * 4, none⟩) (n - (k + 1)) (c - (k + 1))] 22)).drew.heap.size ≤ q, rfl, hid ⟨LP.out, fun q hq => Nat.le_trans hBw (Nat.le_trans DZ.size hq), TP.out.mono (fun q hq => ⟨by have := hq.1; show w.heap.size ≤ q; omega, fun h2 => by have h1 := DZ.size; have h3 := hq.2; omega⟩), CP.out, BP.out, hf.out.2.2⟩⟩
end Go.Proofs.YtbpijlghdpflgaaDoor.Eth
