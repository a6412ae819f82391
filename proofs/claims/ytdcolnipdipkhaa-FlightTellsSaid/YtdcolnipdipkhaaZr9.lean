/- Flight: the document's Land. -/
import Derived.Test.YtdcolnipdipkhaaVao
namespace Go.Proofs.Ytdcolnipdipkhaa.Fli
set_option maxRecDepth 100000
open Go.RowKit Go.Shelf Go.Lib

theorem Lof.one {B : Nat} {w : World} {v : Value} {rs : List Lr} {p : Ld Pm} (h : Lof B w v rs [p]) : ∃ (g c : Nat) (r : Lr), v = .slice (some ⟨g, 0, none⟩) 1 c ∧ 1 ≤ c ∧ Low B w r p ∧ w.rangeAt g 0 (lcells r.1 r.2.1 r.2.2.1 r.2.2.2).toList := by
  obtain ⟨r, rfl⟩ : ∃ r, rs = [r] := List.length_eq_one_iff.1 h.pair.1
  have hl := h.pair.2 0 r p rfl rfl
  obtain ⟨A, c, e, hg, _⟩ := h.row.form
  have hA : A ≠ none := fun e0 => by have := (hg.nil e0).1; simp at this
  obtain ⟨g, cap, cur, e2, hB, hgg, hn, hc, hs, ht⟩ := h.row.1.2.resolve_left (fun q => by have := q.2; simp at this)
  rw [e] at e2
  injection e2 with e3 e4 e5
  subst e3 e5
  obtain ⟨b, off, e6, hb, hc2⟩ := hg.at_ (by simp)
  injection e6 with e6
  injection e6 with e7 e8
  subst e7 e8
  refine ⟨g, c, r, e, hg.cap, hl, fun t v hv => ?_⟩
  refine hc2 t v ?_
  rw [cellsL_cons]
  have : t < (encL r).length := (List.getElem?_eq_some_iff.1 hv).1
  rw [List.getElem?_append_left this]
  exact hv
/-- What Land and Lose answer where no load is left of the Number. -/
theorem turn_gone {l : List (Ld Pm)} {x : Int} {f : Nat} {j : Nat} {p : Ld Pm} (h0 : askE l x = 0) (hj : l[j]? = some p) (hp : p.1 = x) (hf : fnd x l = some p) (hw : f = 2 ∨ (f = 1 ∧ ¬ 1 < p.2.2.1)) :
    tE l x f = 0 ∧ tL l x f = l.take j ++ l.drop (j + 1) ∧ tX l x f = p := by
  have hr := (askE_zero.1 h0).1.2.2
  have k0 : turnE l x f = 0 := by
    unfold turnE; rw [hf]
    rcases hw with rfl | ⟨rfl, _⟩ <;> rfl
  have hE : tE l x f = 0 := by unfold tE; rw [if_pos h0]; exact k0
  refine ⟨hE, ?_, ?_⟩
  · unfold tL turnL
    rw [hE, if_pos rfl, hf, del_at hr hj, hp]
    rcases hw with rfl | ⟨rfl, h1⟩
    · rfl
    · show (if 1 = 0 then _ else if 1 = 1 then (if 1 < p.2.2.1 then cpy x (fun c => c - 1) l else del x l) else _) = _
      rw [if_neg (by decide), if_pos rfl, if_neg h1]
  · unfold tX turnX
    rw [hE, if_pos rfl, hf]
    rcases hw with rfl | ⟨rfl, h1⟩
    · rfl
    · show Option.getD (if 1 = 0 then _ else if 1 = 1 then (if 1 < p.2.2.1 then none else some p) else _) p0 = _
      rw [if_neg (by decide), if_pos rfl, if_neg h1]; rfl
theorem turn_none {l : List (Ld Pm)} {x : Int} {f : Nat} (h0 : askE l x = 0) (hf : fnd x l = none) : tE l x f = 0 ∧ tL l x f = l ∧ tX l x f = p0 := by
  have k0 : turnE l x f = 0 := by unfold turnE; rw [hf]
  have hE : tE l x f = 0 := by unfold tE; rw [if_pos h0]; exact k0
  refine ⟨hE, ?_, ?_⟩
  · unfold tL turnL; rw [hE, if_pos rfl, hf]
  · unfold tX turnX; rw [hE, if_pos rfl, hf]; rfl
theorem turn_ask {l : List (Ld Pm)} {x : Int} {f : Nat} (h0 : askE l x ≠ 0) : tE l x f = askE l x ∧ tL l x f = [] ∧ tX l x f = p0 := by
  have e1 : tE l x f = askE l x := by unfold tE; rw [if_neg h0]
  refine ⟨e1, ?_, ?_⟩
  · unfold tL; rw [e1, if_neg h0]
  · unfold tX; rw [e1, if_neg h0]
theorem turn_lose {l : List (Ld Pm)} {x : Int} {j : Nat} {p : Ld Pm} (h0 : askE l x = 0) (hj : l[j]? = some p) (hp : p.1 = x) (hf : fnd x l = some p) (h1 : 1 < p.2.2.1) :
    tE l x 1 = 0 ∧ tL l x 1 = l.set j (p.1, p.2.1, p.2.2.1 - 1, p.2.2.2) ∧ tX l x 1 = p0 := by
  have hr := (askE_zero.1 h0).1.2.2
  have k0 : turnE l x 1 = 0 := by unfold turnE; rw [hf]; rfl
  have hE : tE l x 1 = 0 := by unfold tE; rw [if_pos h0]; exact k0
  refine ⟨hE, ?_, ?_⟩
  · unfold tL turnL
    rw [hE, if_pos rfl, hf, cpy_at hr hj (fun c => c - 1), hp]
    show (if 1 = 0 then _ else if 1 = 1 then (if 1 < p.2.2.1 then cpy x (fun c => c - 1) l else del x l) else _) = _
    rw [if_neg (by decide), if_pos rfl, if_pos h1]
  · unfold tX turnX
    rw [hE, if_pos rfl, hf]
    show Option.getD (if 1 = 0 then _ else if 1 = 1 then (if 1 < p.2.2.1 then none else some p) else _) p0 = _
    rw [if_neg (by decide), if_pos rfl, if_pos h1]; rfl
set_option maxHeartbeats 6400000 in
theorem rland_any {w : World} {B n c : Nat} {A : Option Addr} {l : List (Ld Pm)} (x : Int) (h : Lls w B A n c l) (hB : B ≤ w.heap.size) (hz : SzL l) :
    Calls Try.prog 13 #[.slice A n c, .int .i64 x] w (TurnR w (tL l x 2) (tX l x 2) (tE l x 2)) := by
  obtain ⟨W, hW⟩ : ∃ W, W = w.alloc (.cells (lcells 0 0 0 D0) 40) := ⟨_, rfl⟩
  have B0 := hid (show Below w.heap.size w W from hW ▸ (Below.refl _ w).alloc (Nat.le_refl _) _)
  have Y0 := hid (show Lbx W w.heap.size 0 0 0 D0 from hW ▸ Lbx.new w 0 0 0 D0)
  have H := hid ((h.mono hB).below B0.out)
  have HA := hid (asked_any x H.out B0.out.size)
  have hm := h.max
  have hcap := h.cap
  have HL := hid h.len
  have HZ := hid hz
  have HW := hid hW
  have hnil := h.nil
  clear hW h hz
  by_cases h0 : askE l x = 0
  case neg =>
    obtain ⟨e1, e2, e3⟩ := turn_ask (f := 2) h0
    rw [e1, e2, e3]
    generalize askE l x = q at *
    have hne : ¬ q = 0 := h0
    clear e1 e2 e3 h0 hnil
    go_enter Try.func13, Try.ntmps13
    go_upto_region 1 with fail
    have hW2 : (w.alloc (.cells #[.int .i64 0, .int .i64 0, .int .i64 0, .bool false, .slice none 0 0, .int .i64 0, .bool false, .slice none 0 0, .int .i64 0, .bool false, .slice none 0 0, .int .i64 0, .bool false, .slice none 0 0, .int .i64 0] 40)) = W := HW.out.symm
    rw [hW2]
    clear hW2
    go_wp2_with fail
    refine HA.out.mono ?_
    rintro e w1 ⟨rfl, H1⟩
    have B1 := hid (gbelow_on B0.out (Nat.le_refl _) H1.out)
    have Y1 := hid (Y0.out.below H1.out Y0.out.lt)
    go_wp2_with (first
      | (refine gput_row (P := Try.prog) rfl _ (.tmp 5) (.tmp 14) rfl w.heap.size 40 _ (lcells 0 0 0 D0) rfl rfl Y1.out rfl (loadSize 0 0 0 D0) (lcells_one 0 0 0 D0) ?_
         intro w8 x8 q8)
      | fail)
    refine ret_load3 (g := w.heap.size) (x := 0) (y := 0) (z := 0) (M := D0) rfl rfl rfl rfl rfl x8 ?_
    exact TurnR.none' (q8.bel B1.out (Nat.le_refl _))
  have H0 := hid h0
  rw [h0] at HA
  clear h0
  go_enter Try.func13, Try.ntmps13
  go_upto_region 1 with fail
  have hW2 : (w.alloc (.cells #[.int .i64 0, .int .i64 0, .int .i64 0, .bool false, .slice none 0 0, .int .i64 0, .bool false, .slice none 0 0, .int .i64 0, .bool false, .slice none 0 0, .int .i64 0, .bool false, .slice none 0 0, .int .i64 0] 40)) = W := HW.out.symm
  rw [hW2]
  clear hW2
  go_wp2_with fail
  refine HA.out.mono ?_
  rintro e w1 ⟨rfl, H1⟩
  have B1 := hid (gbelow_on B0.out (Nat.le_refl _) H1.out)
  have Y1 := hid (Y0.out.below H1.out Y0.out.lt)
  have CP := hid (place_any (x := x) (H.out.below (H1.out.mono B0.out.size)) B1.out.size)
  go_wp2_with fail
  refine CP.out.mono ?_
  rintro e w2 ⟨i, rfl, hpl, H2⟩
  have B2 := hid (gbelow_on B1.out (Nat.le_refl _) H2.out)
  have Y2 := hid (Y1.out.below H2.out Y1.out.lt)
  have K2 := hid ((H.out.below (H1.out.mono B0.out.size)).below (H2.out.mono B1.out.size))
  have S2 := hid Y2.out.lt
  clear CP HA
  rcases plc_fnd hpl.out (askE_zero.1 H0.out).1.2.2 with ⟨rfl, hf⟩ | ⟨j, p, rfl, hj, hpx, hf⟩
  · have HF := hid (turn_none (f := 2) H0.out hf)
    clear hf hpl hnil
    have CT := hid (rtwins_any K2.out B2.out.size HZ.out)
    go_wp2_with fail
    refine CT.out.mono ?_
    rintro e w3 ⟨v, rs, rfl, H3⟩
    have B3 := hid (gbelow_on B2.out (Nat.le_refl _) H3.out.2)
    have Y3 := hid (Y2.out.below H3.out.2 Y2.out.lt)
    go_wp2_with (first
      | (refine gput_row (P := Try.prog) rfl _ (.tmp 5) (.tmp 23) rfl w.heap.size 40 _ (lcells 0 0 0 D0) rfl rfl Y3.out rfl (loadSize 0 0 0 D0) (lcells_one 0 0 0 D0) ?_
         intro w8 x8 q8)
      | fail)
    have L4 := hid ((H3.out.1.gq q8 S2.out).mono (C := w.heap.size) B2.out.size)
    have B4 := hid (q8.bel B3.out (Nat.le_refl _))
    refine ret_load3 (g := w.heap.size) (x := 0) (y := 0) (z := 0) (M := D0) rfl rfl rfl rfl rfl x8 ?_
    rw [HF.out.1, HF.out.2.1, HF.out.2.2]
    exact ⟨v, rs, (0, 0, 0, D0), w8.heap.size, rfl, hid ⟨L4.out, B4.out, Low.zero _ _, L4.out.ahead, B4.out.size⟩⟩
  have hjn : j < n := by rw [← HL.out]; exact (List.getElem?_eq_some_iff.1 hj).1
  have hjz : (j : Int) < (n : Int) := by omega
  have hjp : ¬ (j : Int) < 0 := by omega
  have hjc : j ≤ c := by omega
  have hj1 : j + 1 ≤ c := by omega
  have hj1n : j + 1 ≤ n := by omega
  have hch : ¬ c = j := by omega
  have hjw1 : 0 ≤ (j : Int) + 1 := by omega
  have hjw2 : (j : Int) + 1 ≤ (c : Int) := by omega
  have hn1 : n ≤ 1000 := by rw [← HL.out]; exact HZ.out.1
  have hwr : IntKind.i64.wrap ((j : Int) + 1) = ((j + 1 : Nat) : Int) := by rw [IntKind.wrap_i64]; omega
  have HP := hid (And.intro hj (And.intro hpx hf))
  clear hf hj hpx hpl
  have HF := hid (turn_gone (f := 2) H0.out HP.out.1 HP.out.2.1 HP.out.2.2 (.inl rfl))
  have HS := hid (show SzL [p] from ⟨by show 1 ≤ 1000; omega, fun q hq => by rw [List.mem_singleton.1 hq]; exact HZ.out.2 p (List.mem_of_getElem? HP.out.1)⟩)
  cases A with
  | none => exact absurd (hnil rfl).1 (by omega)
  | some a0 =>
    have H1p := hid (show Lls w2 w.heap.size (some (Addr.add a0 (j * 15))) 1 (c - j) [p] from by
      have := ((K2.out.restA (p := j) (c' := c - j) (by omega) (by omega)).first (p := 1) (c' := c - j) (by omega) (by omega) (fun e => (by cases e)))
      rw [List.drop_eq_getElem_cons (by rw [HL.out]; exact hjn), List.take_succ_cons, List.take_zero] at this
      rw [show l[j]'(by rw [HL.out]; exact hjn) = p from (List.getElem?_eq_some_iff.1 HP.out.1).2] at this
      exact this)
    have HSW := hid (fun (X : World) (hX : Below w.heap.size w2 X) => rwithout_any (K2.out.below hX) (Nat.le_trans B2.out.size hX.size) hjn HZ.out)
    have HST := hid (fun (X : World) (hX : Below w.heap.size w2 X) => rtwins_any (H1p.out.below hX) (Nat.le_trans B2.out.size hX.size) HS.out)
    have BX := hid (Below.refl w2.heap.size w2).drew
    clear hnil
    go_upto_region 7 with fail
    have mixed : Try.prog.follows .mixedOrders = true := by kernel_rfl
    refine wp_region_held_drew (S := fun _ => True) (by kernel_rfl) trivial (fun hHeld => ?_)
    generalize w2.drew = V at *
    refine wpAnyH_take (i := 0) (v := ?vm1) rfl (by kernel_rfl) (by kernel_rfl) (by kernel_rfl) (fun _ _ _ h => h) (Or.inl ⟨by rfl, ?ym1⟩) (by assumption) ?rm1
    case ym1 => (intro w0 hSw; (try dsimp only at hSw); (try simp only [List.getElem_toArray, List.getElem_cons_zero]); go_simp; try with_reducible rfl)
    (try simp only [Act.put, List.setIfInBounds_toArray, List.set_cons_zero, List.set_cons_succ, List.getElem_toArray, List.getElem_cons_zero])
    refine wpAnyH_take (i := 1) (v := ?vm2) rfl (by kernel_rfl) (by kernel_rfl) (by kernel_rfl) (fun _ _ _ h => h) (Or.inl ⟨by rfl, ?ym2⟩) (by assumption) ?rm2
    case ym2 => (intro w0 hSw; (try dsimp only at hSw); (try simp only [List.getElem_toArray, List.getElem_cons_succ, List.getElem_cons_zero]); go_simp; try with_reducible rfl)
    (try simp only [Act.put, List.setIfInBounds_toArray, List.set_cons_zero, List.set_cons_succ, List.getElem_toArray, List.getElem_cons_succ, List.getElem_cons_zero])
    refine wpAnyH_take (i := 3) (v := ?vm3) rfl (by kernel_rfl) (by kernel_rfl) (by kernel_rfl) (fun _ _ _ h => h) (Or.inl ⟨by rfl, ?ym3⟩) (by assumption) ?rm3
    case ym3 => (intro w0 hSw; (try dsimp only at hSw); (try simp only [List.getElem_toArray, List.getElem_cons_succ, List.getElem_cons_zero]); go_simp; try with_reducible rfl)
    (try simp only [Act.put, List.setIfInBounds_toArray, List.set_cons_zero, List.set_cons_succ, List.getElem_toArray, List.getElem_cons_succ, List.getElem_cons_zero])
    refine wpAnyH_take (i := 4) (v := ?vm4) rfl (by kernel_rfl) (by kernel_rfl) (by kernel_rfl) (fun _ _ _ h => h) (Or.inl ⟨by rfl, ?ym4⟩) (by assumption) ?rm4
    case ym4 => (intro w0 hSw; (try dsimp only at hSw); (try simp only [List.getElem_toArray, List.getElem_cons_succ, List.getElem_cons_zero]); go_simp; try with_reducible rfl)
    (try simp only [Act.put, List.setIfInBounds_toArray, List.set_cons_zero, List.set_cons_succ, List.getElem_toArray, List.getElem_cons_succ, List.getElem_cons_zero])
    refine wpAnyH_take (i := 5) (v := ?vm5) rfl (by kernel_rfl) (by kernel_rfl) (by kernel_rfl) (fun _ _ _ h => h) (Or.inl ⟨by rfl, ?ym5⟩) (by assumption) ?rm5
    case ym5 => (intro w0 hSw; (try dsimp only at hSw); (try simp only [List.getElem_toArray, List.getElem_cons_succ, List.getElem_cons_zero]); go_simp; try with_reducible rfl)
    (try simp only [Act.put, List.setIfInBounds_toArray, List.set_cons_zero, List.set_cons_succ, List.getElem_toArray, List.getElem_cons_succ, List.getElem_cons_zero])
    refine wpAnyH_take (i := 6) (v := ?vm6) rfl (by kernel_rfl) (by kernel_rfl) (by kernel_rfl) (fun _ _ _ h => h) (Or.inl ⟨by rfl, ?ym6⟩) (by assumption) ?rm6
    case ym6 => (intro w0 hSw; (try dsimp only at hSw); (try simp only [List.getElem_toArray, List.getElem_cons_succ, List.getElem_cons_zero]); go_simp; try with_reducible rfl)
    (try simp only [Act.put, List.setIfInBounds_toArray, List.set_cons_zero, List.set_cons_succ, List.getElem_toArray, List.getElem_cons_succ, List.getElem_cons_zero])
    refine wpAnyH_take (i := 7) (v := ?vm7) rfl (by kernel_rfl) (by kernel_rfl) (by kernel_rfl) (fun _ _ _ h => h) (Or.inl ⟨by rfl, ?ym7⟩) (by assumption) ?rm7
    case ym7 => (intro w0 hSw; (try dsimp only at hSw); (try simp only [List.getElem_toArray, List.getElem_cons_succ, List.getElem_cons_zero]); go_simp; try with_reducible rfl)
    (try simp only [Act.put, List.setIfInBounds_toArray, List.set_cons_zero, List.set_cons_succ, List.getElem_toArray, List.getElem_cons_succ, List.getElem_cons_zero])
    refine wpAnyH_ready (rs := [2]) (by kernel_rfl) (by simp) ?_
    refine AllReadyH.cons rfl (fun K' hK => ?_) AllReadyH.nil
    (try simp only [Act.put, List.setIfInBounds_toArray, List.set_cons_zero, List.set_cons_succ, List.getElem_toArray, List.getElem_cons_succ, List.getElem_cons_zero])
    go_simp
    refine (HSW.out _ (BX.out.mono B2.out.size)).mono ?_
    rintro e w5 ⟨v, rs, rfl, H5⟩
    have B5 := hid (BX.out.trans (H5.out.2.mono BX.out.size))
    have HT5 := hid (HST.out _ (B5.out.mono B2.out.size))
    try dsimp only
    refine hK.out _ _ (trivial) (fun hHeld => ?_)
    clear hK K'
    (try simp only [Act.put, List.setIfInBounds_toArray, List.set_cons_zero, List.set_cons_succ, List.getElem_toArray, List.getElem_cons_succ, List.getElem_cons_zero])
    refine wpAnyH_ready (rs := [8]) (by kernel_rfl) (by simp) ?_
    refine AllReadyH.cons rfl (fun K' hK => ?_) AllReadyH.nil
    (try simp only [Act.put, List.setIfInBounds_toArray, List.set_cons_zero, List.set_cons_succ, List.getElem_toArray, List.getElem_cons_succ, List.getElem_cons_zero])
    go_simp
    refine HT5.out.mono ?_
    rintro e w6 ⟨v6, rs6, rfl, H6⟩
    obtain ⟨g6, c6, ⟨x7, y7, z7, M7⟩, rfl, hc6, HLow, hcell⟩ := H6.out.1.one
    have HX6 := hid hcell
    have HLw := hid HLow
    have hY6 := hid ((Y2.out.below B5.out Y2.out.lt).below H6.out.2 (Nat.lt_of_lt_of_le Y2.out.lt B5.out.size))
    clear hcell HLow
    try dsimp only
    refine hK.out _ _ (trivial) (fun hHeld => ?_)
    clear hK K'
    (try simp only [Act.put, List.setIfInBounds_toArray, List.set_cons_zero, List.set_cons_succ, List.getElem_toArray, List.getElem_cons_succ, List.getElem_cons_zero])
    refine wpAnyH_take (i := 9) (v := ?vm8) rfl (by kernel_rfl) (by kernel_rfl) (by kernel_rfl) (fun _ _ _ h => h) (Or.inl ⟨by rfl, ?ym8⟩) (by assumption) ?rm8
    case ym8 => (intro w0 hSw; (try dsimp only at hSw); (try simp only [List.getElem_toArray, List.getElem_cons_succ, List.getElem_cons_zero]); go_simp; try with_reducible rfl)
    (try simp only [Act.put, List.setIfInBounds_toArray, List.set_cons_zero, List.set_cons_succ, List.getElem_toArray, List.getElem_cons_succ, List.getElem_cons_zero])
    refine wpAnyH_take (i := 11) (v := ?vm9) rfl (by kernel_rfl) (by kernel_rfl) (by kernel_rfl) (fun _ _ _ h => h) (Or.inl ⟨by rfl, ?ym9⟩) (by assumption) ?rm9
    case ym9 => (intro w0 hSw; (try dsimp only at hSw); (try simp only [List.getElem_toArray, List.getElem_cons_succ, List.getElem_cons_zero]); go_simp; try with_reducible rfl)
    (try simp only [Act.put, List.setIfInBounds_toArray, List.set_cons_zero, List.set_cons_succ, List.getElem_toArray, List.getElem_cons_succ, List.getElem_cons_zero])
    refine wpAnyH_ready (rs := [10]) (by kernel_rfl) (by simp) ?_
    refine AllReadyH.cons rfl (fun K' hK => ?_) AllReadyH.nil
    (try simp only [Act.put, List.getElem_toArray, List.getElem_cons_succ, List.getElem_cons_zero])
    refine wp_load_mid _ (.tmp 33) rfl g6 0 rfl (lcells x7 y7 z7 M7).toList _ HX6.out Try.underlying40 rfl (load_size_ x7 y7 z7 M7) ?_
    try dsimp only
    refine hK.out _ _ (trivial) (fun hHeld => ?_)
    clear hK K'
    (try simp only [Act.put])
    refine wpAnyH_ready (rs := [12]) (by kernel_rfl) (by simp) ?_
    refine AllReadyH.cons rfl (fun K' hK => ?_) AllReadyH.nil
    (try simp only [Act.put, List.getElem_toArray, List.getElem_cons_succ, List.getElem_cons_zero])
    refine gput_rowH (P := Try.prog) _ (.tmp 5) (.tmp 34) rfl w.heap.size 40 _ (lcells x7 y7 z7 M7) rfl rfl hY6.out rfl (loadSize x7 y7 z7 M7) (lcells_one x7 y7 z7 M7) ?_
    intro w8 x8 q8
    try dsimp only
    refine hK.out _ _ (trivial) (fun hHeld => ?_)
    clear hK K'
    (try simp only [Act.put])
    refine wpAnyH_take (i := 13) (v := ?vm10) rfl (by kernel_rfl) (by kernel_rfl) (by kernel_rfl) (fun _ _ _ h => h) (Or.inl ⟨by rfl, ?ym10⟩) (by assumption) ?rm10
    case ym10 => (intro w0 hSw; (try dsimp only at hSw); (try simp only [List.getElem_toArray, List.getElem_cons_succ, List.getElem_cons_zero]); go_simp; try with_reducible rfl)
    (try simp only [Act.put, List.setIfInBounds_toArray, List.set_cons_zero, List.set_cons_succ, List.getElem_toArray, List.getElem_cons_succ, List.getElem_cons_zero])
    refine wpAnyH_done (by kernel_rfl) ?_ _
    go_wp2
    refine ret_load3 (g := w.heap.size) (x := x7) (y := y7) (z := z7) (M := M7) rfl rfl rfl rfl rfl x8 ?_
    have hlt : w.heap.size < V.heap.size := Nat.lt_of_lt_of_le S2.out BX.out.size
    have hV5 := H5.out.2.size
    rw [HF.out.1, HF.out.2.1, HF.out.2.2]
    refine ⟨v, rs, (x7, y7, z7, M7), w5.heap.size, rfl, hid ⟨((H5.out.1.below H6.out.2).gq q8 hlt).mono (Nat.le_of_lt hlt), q8.bel (gbelow_on (B2.out.trans (B5.out.mono B2.out.size)) (Nat.le_refl _) H6.out.2) (Nat.le_refl _), HLw.out.gq q8 (by omega), H5.out.1.ahead, by omega⟩⟩
end Go.Proofs.Ytdcolnipdipkhaa.Fli
