/- Ether: the document's Spoil. -/
import Derived.Test.YtbpijlghdpflgaaDoorYft
namespace Go.Proofs.YtbpijlghdpflgaaDoor.Eth
open Go.RowKit Go.Shelf Go.Lib

theorem cellsC_set2 : ∀ (l : List Cr) (k : Nat) {x y : Int} {tx : Option Addr × Nat × Nat} {s : Bool} (D : Option Addr) (m d : Nat) (u : Bool), l[k]? = some (x, y, tx, s) →
    cellsC (l.set k (x, y, (D, m, d), u)) = ((cellsC l).set (k * 4 + 2) (.slice D m d)).set (k * 4 + 3) (.bool u)
  | [], k, _, _, _, _, _, _, _, _, h => by simp at h
  | r :: l, 0, x, y, tx, s, D, m, d, u, h => by
    obtain rfl : r = (x, y, tx, s) := by simpa using h
    rw [List.set_cons_zero, cellsC_cons, cellsC_cons]
    rfl
  | r :: l, k + 1, x, y, tx, s, D, m, d, u, h => by
    have h2 : l[k]? = some (x, y, tx, s) := by simpa using h
    rw [List.set_cons_succ, cellsC_cons, cellsC_cons, cellsC_set2 l k D m d u h2, show (k + 1) * 4 + 2 = k * 4 + 2 + 1 + 1 + 1 + 1 by omega, show (k + 1) * 4 + 3 = k * 4 + 3 + 1 + 1 + 1 + 1 by omega]
    rfl
/-- A copy of its own is given another text, and turned spoilt. -/
theorem Cow.put2 {w : World} {S : Nat → Prop} {g off n c k : Nat} {rs : List Cr} {l : List Cp} {x y : Int} {tx : Option Addr × Nat × Nat} {s u : Bool} {D : Option Addr} {m d : Nat} {p : Cp} (h : Cow w S (some ⟨g, off, none⟩) n c rs l) (hk : rs[k]? = some (x, y, tx, s)) (ht : Tow w S (x, y, (D, m, d), u)) (hc : Crd w w.heap.size (x, y, (D, m, d), u) p) :
    Cow ((w.setCell ⟨g, off + k * 4 + 2, none⟩ (.slice D m d)).setCell ⟨g, off + k * 4 + 3, none⟩ (.bool u)) S (some ⟨g, off, none⟩) n c (rs.set k (x, y, (D, m, d), u)) (l.set k p) ∧
      Gq g w ((w.setCell ⟨g, off + k * 4 + 2, none⟩ (.slice D m d)).setCell ⟨g, off + k * 4 + 3, none⟩ (.bool u)) ∧ S g := by
  obtain ⟨h1, h2, h3, h4⟩ := h
  have hkl := (List.getElem?_eq_some_iff.1 hk).1
  have hlen := h1.len
  rw [cellsC_length] at hlen
  have hn : rs.length = n := by omega
  obtain ⟨g', off', cur, e, hS, hh, hsz⟩ := h4 (by omega)
  injection e with e
  injection e with e1 e2
  subst e1 e2
  have hA := heap_setCell_same w g (off + k * 4 + 2) cur _ (.slice D m d) hh
  have hB := heap_setCell_same _ g (off + k * 4 + 3) _ _ (.bool u) hA
  have hq : Gq g w ((w.setCell ⟨g, off + k * 4 + 2, none⟩ (.slice D m d)).setCell ⟨g, off + k * 4 + 3, none⟩ (.bool u)) := ⟨rfl, rfl, rfl, by simp [World.setCell], fun b hb => by
    rw [Below.heap_setCell _ _ _ b hb, Below.heap_setCell _ _ _ b hb]⟩
  have k8 : Keep8 S w ((w.setCell ⟨g, off + k * 4 + 2, none⟩ (.slice D m d)).setCell ⟨g, off + k * 4 + 3, none⟩ (.bool u)) := Keep8.gq hq hh
  refine ⟨⟨⟨by rw [cellsC_length, List.length_set]; omega, h1.cap, h1.max, fun e => (by cases e), fun _ => ⟨g, off, rfl, lt_of_heap hB, fun j v hj => ?_⟩⟩, ⟨by rw [List.length_set, List.length_set]; exact h2.1, fun j a b ha hb => ?_⟩, fun r hr => ?_, fun _ => ⟨g, off, _, rfl, hS, hB, by simpa using hsz⟩⟩, hq, hS⟩
  · have hc0 := h1.cells
    rw [cellsC_set2 rs k D m d u hk] at hj
    have hjl := (List.getElem?_eq_some_iff.1 hj).1
    rw [List.length_set, List.length_set, cellsC_length] at hjl
    rw [cell_of_row _ g _ _ _ (0, 0) hB, Array.getElem?_setIfInBounds, Array.getElem?_setIfInBounds]
    rw [List.getElem?_set, List.getElem?_set] at hj
    by_cases j3 : k * 4 + 3 = j
    · rw [if_pos j3] at hj
      rw [if_pos (by omega), if_pos (by rw [Array.size_setIfInBounds]; omega)]
      rw [if_pos (by rw [List.length_set, cellsC_length]; omega)] at hj
      exact hj
    · rw [if_neg j3] at hj
      rw [if_neg (by omega)]
      by_cases j2 : k * 4 + 2 = j
      · rw [if_pos j2, if_pos (by rw [cellsC_length]; omega)] at hj
        rw [if_pos (by omega), if_pos (by omega)]
        exact hj
      · rw [if_neg j2] at hj
        rw [if_neg (by omega)]
        have := hc0 j v hj
        rw [Addr.add_lit, cell_of_row w g _ cur _ (0, 0) hh] at this
        exact this
  · rw [List.getElem?_set] at ha hb
    by_cases hjk : k = j
    · subst hjk
      rw [if_pos rfl, if_pos hkl] at ha
      rw [if_pos rfl, if_pos (by rw [← h2.1]; exact hkl)] at hb
      injection ha with ha
      injection hb with hb
      subst ha hb
      exact ht.crd hc k8
    · rw [if_neg hjk] at ha hb
      exact (h3 a (List.mem_of_getElem? ha)).crd (h2.2 j a b ha hb) k8
  · rcases List.mem_or_eq_of_mem_set hr with h5 | rfl
    · exact (h3 r h5).kept k8
    · exact ht.kept k8

/-- The row of copies of its own. -/
theorem Cow.at_ {w : World} {S : Nat → Prop} {A : Option Addr} {n c k : Nat} {rs : List Cr} {l : List Cp} (h : Cow w S A n c rs l) (hk : k < n) : ∃ (g off : Nat) (x y : Int) (D : Option Addr) (m d : Nat) (t : List Nat) (s : Bool), A = some ⟨g, off, none⟩ ∧ S g ∧ g < w.heap.size ∧ (∀ j, w.frozen? ⟨g, j, none⟩ = false) ∧ rs[k]? = some (x, y, (D, m, d), s) ∧ l[k]? = some (x, y, t, s) ∧
    w.cell? ⟨g, off + k * 4, none⟩ = some (.int .i64 x) ∧ w.cell? ⟨g, off + k * 4 + 1, none⟩ = some (.int .i64 y) ∧ w.cell? ⟨g, off + k * 4 + 2, none⟩ = some (.slice D m d) ∧ w.cell? ⟨g, off + k * 4 + 3, none⟩ = some (.bool s) ∧ Tow w S (x, y, (D, m, d), s) ∧ Crd w w.heap.size (x, y, (D, m, d), s) (x, y, t, s) := by
  obtain ⟨h1, h2, h3, h4⟩ := h
  have hlen := h1.len
  rw [cellsC_length] at hlen
  obtain ⟨g, off, cur, rfl, hS, hh, hsz⟩ := h4 (by omega)
  have hr : rs[k]? = some (rs[k]'(by omega)) := List.getElem?_eq_getElem _
  have hp : l[k]? = some (l[k]'(by rw [← h2.1]; omega)) := List.getElem?_eq_getElem _
  have hc := h2.2 k _ _ hr hp
  obtain ⟨x, y, D, m, d, t, s, e1, e2, h5, h6⟩ := hc.out
  rw [e1] at hr hc
  rw [e2] at hp hc
  have g1 := cellsC_get hr
  have hcc := h1.cells
  refine ⟨g, off, x, y, D, m, d, t, s, rfl, hS, lt_of_heap hh, fun j => frozen_of_row w g j _ _ hh, hr, hp, ?_, ?_, ?_, ?_, h3 _ (List.mem_of_getElem? hr), hc⟩
  · have := hcc _ _ (g1 0 _ rfl); rwa [Addr.add_lit] at this
  · have := hcc _ _ (g1 1 _ rfl); rwa [Addr.add_lit, ← Nat.add_assoc] at this
  · have := hcc _ _ (g1 2 _ rfl); rwa [Addr.add_lit, ← Nat.add_assoc] at this
  · have := hcc _ _ (g1 3 _ rfl); rwa [Addr.add_lit, ← Nat.add_assoc] at this

set_option maxHeartbeats 6400000 in
set_option maxRecDepth 100000 in
theorem rspoil_any {w : World} {B n c : Nat} {A : Option Addr} {l : List Cp} (h : Cls w B A n c l) (hB : B ≤ w.heap.size) (i a : Int) (m : Nat) (hm : m < 4294967296) :
    Calls Tryd.prog 15 #[.slice A n c, .int .i64 i, .int .i64 a, .int .u32 (m : Int)] w (LstR w (spE l i a m) (spL l i a m)) := by
  have H0 := hid (h.mono hB)
  have hl := hid h.len
  have hcap := h.cap
  have CK := hid (rcheck_any h hB)
  clear h hB
  by_cases h0 : echk l = 0
  case neg =>
    have hE : spE l i a m = echk l := by unfold spE; rw [if_pos h0]
    have hL : spL l i a m = [] := by unfold spL; rw [hE, if_neg h0]
    rw [hE, hL]
    clear hE hL
    generalize echk l = q at h0 CK ⊢
    go_enter Tryd.func15, Tryd.ntmps15
    go_wp2_with fail
    refine CK.out.mono ?_
    rintro e w1 ⟨rfl, hb⟩

    go_wp2
    go_ret2
    exact LstR.none' hb.out
  rw [h0] at CK
  have hmay := (echk_zero.1 h0).2
  have hn16 : n ≤ 16 := by have := (echk_zero.1 h0).1; rw [hl.out] at this; exact this
  by_cases hi0 : i < 0
  case pos =>
    have hE : spE l i a m = 2 := by unfold spE plc; rw [if_neg (by simp [h0]), if_pos (fun h => by omega)]
    have hL : spL l i a m = [] := by unfold spL; rw [hE]; rfl
    rw [hE, hL]
    clear hE hL h0 hmay
    go_enter Tryd.func15, Tryd.ntmps15
    go_wp2_with fail
    refine CK.out.mono ?_
    rintro e w1 ⟨rfl, hb⟩

    go_wp2
    go_ret2
    exact LstR.none' hb.out
  obtain ⟨k, rfl⟩ : ∃ k : Nat, i = (k : Int) := ⟨i.toNat, by omega⟩
  clear hi0
  by_cases hkn : k < n
  case neg =>
    have hE : spE l (k : Int) a m = 2 := by unfold spE plc; rw [if_neg (by simp [h0]), if_pos (fun h => by rw [hl.out] at h; omega)]
    have hL : spL l (k : Int) a m = [] := by unfold spL; rw [hE]; rfl
    have hz : (k : Int) ≥ (n : Int) := by omega
    rw [hE, hL]
    clear hE hL h0 hmay
    go_enter Tryd.func15, Tryd.ntmps15
    go_wp2_with fail
    refine CK.out.mono ?_
    rintro e w1 ⟨rfl, hb⟩

    go_wp2
    go_ret2
    exact LstR.none' hb.out
  have hz : ¬ (k : Int) ≥ (n : Int) := by omega
  obtain ⟨b, off, x, y, D, nt, d, t, s, rfl, hbb, hp, c0, c1, c2, c3, ht, hf⟩ := H0.out.get hkn
  have hgd : l.getD k C0 = (x, y, t, s) := by rw [List.getD_eq_getElem?_getD, hp]; rfl
  have htl := hid ht.blen
  have hnt : nt ≤ 4105 := by have := (hmay _ (List.mem_of_getElem? hp)).2.2.2; have h2 := ht.blen; simp only at this; omega
  have hplc : plc l (k : Int) := ⟨by omega, by rw [hl.out]; omega⟩
  have HCl := hid (fun (X : World) (hX : Below w.heap.size w X) => show X.cell? ⟨b, off + k * 4 + 2, none⟩ = some (.slice D nt d) ∧ X.cell? ⟨b, off + k * 4 + 3, none⟩ = some (.bool s) from
    ⟨(hX.cell (p := ⟨b, off + k * 4 + 2, none⟩) hbb).trans c2, (hX.cell (p := ⟨b, off + k * 4 + 3, none⟩) hbb).trans c3⟩)
  have CF := hid (fun X : World => fits_any nt a m (by omega) hm X)
  by_cases hft : fits nt a m
  case neg =>
    have hE : spE l (k : Int) a m = 2 := by
      unfold spE
      rw [if_neg (by simp [h0]), if_pos]
      rintro ⟨_, h2⟩
      rw [Int.toNat_natCast, hgd] at h2
      exact hft (by rw [← htl.out]; exact h2)
    have hL : spL l (k : Int) a m = [] := by unfold spL; rw [hE]; rfl
    rw [hE, hL]
    rw [decide_eq_false hft] at CF
    clear hE hL h0 hmay hgd hp hplc hft ht hf c0 c1 c2 c3
    go_enter Tryd.func15, Tryd.ntmps15
    go_wp2_with fail
    refine CK.out.mono ?_
    rintro e w1 ⟨rfl, hb⟩

    have c2 := (HCl.out _ hb.out).1
    go_wp2_with fail
    refine (CF.out _).mono ?_
    rintro e w2 ⟨rfl, rfl⟩
    go_wp2
    go_ret2
    exact LstR.none' hb.out
  rw [decide_eq_true hft] at CF
  have hz2 : ¬ ¬ (plc l (k : Int) ∧ fits (l.getD (k : Int).toNat C0).2.2.1.length a m) := by
    intro h
    refine h ⟨hplc, ?_⟩
    rw [Int.toNat_natCast, hgd]
    show fits t.length a m
    rw [htl.out]
    exact hft
  cases hs : s
  case true =>
    subst hs
    have hE : spE l (k : Int) a m = 12 := by unfold spE; rw [if_neg (by simp [h0]), if_neg hz2, if_pos (by rw [Int.toNat_natCast, hgd])]
    have hL : spL l (k : Int) a m = [] := by unfold spL; rw [hE]; rfl
    rw [hE, hL]
    clear hE hL h0 hmay hgd hp hplc hft hz2 ht hf c0 c1 c2 c3
    go_enter Tryd.func15, Tryd.ntmps15
    go_wp2_with fail
    refine CK.out.mono ?_
    rintro e w1 ⟨rfl, hb⟩

    obtain ⟨c2, c3⟩ := HCl.out _ hb.out
    go_wp2_with fail
    refine (CF.out _).mono ?_
    rintro e w2 ⟨rfl, rfl⟩
    go_wp2
    go_ret2
    exact LstR.none' hb.out
  case false =>
    subst hs
    have hE : spE l (k : Int) a m = 0 := by unfold spE; rw [if_neg (by simp [h0]), if_neg hz2, if_neg (by rw [Int.toNat_natCast, hgd]; simp)]
    have hL : spL l (k : Int) a m = l.set k (spC (x, y, t, false) a m) := by unfold spL; rw [if_pos hE, Int.toNat_natCast, hgd]
    rw [hE, hL]
    have HP := hid hp
    have HMY := hid hmay
    have HFT := hid hft
    clear hE hL h0 hmay hgd hp hplc hft hz2 ht hf c0 c1 c2 c3
    go_enter Tryd.func15, Tryd.ntmps15
    go_wp2_with fail
    refine CK.out.mono ?_
    rintro e w1 ⟨rfl, hb⟩

    obtain ⟨c2, c3⟩ := HCl.out _ hb.out
    have B1 := hid hb.out
    have H1 := hid (H0.out.on (Nat.le_refl _) hb.out)
    clear hb
    go_wp2_with fail
    refine (CF.out _).mono ?_
    rintro e w2 ⟨rfl, rfl⟩
    go_wp2_with fail
    refine (twin_own H1.out (Nat.le_refl _) (by omega) HMY.out).mono ?_
    rintro e w3 ⟨A3, c3', rs3, rfl, h3⟩
    obtain ⟨g, o, x', y', D3, m3, d3, t', s', rfl, hSg, hgb, hfz, hrk, hlk, k0, k1, k2, k3, hto, htc⟩ := h3.out.1.at_ hkn
    have e1 : ((x', y', t', s') : Cp) = (x, y, t, false) := by have := HP.out; rw [hlk] at this; injection this
    obtain ⟨rfl, e2⟩ : x' = x ∧ (y', t', s') = (y, t, false) := by simpa using e1
    obtain ⟨rfl, rfl, rfl⟩ : y' = y ∧ t' = t ∧ s' = false := by simpa using e2
    have hm3 : m3 = nt := htc.txt.blen.symm.trans htl.out
    subst hm3
    obtain ⟨a', rfl⟩ : ∃ a' : Nat, a = (a' : Int) := ⟨a.toNat, by have := HFT.out.1.1; omega⟩
    have ht3 : Gs w3 w3.heap.size D3 m3 d3 1 (cellsB t') := htc.txt
    have hf3 : ∀ b ∈ t', b < 256 := htc.fit
    have CT := hid (turned_any ht3 hf3 (Nat.le_refl _) (by omega) a' m HFT.out)
    have HF3 := hid hf3
    clear ht3 hf3 htc
    have W3 := hid h3.out
    have HRK := hid hrk
    clear c2 c3 e1 e2 hto hrk hlk
    have hfz2 := hfz (o + k * 4 + 2)
    have hfz3 := hfz (o + k * 4 + 3)
    clear hfz h3
    go_wp2_with fail
    refine CT.out.mono ?_
    rintro e w4 ⟨g4, c4, rfl, h4⟩
    have b4 := hid h4.out.2
    have T4 := hid (own_text (w3 := w4) (g := w3.heap.size - 1) (x := x') (y := y') (s := true) h4.out.1 ⟨rfl, rfl, rfl, rfl, fun _ _ => rfl⟩ (by omega) (trn_fit HF3.out a' m 32))
    have W4 := hid ((W3.out.1.below b4.out).put2 (p := spC (x', y', t', false) (a' : Int) m) HRK.out (T4.out.1.mono (fun q hq => by have := W3.out.2.size; have := B1.out.size; omega)) T4.out.2)
    have k2' := (b4.out.cell (p := ⟨g, o + k * 4 + 2, none⟩) hgb).trans k2
    have k3' := (b4.out.cell (p := ⟨g, o + k * 4 + 3, none⟩) hgb).trans k3
    have k0' := (b4.out.cell (p := ⟨g, o + k * 4, none⟩) hgb).trans k0
    have f2' := (b4.out.frozen (p := ⟨g, o + k * 4 + 2, none⟩) hgb).trans hfz2
    have f3' := (b4.out.frozen (p := ⟨g, o + k * 4 + 3, none⟩) hgb).trans hfz3
    clear k0 k1 k2 k3 hfz2 hfz3
    go_wp2
    go_ret2
    refine ⟨_, _, _, _, rfl, hid ⟨W4.out.1.mono (fun q hq => Nat.le_trans B1.out.size hq), W4.out.2.1.bel (gbelow_on (gbelow_on B1.out (Nat.le_refl _) W3.out.2) (Nat.le_refl _) b4.out) (Nat.le_trans B1.out.size W4.out.2.2), by rw [List.length_set, hl.out]⟩⟩
end Go.Proofs.YtbpijlghdpflgaaDoor.Eth
