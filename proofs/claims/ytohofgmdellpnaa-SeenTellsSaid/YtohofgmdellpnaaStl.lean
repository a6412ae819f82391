/- SeenTells, walked. -/
import Derived.Test.YtohofgmdellpnaaSfs
namespace Go.Proofs.Ytohofgmdellpnaa.Seen
open Go.RowKit Go.Shelf Go.Lib

set_option maxHeartbeats 12800000 in
set_option maxRecDepth 100000 in
theorem tells_walk {w : World} {n c : Nat} {A : Option Addr} {l : List Int} {x : Int} (h : Gs w w.heap.size A n c 1 (cellsI l)) :
    Calls Try.prog 4 #[.slice A n c, .int .i64 x] w fun e w' => e = .returned (.bool true) ∧ Below w.heap.size w w' := by
  have H := hid h
  have hl := hid h.ilen
  have hcap := h.cap
  clear h
  go_enter Try.func4, Try.ntmps4
  go_wp2_with fail
  by_cases hgr : grt n
  · refine (great_yes hgr).mono ?_
    rintro e w2 ⟨rfl, rfl⟩
    clear hgr
    go_wp2
    go_ret
    exact ⟨rfl, Below.refl _ _⟩
  refine (great_no hgr).mono ?_
  rintro e w1 ⟨rfl, rfl⟩
  have hn : n ≤ 4100 := by unfold grt at hgr; omega
  clear hgr
  have b1 := hid ((Below.refl w1.heap.size w1).alloc (Nat.le_refl _) (.cells #[] 3))
  have O1 := hid (show Gi (w1.alloc (.cells #[] 3)) w1.heap.size (.slice (some ⟨w1.heap.size, 0, none⟩) 0 0) [] from Gw.none' (heap_alloc_new w1 _) (Nat.le_refl _) (by unfold maxLen; omega) rfl)
  go_wp2_with (first
    | (at_builtin; refine list_appI (v := .slice (some ⟨w1.heap.size, 0, none⟩) 0 0) (l := []) (r := l) rfl _ _ rfl rfl rfl O1.out (H.out.below b1.out) (by simp; omega) b1.out.size ?_; intro v2 w2 HT)
    | fail)
  have B2 := hid (b1.out.trans (HT.out.below O1.out b1.out.size))
  have OW := hid HT.out.own
  rw [List.nil_append] at OW
  clear HT O1 b1
  obtain ⟨Ao, no, co, rfl, _, g2, _⟩ := OW.out.form
  obtain rfl : n = no := hl.out.symm.trans g2.ilen
  have O := hid g2
  have L := hid (H.out.on (Nat.le_refl _) B2.out)
  clear g2 OW H
  have CH := hid (fun (X : World) (hX : Gs X X.heap.size Ao n co 1 (cellsI l)) => has_any hX (Nat.le_refl _) x)
  have CR := hid (fun (X : World) (hX : Gs X X.heap.size A n c 1 (cellsI l)) => rhas_any hX (Nat.le_refl _) x)
  generalize haA l x = a1 at CH CR
  have CB := hid (fun (X : World) (hX : Gs X X.heap.size Ao n co 1 (cellsI l)) => below_any hX (Nat.le_refl _) x)
  have CS := hid (fun (X : World) (hX : Gs X X.heap.size A n c 1 (cellsI l)) => rbelow_any hX (Nat.le_refl _) x)
  generalize beA l x = a3 at CB CS
  generalize fiE l x = a2 at CH CR CB CS
  have CF := hid (fun (X : World) (hX : Gs X X.heap.size Ao n co 1 (cellsI l)) => first_any hX (Nat.le_refl _))
  have CG := hid (fun (X : World) (hX : Gs X X.heap.size A n c 1 (cellsI l)) => rfirst_any hX (Nat.le_refl _))
  have CK := hid (fun (X : World) (hX : Gs X X.heap.size Ao n co 1 (cellsI l)) => check_any hX)
  have CL := hid (fun (X : World) (hX : Gs X X.heap.size A n c 1 (cellsI l)) => rcheck_any hX (Nat.le_refl _))
  generalize fsA l = a4 at CF CG
  generalize schk l = a5 at CF CG CK CL
  go_wp2_with fail
  refine (CH.out _ O.out).mono ?_
  rintro e w3 ⟨rfl, h3⟩
  have B3 := hid (gbelow_on B2.out (Nat.le_refl _) h3.out)
  have O3 := hid (O.out.on (Nat.le_refl _) h3.out)
  have L3 := hid (L.out.on (Nat.le_refl _) h3.out)
  clear h3 B2 O L
  go_wp2_with fail
  refine (CR.out _ L3.out).mono ?_
  rintro e w4 ⟨rfl, h4⟩
  have B4 := hid (gbelow_on B3.out (Nat.le_refl _) h4.out)
  have O4 := hid (O3.out.on (Nat.le_refl _) h4.out)
  have L4 := hid (L3.out.on (Nat.le_refl _) h4.out)
  clear h4 B3 O3 L3
  have CP := hid (put_any O4.out (Nat.le_refl _) x)
  have CQ := hid (fun (X : World) (hX : Gs X X.heap.size A n c 1 (cellsI l)) => rput_any hX (Nat.le_refl _) x)
  unfold PutR at CP
  generalize ptE l x = a6 at CP CQ
  generalize ptL l x = r at CP CQ
  go_wp2_with fail
  refine CP.out.mono ?_
  rintro e w5 ⟨v5, rfl, h5⟩
  obtain ⟨Ap, np, cp, rfl, p1, p2, _, p3⟩ := h5.out.1.form
  have P5 := hid p1
  have G5 := hid p2
  have D5 := hid h5.out.2
  have B5 := hid (gbelow_on B4.out (Nat.le_refl _) D5.out)
  have L5 := hid (L4.out.on (Nat.le_refl _) D5.out)
  have hcp : np ≤ cp := p2.cap
  have hnp : r.length = np := p2.ilen
  have hnpm : np ≤ 100000 := by rw [← hnp]; exact p1.max
  have HNP := hid hnp
  clear h5 p1 p2 p3 CP hnp
  go_wp2_with fail
  refine (CQ.out _ L5.out).mono ?_
  rintro e w6 ⟨v6, rfl, h6⟩
  obtain ⟨Aq, nq, cq, rfl, _, q2, _, _⟩ := h6.out.1.form
  have Q6 := hid q2
  have D6 := hid (gbelow_on D5.out (Nat.le_refl _) h6.out.2)
  have B6 := hid (gbelow_on B5.out (Nat.le_refl _) h6.out.2)
  have L6 := hid (L5.out.on (Nat.le_refl _) h6.out.2)
  have P6 := hid (P5.out.below h6.out.2)
  have B44 := hid B4.out
  have L44 := hid L4.out
  have O44 := hid O4.out
  clear h6 q2 CQ B5 L5 P5 D5 B4 L4
  have O6 := hid (O4.out.on (Nat.le_refl _) D6.out)
  go_wp2_with fail
  refine (CB.out _ O6.out).mono ?_
  rintro e w7 ⟨rfl, h7⟩
  have B7 := hid (gbelow_on B6.out (Nat.le_refl _) h7.out)
  have D7 := hid (gbelow_on D6.out (Nat.le_refl _) h7.out)
  have O7 := hid (O6.out.on (Nat.le_refl _) h7.out)
  have L7 := hid (L6.out.on (Nat.le_refl _) h7.out)
  have P7 := hid (P6.out.below h7.out)
  have Q7 := hid (Q6.out.on (Nat.le_refl _) h7.out)
  clear h7 B6 D6 O6 L6 P6 Q6
  go_wp2_with fail
  refine (CS.out _ L7.out).mono ?_
  rintro e w8 ⟨rfl, h8⟩
  have B8 := hid (gbelow_on B7.out (Nat.le_refl _) h8.out)
  have D8 := hid (gbelow_on D7.out (Nat.le_refl _) h8.out)
  have O8 := hid (O7.out.on (Nat.le_refl _) h8.out)
  have L8 := hid (L7.out.on (Nat.le_refl _) h8.out)
  have P8 := hid (P7.out.below h8.out)
  have Q8 := hid (Q7.out.on (Nat.le_refl _) h8.out)
  clear h8 B7 D7 O7 L7 P7 Q7
  go_wp2_with fail
  refine (CF.out _ O8.out).mono ?_
  rintro e w9 ⟨rfl, h9⟩
  have B9 := hid (gbelow_on B8.out (Nat.le_refl _) h9.out)
  have D9 := hid (gbelow_on D8.out (Nat.le_refl _) h9.out)
  have O9 := hid (O8.out.on (Nat.le_refl _) h9.out)
  have L9 := hid (L8.out.on (Nat.le_refl _) h9.out)
  have P9 := hid (P8.out.below h9.out)
  have Q9 := hid (Q8.out.on (Nat.le_refl _) h9.out)
  clear h9 B8 D8 O8 L8 P8 Q8
  go_wp2_with fail
  refine (CG.out _ L9.out).mono ?_
  rintro e w10 ⟨rfl, h10⟩
  have B10 := hid (gbelow_on B9.out (Nat.le_refl _) h10.out)
  have D10 := hid (gbelow_on D9.out (Nat.le_refl _) h10.out)
  have O10 := hid (O9.out.on (Nat.le_refl _) h10.out)
  have L10 := hid (L9.out.on (Nat.le_refl _) h10.out)
  have P10 := hid (P9.out.below h10.out)
  have Q10 := hid (Q9.out.on (Nat.le_refl _) h10.out)
  clear h10 B9 D9 O9 L9 P9 Q9
  have CSA := hid (same_any P10.out.gs Q10.out (Nat.le_refl _) (Nat.le_refl _))
  rw [decide_eq_true rfl] at CSA
  go_wp2_with fail
  refine CSA.out.mono ?_
  rintro e w11 ⟨rfl, h11⟩
  have B11 := hid (gbelow_on B10.out (Nat.le_refl _) h11.out)
  have D11 := hid (gbelow_on D10.out (Nat.le_refl _) h11.out)
  have P11 := hid (P10.out.below h11.out)
  clear h11 CSA B10 D10 P10 Q10
  go_wp2_with fail
  go_loopg [23] np (fun gg s23 wr => ∃ i : Nat, i ≤ np ∧ np - i ≤ gg ∧ s23 = .int .i64 i ∧ Hid (Below w4.heap.size w4 wr ∧ (0 < np → ∃ g cur, Ap = some ⟨g, 0, none⟩ ∧ w4.heap.size ≤ g ∧ wr.heap[g]? = some (.cells cur 3 (0, 0)) ∧ np ≤ cur.size)))
  case atStart => exact ⟨0, Nat.zero_le _, by omega, rfl, hid ⟨D11.out, fun h => P11.out.row h⟩⟩
  case round =>
    obtain ⟨i, hi, hg, rfl, BW⟩ := hrel
    by_cases hlt : i < np
    · have hltz : (i : Int) < (np : Int) := by omega
      obtain ⟨g, cur, rfl, hgB, hgh, hcur⟩ := BW.out.2 (by omega)
      obtain ⟨u, hu⟩ : ∃ u, cur[i]? = some u := ⟨_, Array.getElem?_eq_getElem (by omega)⟩
      have c1 : wr.cell? ⟨g, i, none⟩ = some u := (cell_of_row wr g i cur _ (0, 0) hgh).trans hu
      have f1 := frozen_of_row wr g i cur _ hgh
      have BN := hid (show Below w4.heap.size w4 (wr.setCell ⟨g, i, none⟩ (.int .i64 (-7))) from BW.out.1.setCell (p := ⟨g, i, none⟩) hgB _)
      have HN := hid (heap_setCell_same wr g i cur _ (.int .i64 (-7)) hgh)
      have HC := hid hcur
      clear hgh hu hcur
      go_wp2
      go_roundg (np - (i + 1))
      case measure => omega
      case rel => exact ⟨i + 1, by omega, by omega, by go_num, hid ⟨BN.out, fun _ => ⟨g, _, rfl, hgB, HN.out, by have := HC.out; simpa using this⟩⟩⟩
    · have hltz : ¬ (i : Int) < (np : Int) := by omega
      obtain rfl : i = np := by omega
      have BZ := hid (gbelow_on B44.out (Nat.le_refl _) BW.out.1)
      have OZ := hid (O44.out.on (Nat.le_refl _) BW.out.1)
      have LZ := hid (L44.out.on (Nat.le_refl _) BW.out.1)
      go_wp2_with fail
      refine (CK.out _ OZ.out).mono ?_
      rintro e w12 ⟨rfl, rfl⟩
      go_wp2_with fail
      refine (CL.out _ LZ.out).mono ?_
      rintro e w13 ⟨rfl, h13⟩
      have CSZ := hid (same_any (OZ.out.on (Nat.le_refl _) h13.out) (LZ.out.on (Nat.le_refl _) h13.out) (Nat.le_refl _) (Nat.le_refl _))
      rw [decide_eq_true rfl] at CSZ
      go_wp2_with fail
      refine CSZ.out.mono ?_
      rintro e w14 ⟨rfl, h14⟩
      go_wp2
      go_ret
      exact ⟨rfl, gbelow_on (gbelow_on BZ.out (Nat.le_refl _) h13.out) (Nat.le_refl _) h14.out⟩
end Go.Proofs.Ytohofgmdellpnaa.Seen
