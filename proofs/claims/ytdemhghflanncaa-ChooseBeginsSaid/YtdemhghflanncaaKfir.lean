/- The document's Firsts. -/
import Derived.Test.YtdemhghflanncaaKsor
namespace Go.Proofs.Ytdemhghflanncaa
open Go.RowKit Go.Shelf Go.Lib

theorem any_upto {l : List De} {j : Nat} {e : De} (i : Int) (h : l[j]? = some e) : (l.take (j + 1)).any (fun x => x.1 == i) = ((l.take j).any (fun x => x.1 == i) || e.1 == i) := by
  rw [List.take_add_one, h, List.any_append]
  simp

set_option maxHeartbeats 6400000 in
set_option maxRecDepth 100000 in
theorem firsts_any {w : World} {B n c : Nat} {A : Option Addr} {l : List De} (h : Ds w B A n c l) (hB : B ≤ w.heap.size) (hn : n ≤ 1000) :
    Calls Try.prog 38 #[.slice A n c] w fun e w' => ∃ v, e = .returned v ∧ Hid (Od w' w.heap.size v (fsts l) ∧ Below w.heap.size w w') := by
  have mixed : Try.prog.follows .mixedOrders = true := by kernel_rfl
  have H := hid (h.mono hB)
  have hm := h.max
  have hcap := h.cap
  have HL := hid h.len
  clear h
  go_enter Try.func38, Try.ntmps38
  go_wp2
  go_loopg [3, 4, 5, 6] n (fun gg s3 s4 _ _ wr => ∃ kk : Nat, kk ≤ n ∧ n - kk ≤ gg ∧ s4 = .int .i64 kk ∧ Hid (Od wr w.heap.size s3 (fsts (l.take kk))) ∧ Hid (Below w.heap.size w wr))
  case atStart => exact ⟨0, Nat.zero_le _, by omega, rfl, hid (Od.nil w _), hid (Below.refl _ w)⟩
  case round =>
    obtain ⟨kk, hkk, hg, rfl, HO, BW⟩ := hrel
    by_cases hlt : kk < n
    case neg =>
      have hltz : ¬ (kk : Int) < (n : Int) := by omega
      obtain rfl : kk = n := by omega
      go_wp2
      go_ret
      refine ⟨_, rfl, hid ⟨?_, BW.out⟩⟩
      have h1 := HO.out
      rw [List.take_of_length_le (by rw [HL.out]; exact Nat.le_refl _)] at h1
      exact h1
    have hltz : (kk : Int) < (n : Int) := by omega
    obtain ⟨d, hd⟩ := H.out.get hlt
    have Hd := hid hd
    clear hd
    obtain ⟨b, off, rfl, hbB, hc⟩ := (H.out.below BW.out).at_ (by omega)
    have hcd := (hc kk d Hd.out).1
    have HCC := hid hc
    clear hc
    obtain ⟨q, hq⟩ : ∃ q, q = (l.take kk).any (fun x => x.1 == d.1) := ⟨_, rfl⟩
    go_upto_block 2 with fail
    go_cut [5, 6] (fun s5 _ wx => s5 = .bool q ∧ Hid (Below wr.heap.size wr wx))
    case first =>
      have HQ := hid hq
      clear hq
      go_wp2_with fail
      go_loopg [5, 6] kk (fun gg s5 s6 wx => ∃ j : Nat, j ≤ kk ∧ kk - j ≤ gg ∧ s6 = .int .i64 j ∧ s5 = .bool ((l.take j).any (fun x => x.1 == d.1)) ∧ Hid (Below wr.heap.size wr wx))
      case atStart => exact ⟨0, Nat.zero_le _, by omega, rfl, rfl, hid (Below.refl _ wr)⟩
      case round =>
        obtain ⟨j, hj, hg2, rfl, rfl, BX⟩ := hrel
        by_cases hjk : j < kk
        case neg =>
          have hjz : ¬ (j : Int) < (kk : Int) := by omega
          obtain rfl : j = kk := by omega
          rw [← HQ.out]
          go_wp2
          go_meet
          exact ⟨rfl, BX⟩
        have hjz : (j : Int) < (kk : Int) := by omega
        obtain ⟨e, he⟩ := H.out.get (show j < n by omega)
        have hj1 := (HCC.out j e he).1
        have hbw : b < wr.heap.size := Nat.lt_of_lt_of_le hbB (Nat.le_trans BW.out.size BX.out.size)
        have cj : wr.cell? ⟨b, off + j * 2, none⟩ = some (.int .i64 e.1) := (BX.out.cell (p := ⟨b, off + j * 2, none⟩) (Nat.lt_of_lt_of_le hbB BW.out.size)).trans hj1
        have ck : wr.cell? ⟨b, off + kk * 2, none⟩ = some (.int .i64 d.1) := (BX.out.cell (p := ⟨b, off + kk * 2, none⟩) (Nat.lt_of_lt_of_le hbB BW.out.size)).trans hcd
        have HN := hid (any_upto d.1 he)
        have hjn : (j : Int) < (n : Int) := by omega
        clear he hj1 hcd
        obtain ⟨e1, e2⟩ := e
        obtain ⟨d1, d2⟩ := d
        change wr.cell? ⟨b, off + j * 2, none⟩ = some (.int .i64 e1) at cj
        change wr.cell? ⟨b, off + kk * 2, none⟩ = some (.int .i64 d1) at ck
        cases hX : (l.take j).any (fun x => x.1 == d1) with
        | true =>
          have HR : Hid ((l.take (j + 1)).any (fun x => x.1 == d1) = true) := hid (HN.out.trans (by show ((l.take j).any (fun x => x.1 == d1) || _) = true; rw [hX]; rfl))
          clear HN hX
          go_wp2_with fail
          go_quiet (fail)
          go_wp2
          go_roundg (kk - (j + 1))
          case measure => omega
          case rel => exact ⟨j + 1, by omega, by omega, by go_num, congrArg Value.bool HR.out.symm, hid (below_drewN BX.out _)⟩
        | false =>
          by_cases hed : e1 = d1
          · have HR : Hid ((l.take (j + 1)).any (fun x => x.1 == d1) = true) := hid (HN.out.trans (by show ((l.take j).any (fun x => x.1 == d1) || (e1 == d1)) = true; rw [hX, hed]; simp))
            clear HN hX
            subst hed
            go_wp2_with fail
            go_quiet (fail)
            go_wp2
            go_roundg (kk - (j + 1))
            case measure => omega
            case rel => exact ⟨j + 1, by omega, by omega, by go_num, congrArg Value.bool HR.out.symm, hid (below_drewN BX.out _)⟩
          · have HR : Hid ((l.take (j + 1)).any (fun x => x.1 == d1) = false) := hid (HN.out.trans (by show ((l.take j).any (fun x => x.1 == d1) || (e1 == d1)) = false; rw [hX]; simpa using hed))
            clear HN hX
            have hed2 : (e1 == d1) = false := by simpa using hed
            go_wp2_with fail
            go_quiet (fail)
            go_wp2
            go_roundg (kk - (j + 1))
            case measure => omega
            case rel => exact ⟨j + 1, by omega, by omega, by go_num, congrArg Value.bool HR.out.symm, hid (below_drewN BX.out _)⟩
    case rest =>
      obtain ⟨rfl, BX⟩ := hcut
      have BWc := hid (BW.out.trans (BX.out.mono BW.out.size))
      have HOc := hid (HO.out.below BX.out)
      have hbw : b < wr.heap.size := Nat.lt_of_lt_of_le hbB BW.out.size
      have ck : wc.cell? ⟨b, off + kk * 2, none⟩ = some (.int .i64 d.1) := (BX.out.cell (p := ⟨b, off + kk * 2, none⟩) hbw).trans (HCC.out kk d Hd.out).1
      have ck2 : wc.cell? ⟨b, off + kk * 2 + 1, none⟩ = some (.int .i64 d.2) := (BX.out.cell (p := ⟨b, off + kk * 2 + 1, none⟩) hbw).trans (HCC.out kk d Hd.out).2
      have hs : fsts (l.take (kk + 1)) = if q then fsts (l.take kk) else fsts (l.take kk) ++ [d] := by
        rw [take_snoc Hd.out, fsts_snoc]
        unfold stp
        rw [any_fsts, ← hq]
      clear hq HCC hcd
      cases q with
      | true =>
        have HS : Hid (fsts (l.take (kk + 1)) = fsts (l.take kk)) := hid hs
        clear hs
        go_wp2
        go_roundg (n - (kk + 1))
        case measure => omega
        case rel => exact ⟨kk + 1, by omega, by omega, by go_num, hid (by rw [HS.out]; exact HOc.out), BWc⟩
      | false =>
        have HS : Hid (fsts (l.take (kk + 1)) = fsts (l.take kk) ++ [d]) := hid hs
        clear hs
        obtain ⟨d1, d2⟩ := d
        change wc.cell? ⟨b, off + kk * 2, none⟩ = some (.int .i64 d1) at ck
        change wc.cell? ⟨b, off + kk * 2 + 1, none⟩ = some (.int .i64 d2) at ck2
        have HLe : Hid ((fsts (l.take kk)).length ≤ 1000) := hid (by
          have := (fsts_sublist (l.take kk)).length_le
          rw [List.length_take] at this
          omega)
        have HM : Hid ((wc.alloc (.cells #[.int .i64 d1, .int .i64 d2] 23)).heap[wc.heap.size]? = some (.cells #[.int .i64 d1, .int .i64 d2] 23 (0, 0))) := hid (heap_alloc_new wc _)
        have HOd := hid (HOc.out.below ((Below.refl wc.heap.size wc).alloc (Nat.le_refl _) (.cells #[.int .i64 d1, .int .i64 d2] 23)))
        have HBd := hid (BWc.out.alloc BWc.out.size (.cells #[.int .i64 d1, .int .i64 d2] 23))
        have HOL := hid (fun k hk => (own_lt HOc.out k hk).1)
        go_wp2_with (at_builtin; refine list_appD rfl (.tmp 34) (.tmp 39) rfl (v := u3) (B := w.heap.size) (l := fsts (l.take kk)) (r := [(d1, d2)]) rfl rfl HOd.out (ds_at HM.out) (by have := HLe.out; omega) HBd.out.size ?_; intro v40 w40 HT)
        go_roundg (n - (kk + 1))
        case measure => omega
        case rel => exact ⟨kk + 1, by omega, by omega, by go_num, hid (by rw [HS.out]; exact HT.out.own), hid (HBd.out.trans (HT.out.below HOL.out HBd.out.size))⟩
end Go.Proofs.Ytdemhghflanncaa
