/- ChooseRound, walked over the program's One. -/
import Derived.Test.YtdemhghflanncaaHalv
import Derived.Deep.DeepCutAuto
namespace Go.Proofs.Ytdemhghflanncaa
open Go.RowKit Go.Shelf Go.Lib

def HAliveOk : Prop := ∀ w : World, Calls Try.prog 12 #[] w fun e w' => e = .returned (.bool true) ∧ Hid (Below w.heap.size w w')
theorem row_zero (l : List De) (y : Nat) : row l y 0 = [] := rfl
theorem row_succ {l : List De} {y i : Nat} {d : De} (h : l[(y + i) % l.length]? = some d) : row l y (i + 1) = row l y i ++ [d] := by
  unfold row
  rw [List.range_succ, List.filterMap_append]
  congr 1
  simp [h]
theorem row_len (l : List De) (y n : Nat) : (row l y n).length ≤ n := by
  unfold row
  have := List.length_filterMap_le (fun i => l[(y + i) % l.length]?) (List.range n)
  rwa [List.length_range] at this
theorem may_ids {o p : Int} {l : List De} (h : CMay o p l) : Ids l := by
  rw [h.2.2.2.2.2.2]
  exact top_ids _
theorem row_best {o p : Int} {l : List De} (h : CMay o p l) (y : Nat) : chk (row l y l.length) = 0 ∧ bst (row l y l.length) = l := by
  obtain ⟨h1, h2, h3, h4, h5, h6, h7⟩ := h
  have hc : chk (row l y l.length) = 0 := by
    refine chk_zero.2 ⟨by have := row_len l y l.length; omega, any_bad_mem (m := l) (fun d hd => (row_all y).1 hd) (chk_zero.1 h6).2⟩
  refine ⟨hc, ?_⟩
  have hb : bst (row l y l.length) = top (row l y l.length) := if_pos hc
  have hm : ∀ d, d ∈ l → d.1 ≠ o := fun d hd => by
    rw [h7] at hd
    exact (mem_oth.1 (mem_top.1 hd).1).2
  rw [hb, top_congr (fun d => row_all y)]
  rw [oth_self hm] at h7
  exact h7.symm

set_option maxHeartbeats 6400000 in
set_option maxRecDepth 100000 in
theorem hround_walk (CA : HAliveOk) (D1 : OneOk) {w : World} {nc cc : Nat} {Ac : Option Addr} {k : List De} (o p : Int) (x : Nat) (hx : x < 18446744073709551616) (hc : Ds w w.heap.size Ac nc cc k) :
    Calls Try.prog 5 #[cav o p (.slice Ac nc cc), .int .u64 (x : Int)] w fun e w' => e = .returned (.bool true) ∧ Below w.heap.size w w' := by
  have mixed : Try.prog.follows .mixedOrders = true := by kernel_rfl
  have HL := hid hc.len
  have hcap := hc.cap
  obtain ⟨W0, hW⟩ : ∃ W, W = w.alloc (.cells #[.int .i64 o, .int .i64 p, .slice Ac nc cc] 29) := ⟨_, rfl⟩
  have B0 := hid (show Below w.heap.size w W0 from hW ▸ (Below.refl _ w).alloc (Nat.le_refl _) _)
  have X0 := hid (show Cbox W0 w.heap.size o p (.slice Ac nc cc) from hW ▸ heap_alloc_new w _)
  have D0 := hid ((hc.below B0.out).mono B0.out.size)
  have HW := hid hW
  clear hW hc
  unfold cav
  go_enter Try.func5, Try.ntmps5
  go_upto_region 1 with fail
  rw [← HW.out]
  clear HW
  go_wp2_with fail
  refine (CA W0).mono ?_
  rintro e w1 ⟨rfl, hb⟩
  have X1 := hid (X0.out.below hb.out X0.out.lt)
  have D1c := hid ((D0.out.below hb.out).mono hb.out.size)
  have B1 := hid (B0.out.trans (hb.out.mono B0.out.size))
  clear X0 D0 B0 hb
  have x2 := X1.out.c2
  by_cases h6 : 6 < nc
  · have h6z : (nc : Int) > 6 := by omega
    go_wp2
    go_ret
    exact ⟨rfl, B1.out⟩
  have h6z : ¬ (nc : Int) > 6 := by omega
  go_upto_if 27 with fail
  go_cut [1] (fun s1 wx => ∃ y : Nat, s1 = .int .u64 (y : Int) ∧ y ≤ 18446744073709551609 ∧ wx = w1)
  case first =>
    by_cases hbig : 18446744073709551609 < x
    · have hbz : (x : Int) > 18446744073709551609 := by omega
      go_wp2
      go_meet
      exact ⟨0, rfl, by omega, rfl⟩
    · have hbz : ¬ (x : Int) > 18446744073709551609 := by omega
      go_wp2
      go_meet
      exact ⟨x, rfl, by omega, rfl⟩
  case rest =>
    obtain ⟨y, rfl, hy, rfl⟩ := hcut
    have HB := hid (Below.refl wc.heap.size wc)
    have hqs := eqlD
    have hgd := grdD
    by_cases hq : CMay o p k
    case neg =>
      have C1 := hid (fun X (hb : Below wc.heap.size wc X) => D1 X o p _ nc cc Ac k y (D1c.out.below hb) hb.size (by omega))
      have hE : onE o p k = 8 := if_neg hq
      have hF : onD o p k y = (0, 0) := by unfold onD; rw [hE]; rfl
      rw [hE, hF] at C1
      have CB := hid (best_any (Ds.nil' wc wc.heap.size) (Nat.le_refl _))
      rw [show chk [] = 0 by decide, show bst [] = [] by decide] at CB
      unfold cav dv at C1
      clear hq hE hF
      go_wp2
      go_loopg [7, 8, 9, 10] 1 (fun _ s7 s8 _ _ wr => s7 = .slice none 0 0 ∧ s8 = .int .i64 0 ∧ wr = wc)
      case atStart => exact ⟨rfl, rfl, rfl⟩
      case round =>
        obtain ⟨rfl, rfl, rfl⟩ := hrel
        by_cases hn0 : nc = 0
        · have hz : ¬ (0 : Int) < (nc : Int) := by omega
          have hnz : (nc : Int) = 0 := by omega
          go_wp2_with fail
          refine CB.out.mono ?_
          rintro e w2 ⟨v, rfl, h2⟩
          go_wp2
          go_ret
          exact ⟨rfl, B1.out.trans (h2.out.2.mono B1.out.size)⟩
        · have hz : (0 : Int) < (nc : Int) := by omega
          have x0 := X1.out.c0
          have x1 := X1.out.c1
          have x2 := X1.out.c2
          have hw : IntKind.u64.wrap (y : Int) = (y : Int) := by rw [IntKind.wrap_u64]; omega
          go_wp2_with fail
          refine (C1.out _ HB.out).mono ?_
          rintro e w2 ⟨rfl, h2⟩
          have hq00 := eqlD 0 0 0 0
          rw [decide_eq_true rfl] at hq00
          go_wp2
          go_ret
          exact ⟨rfl, (B1.out.trans (h2.out.mono B1.out.size)).alloc (Nat.le_trans B1.out.size h2.out.size) _⟩
    case pos =>
      obtain ⟨rc, rb⟩ := row_best hq y
      rw [HL.out] at rc rb
      have RC := hid (And.intro rc rb)
      have C1 := hid (fun X (hb : Below wc.heap.size wc X) (i : Nat) (hi : i < nc) => D1 X o p _ nc cc Ac k (y + i) (D1c.out.below hb) hb.size (by omega))
      have HE := hid (show 0 < nc → onE o p k = 0 from fun h => by unfold onE; rw [if_pos hq, if_neg (by rw [HL.out]; omega)])
      clear hq rc rb
      go_wp2
      go_loopg [7, 8, 9, 10] nc (fun gg s7 s8 _ _ wr => ∃ kk : Nat, kk ≤ nc ∧ nc - kk ≤ gg ∧ s8 = .int .i64 kk ∧ Hid (Od wr wc.heap.size s7 (row k y kk)) ∧ Hid (Below wc.heap.size wc wr))
      case atStart => exact ⟨0, Nat.zero_le _, by omega, rfl, hid (Od.nil _ _), HB⟩
      case round =>
        obtain ⟨kk, hkk, hg, rfl, HO, BW⟩ := hrel
        obtain ⟨A7, n7, c7, hv7, o7, d7⟩ := od_lett HO.out
        subst hv7
        have O7 := hid o7
        have D7 := hid d7
        clear o7 d7 HO
        by_cases hlt : kk < nc
        · have hz : (kk : Int) < (nc : Int) := by omega
          obtain ⟨d, hd⟩ := pick (l := k) (y + kk) (by rw [HL.out]; omega)
          have HR := hid (row_succ hd)
          have hF : onD o p k (y + kk) = d := by unfold onD; rw [HE.out (by omega), if_pos rfl, hd]; rfl
          have CC := hid (C1.out _ BW.out kk hlt)
          rw [HE.out (by omega), hF] at CC
          obtain ⟨d1, d2⟩ := d
          unfold cav dv at CC
          clear hF hd
          have XX := hid (X1.out.below BW.out X1.out.lt)
          have x0 := XX.out.c0
          have x1 := XX.out.c1
          have x2 := XX.out.c2
          have hw : IntKind.u64.wrap (kk : Int) = (kk : Int) := by rw [IntKind.wrap_u64]; omega
          have hw2 : IntKind.u64.wrap ((y : Int) + (kk : Int)) = ((y + kk : Nat) : Int) := by rw [IntKind.wrap_u64]; omega
          go_wp2_with fail
          refine CC.out.mono ?_
          rintro e w2 ⟨rfl, h2⟩
          go_upto_region 14 with fail
          obtain ⟨W2, hW2⟩ : ∃ W2, W2 = w2.alloc (.cells #[.int .i64 d1, .int .i64 d2] 23) := ⟨_, rfl⟩
          rw [← hW2]
          have b2 := hid (show Below wr.heap.size wr W2 from hW2 ▸ h2.out.alloc h2.out.size _)
          have Y2 := hid (show Dbx W2 w2.heap.size (d1, d2) from hW2 ▸ heap_alloc_new w2 _)
          have O2 := hid (O7.out.below b2.out)
          have B2 := hid (BW.out.trans (b2.out.mono BW.out.size))
          clear hW2 h2 CC O7 D7 x0 x1 x2 XX BW
          have y0 := Y2.out.c0
          have y1 := Y2.out.c1
          change W2.cell? ⟨w2.heap.size, 0, none⟩ = some (.int .i64 d1) at y0
          change W2.cell? ⟨w2.heap.size, 1, none⟩ = some (.int .i64 d2) at y1
          have HM := hid (heap_alloc_new W2 (.cells #[.int .i64 d1, .int .i64 d2] 23))
          have HOd := hid (O2.out.below ((Below.refl W2.heap.size W2).alloc (Nat.le_refl _) (.cells #[.int .i64 d1, .int .i64 d2] 23)))
          have HBd := hid (B2.out.alloc B2.out.size (.cells #[.int .i64 d1, .int .i64 d2] 23))
          have HLe := hid (row_len k y kk)
          go_wp2_with (first | (at_builtin; refine list_appD rfl (.tmp 54) (.tmp 56) rfl (v := .slice A7 n7 c7) (B := wc.heap.size) (l := row k y kk) (r := [(d1, d2)]) rfl rfl HOd.out (ds_at HM.out) (by have := HLe.out; omega) HBd.out.size ?_; intro v57 w57 HT) | go_in)
          go_roundg (nc - (kk + 1))
          case measure => omega
          case rel => exact ⟨kk + 1, by omega, by omega, by go_num, hid (by rw [HR.out]; exact HT.out.own), hid (HBd.out.trans (HT.out.below (fun k hk => (own_lt HOd.out k hk).1) HBd.out.size))⟩
        · have hz : ¬ (kk : Int) < (nc : Int) := by omega
          obtain rfl : kk = nc := by omega
          have CB := hid (best_any D7.out (Nat.le_refl _))
          rw [RC.out.1, RC.out.2] at CB
          have BB := hid (B1.out.trans (BW.out.mono B1.out.size))
          by_cases hn0 : kk = 0
          · have hnz : (kk : Int) = 0 := by omega
            go_wp2_with fail
            refine CB.out.mono ?_
            rintro e w2 ⟨v, rfl, h2⟩
            go_wp2
            go_ret
            exact ⟨rfl, BB.out.trans (h2.out.2.mono BB.out.size)⟩
          · have hnz : ¬ (kk : Int) = 0 := by omega
            go_wp2_with fail
            refine CB.out.mono ?_
            rintro e w2 ⟨v, rfl, h2⟩
            obtain ⟨A8, n8, c8, hv8, _, d8⟩ := od_lett h2.out.1
            subst hv8
            have BB2 := hid (BB.out.trans (h2.out.2.mono BB.out.size))
            have bw := hid (BW.out.trans (h2.out.2.mono BW.out.size))
            have XX := hid (X1.out.below bw.out X1.out.lt)
            have x2 := XX.out.c2
            have CS := hid (dsame_any d8 (D1c.out.below bw.out) (Nat.le_refl _) bw.out.size)
            rw [decide_eq_true rfl] at CS
            clear d8 h2
            go_wp2_with fail
            refine CS.out.mono ?_
            rintro e w3 ⟨rfl, h3⟩
            go_wp2
            go_ret
            exact ⟨rfl, BB2.out.trans (h3.out.mono BB2.out.size)⟩
end Go.Proofs.Ytdemhghflanncaa
