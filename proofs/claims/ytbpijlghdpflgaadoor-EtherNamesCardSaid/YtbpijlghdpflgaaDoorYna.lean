/- EtherNames, walked over the program's calls. -/
import Derived.Test.YtbpijlghdpflgaaDoorYla
import Derived.Test.YtbpijlghdpflgaaDoorYpg
import Derived.Test.YtbpijlghdpflgaaDoorYpo
namespace Go.Proofs.YtbpijlghdpflgaaDoor.Eth
open Go.RowKit Go.Shelf Go.Lib

/-- The first k copies, as the loop sends them. -/
def ones (k : Nat) : List Cp := (List.range k).map fun i : Nat => oneC (i : Int)
theorem ones_succ (k : Nat) : ones (k + 1) = ones k ++ [oneC (k : Int)] := by unfold ones; rw [List.range_succ, List.map_append]; rfl
theorem ones_len (k : Nat) : (ones k).length = k := by unfold ones; rw [List.length_map, List.length_range]
theorem ones_may {k : Nat} (hk : k ≤ 16) : ∀ p ∈ ones k, MayC p := by
  intro p hp
  obtain ⟨i, hi, rfl⟩ := List.mem_map.1 hp
  have h := List.mem_range.1 hi
  exact ⟨⟨by show (0 : Int) ≤ i; omega, by show (i : Int) ≤ 1048575; omega⟩, ⟨by show (0 : Int) ≤ 1; omega, by show (1 : Int) < 8; omega⟩, by show 1 ≤ 2; omega, by show 2 ≤ 4105; omega⟩
theorem ones_chk {k : Nat} (hk : k ≤ 16) : echk (ones k) = 0 := echk_zero.2 ⟨by rw [ones_len]; exact hk, ones_may hk⟩
theorem one_may {i : Int} (h0 : 0 ≤ i) (h1 : i ≤ 1048575) : MayC (i, 1, [1, 2], false) := ⟨⟨h0, h1⟩, ⟨by show (0 : Int) ≤ 1; omega, by show (1 : Int) < 8; omega⟩, by show 1 ≤ 2; omega, by show 2 ≤ 4105; omega⟩
/-- What the loop has behind k rounds. -/
structure NaI (w : World) (k : Nat) (v : Value) (X : World) : Prop where
  row : ∃ A c rs, v = .slice A k c ∧ TwI w w.heap.size (.slice A k c) rs (ones k) X ∧ Cls X X.heap.size A k c (ones k)
theorem NaI.of {w X Y : World} {k : Nat} {A : Option Addr} {c : Nat} {rs : List Cr} (hb : Below w.heap.size w X) (h : Cow Y (fun q => X.heap.size ≤ q) A k c rs (ones k)) (hg : Gw Y X.heap.size 28 4 (.slice A k c) k (cellsC rs)) (hy : Below X.heap.size X Y) : NaI w k (.slice A k c) Y :=
  ⟨A, c, rs, rfl, ⟨by rw [ones_len]; exact hg.mono hb.size, h.pair, fun r hr => (h.txt r hr).mono (fun _ hq => Nat.le_trans hb.size hq), gbelow_on hb (Nat.le_refl _) hy⟩, h.cls⟩
theorem na_sn : snE (ones 16) (16, 1, [1, 2], false) = 9 := by decide +kernel
theorem na_snL : snL (ones 16) (16, 1, [1, 2], false) = [] := if_neg (by rw [na_sn]; decide)
theorem na_db : dbE (ones 16) 15 = 9 := by decide +kernel
theorem na_dbL : dbL (ones 16) 15 = [] := if_neg (by rw [na_db]; decide)
theorem na_dc : dbE (ones 16) 16 = 2 := by decide +kernel
theorem na_dcL : dbL (ones 16) 16 = [] := if_neg (by rw [na_dc]; decide)
theorem na_sz : snE (ones 16) (0, 0, [], false) = 8 := by decide +kernel
theorem na_szL : snL (ones 16) (0, 0, [], false) = [] := if_neg (by rw [na_sz]; decide)
theorem na_sp : spE (ones 16) 2 15 1 = 0 := by decide +kernel
theorem na_sp2 : spE (spL (ones 16) 2 15 1) 2 15 1 = 12 := by decide +kernel
theorem na_spk : spE (ones 16) 2 15 2 = 2 := by decide +kernel
theorem na_spm : spE (ones 16) 2 0 0 = 2 := by decide +kernel
theorem na_tk : tkE (ones 16 ++ [oneC 1]) 0 = 4 := by decide +kernel
theorem na_tkL : tkL (ones 16 ++ [oneC 1]) 0 = [] := if_neg (by rw [na_tk]; decide)
theorem na_tkC : tkC (ones 16 ++ [oneC 1]) 0 = C0 := if_neg (by rw [na_tk]; decide)

def OneO (w : World) (x : Int) (e : Ending) (w' : World) : Prop := ∃ (D : Option Addr) (d : Nat), e = .returned (.agg #[.int .i64 x, .int .i64 1, .slice D 2 d, .bool false]) ∧ Hid (Gs w' w'.heap.size D 2 d 1 (cellsB [1, 2]) ∧ Below w.heap.size w w' ∧ Tow w' (fun k => w.heap.size ≤ k) (x, 1, (D, 2, d), false))
set_option maxHeartbeats 1600000 in
theorem one_own (x : Int) (w : World) : Calls Tryd.prog 8 #[.int .i64 x] w (OneO w x) := by
  go_enter Tryd.func8, Tryd.ntmps8
  go_wp2
  refine ret_copy1 (g := w.heap.size) (x := x) (y := 1) (A := some ⟨w.heap.size + 1, 0, none⟩) (n := 2) (c := 2) (s := false) rfl rfl rfl ?_ ?_
  · exact (heap_two w _ _).1
  · have h2 := (heap_two w (.cells #[.int .i64 x, .int .i64 1, .slice (some ⟨w.heap.size + 1, 0, none⟩) 2 2, .bool false] 28) (.cells #[.int .u8 1, .int .u8 2] 5)).2
    exact ⟨_, 2, rfl, hid ⟨Gs.new (cs := cellsB [1, 2]) (k := 1) h2 (lt_of_heap h2) rfl (Nat.le_refl _) (by omega), below_two w _ _, fun _ => ⟨w.heap.size + 1, 0, _, rfl, Nat.le_succ _, h2, Nat.le_refl _⟩⟩⟩
theorem na_len : (ones 16 ++ [oneC 1]).length = 17 := by rw [List.length_append, ones_len]; rfl

set_option maxHeartbeats 25600000 in
set_option maxRecDepth 100000 in
theorem names_walk (w : World) (hT : Tab w) : Calls Tryd.prog 3 #[] w fun e w' => e = .returned (.bool true) ∧ Below w.heap.size w w' := by
  go_enter Tryd.func3, Tryd.ntmps3
  go_wp2
  go_loopg [1, 2] 16 (fun gg s1 s2 wr => ∃ kk : Nat, kk ≤ 16 ∧ 16 - kk ≤ gg ∧ s2 = .int .i64 kk ∧ Hid (NaI w kk s1 wr))
  case atStart => exact ⟨0, by omega, by omega, rfl, hid ⟨⟨none, 0, [], rfl, ⟨Gw.nil _ _ _ _, Pair.nil _ _, by simp, Below.refl _ _⟩, Cls.nil' _ _⟩⟩⟩
  case round =>
    obtain ⟨kk, hkk, hg, rfl, HI⟩ := hrel
    obtain ⟨⟨A, c, rs, rfl, hG, hC⟩⟩ := HI.out
    have HG := hid hG
    have HC := hid hC
    have BW := hid hG.bel
    clear hG hC HI
    by_cases hlt : kk < 16
    · have hltz : (kk : Int) < 16 := by omega
      have HE := hid (ones_chk hkk)
      go_wp2_with fail
      refine (one_any (kk : Int) wr).mono ?_
      rintro e w1 ⟨D1, d1, rfl, h1⟩
      have CS := hid (send_own (x := (kk : Int)) (y := 1) (s := false) (HC.out.on (Nat.le_refl _) h1.out.2) (Nat.le_refl _) h1.out.1 fit_one (Nat.le_refl _) HE.out (one_may (by omega) (by omega)) hlt)
      have b1 := hid (gbelow_on BW.out (Nat.le_refl _) h1.out.2)
      clear h1
      go_wp2_with fail
      refine CS.out.mono ?_
      rintro e w2 ⟨A2, n2, c2, rs2, rfl, h2⟩
      obtain rfl : n2 = kk + 1 := by have := h2.out.2.2.1; rw [List.length_append, ones_len] at this; exact this
      have HN := hid (NaI.of (k := kk + 1) b1.out (by rw [ones_succ]; exact h2.out.1) h2.out.2.2.2 h2.out.2.1)
      clear CS h2 HC HG
      go_wp2
      go_roundg (16 - (kk + 1))
      case measure => omega
      case rel => exact ⟨kk + 1, by omega, by omega, by go_num, HN⟩
    · have hltz : ¬ (kk : Int) < 16 := by omega
      obtain rfl : kk = 16 := by omega
      clear hlt hkk

      go_wp2_with fail
      refine (one_own 16 _).mono ?_
      rintro e woa ⟨Doa, doa, rfl, hoa⟩
      have HC1 := hid (HC.out.on (Nat.le_refl _) hoa.out.2.1)
      have BW1 := hid (gbelow_on BW.out (Nat.le_refl _) hoa.out.2.1)
      have HG1 := hid (HG.out.kept hoa.out.2.1 BW1.out)
      have HOa := hid hoa.out.1
      have HWa := hid (hoa.out.2.2.mono (T := fun k => w.heap.size ≤ k) (fun _ hq => Nat.le_trans BW.out.size hq))
      clear hoa HC HG BW
      have Csa := hid (send_ok _ _ _ _ _ _ _ _ _ _ 16 1 _ false HC1.out (Nat.le_refl _) HOa.out fit_one (Nat.le_refl _))
      rw [na_sn, na_snL] at Csa
      go_wp2_with fail
      refine Csa.out.mono ?_
      rintro e wsa ⟨Asa, nsa, csa, rssa, rfl, hsa⟩
      have HC2 := hid (HC1.out.on (Nat.le_refl _) hsa.out.2.1)
      have BW2 := hid (gbelow_on BW1.out (Nat.le_refl _) hsa.out.2.1)
      have HG2 := hid (HG1.out.kept hsa.out.2.1 BW2.out)
      clear hsa Csa HC1 HG1 BW1
      have Cda := hid (double_ok _ _ _ _ _ _ 15 HC2.out (Nat.le_refl _))
      rw [na_db, na_dbL] at Cda
      go_wp2_with fail
      refine Cda.out.mono ?_
      rintro e wda ⟨Ada, nda, cda, rsda, rfl, hda⟩
      have HC3 := hid (HC2.out.on (Nat.le_refl _) hda.out.2.1)
      have BW3 := hid (gbelow_on BW2.out (Nat.le_refl _) hda.out.2.1)
      have HG3 := hid (HG2.out.kept hda.out.2.1 BW3.out)
      clear hda Cda HC2 HG2 BW2
      have Cdb := hid (double_ok _ _ _ _ _ _ 16 HC3.out (Nat.le_refl _))
      rw [na_dc, na_dcL] at Cdb
      go_wp2_with fail
      refine Cdb.out.mono ?_
      rintro e wdb ⟨Adb, ndb, cdb, rsdb, rfl, hdb⟩
      have HC4 := hid (HC3.out.on (Nat.le_refl _) hdb.out.2.1)
      have BW4 := hid (gbelow_on BW3.out (Nat.le_refl _) hdb.out.2.1)
      have HG4 := hid (HG3.out.kept hdb.out.2.1 BW4.out)
      clear hdb Cdb HC3 HG3 BW3
      have Csb := hid (send_ok _ _ _ _ _ _ _ _ none _ 0 0 [] false HC4.out (Nat.le_refl _) (Gs.nil' _ 0 1) (by simp) (Nat.zero_le _))
      rw [na_sz, na_szL] at Csb
      go_wp2_with fail
      refine Csb.out.mono ?_
      rintro e wsb ⟨Asb, nsb, csb, rssb, rfl, hsb⟩
      have HC5 := hid (HC4.out.on (Nat.le_refl _) hsb.out.2.1)
      have BW5 := hid (gbelow_on BW4.out (Nat.le_refl _) hsb.out.2.1)
      have HG5 := hid (HG4.out.kept hsb.out.2.1 BW5.out)
      clear hsb Csb HC4 HG4 BW4
      have Cpa := hid (spoil_ok (i := 2) (a := 15) (m := 1) HC5.out (Nat.le_refl _) (by decide) (hT.below BW5.out hT.lt))
      rw [na_sp] at Cpa
      go_wp2_with fail
      refine Cpa.out.mono ?_
      rintro e wpa ⟨Apa, npa, cpa, rspa, rfl, hpa⟩
      have HC6 := hid (HC5.out.on (Nat.le_refl _) hpa.out.2.1)
      have BW6 := hid (gbelow_on BW5.out (Nat.le_refl _) hpa.out.2.1)
      have HG6 := hid (HG5.out.kept hpa.out.2.1 BW6.out)
      have HSpa := hid hpa.out.1.cls
      clear hpa Cpa HC5 HG5 BW5
      have Cpb := hid (spoil_ok (i := 2) (a := 15) (m := 1) HSpa.out (Nat.le_refl _) (by decide) (hT.below BW6.out hT.lt))
      rw [na_sp2] at Cpb
      go_wp2_with fail
      refine Cpb.out.mono ?_
      rintro e wpb ⟨Apb, npb, cpb, rspb, rfl, hpb⟩
      have HC7 := hid (HC6.out.on (Nat.le_refl _) hpb.out.2.1)
      have BW7 := hid (gbelow_on BW6.out (Nat.le_refl _) hpb.out.2.1)
      have HG7 := hid (HG6.out.kept hpb.out.2.1 BW7.out)
      have HS7 := hid (HSpa.out.on (Nat.le_refl _) hpb.out.2.1)
      clear hpb Cpb HC6 HG6 BW6 HSpa
      clear HS7
      have Cpc := hid (spoil_ok (i := 2) (a := 15) (m := 2) HC7.out (Nat.le_refl _) (by decide) (hT.below BW7.out hT.lt))
      rw [na_spk] at Cpc
      go_wp2_with fail
      refine Cpc.out.mono ?_
      rintro e wpc ⟨Apc, npc, cpc, rspc, rfl, hpc⟩
      have HC8 := hid (HC7.out.on (Nat.le_refl _) hpc.out.2.1)
      have BW8 := hid (gbelow_on BW7.out (Nat.le_refl _) hpc.out.2.1)
      have HG8 := hid (HG7.out.kept hpc.out.2.1 BW8.out)
      clear hpc Cpc HC7 HG7 BW7
      have Cpd := hid (spoil_ok (i := 2) (a := 0) (m := 0) HC8.out (Nat.le_refl _) (by decide) (hT.below BW8.out hT.lt))
      rw [na_spm] at Cpd
      go_wp2_with fail
      refine Cpd.out.mono ?_
      rintro e wpd ⟨Apd, npd, cpd, rspd, rfl, hpd⟩
      have HC9 := hid (HC8.out.on (Nat.le_refl _) hpd.out.2.1)
      have BW9 := hid (gbelow_on BW8.out (Nat.le_refl _) hpd.out.2.1)
      have HG9 := hid (HG8.out.kept hpd.out.2.1 BW9.out)
      clear hpd Cpd HC8 HG8 BW8
      go_wp2_with fail
      refine (one_own 1 _).mono ?_
      rintro e wob ⟨Dob, dob, rfl, hob⟩
      have HC10 := hid (HC9.out.on (Nat.le_refl _) hob.out.2.1)
      have BW10 := hid (gbelow_on BW9.out (Nat.le_refl _) hob.out.2.1)
      have HG10 := hid (HG9.out.kept hob.out.2.1 BW10.out)
      have HOb := hid hob.out.1
      have HWb := hid (hob.out.2.2.mono (T := fun k => w.heap.size ≤ k) (fun _ hq => Nat.le_trans BW9.out.size hq))
      clear hob HC9 HG9 BW9
      have ba := hid ((Below.refl wob.heap.size wob).alloc (Nat.le_refl _) (.cells #[.int .i64 1, .int .i64 1, .slice Dob 2 dob, .bool false] 28))
      have G4 := hid (Gs.new (cs := cellsC [(1, 1, (Dob, 2, dob), false)]) (k := 4) (n := 1) (c := 1) (B := wob.heap.size + 1) (heap_alloc_new wob (.cells #[.int .i64 1, .int .i64 1, .slice Dob 2 dob, .bool false] 28)) (Nat.lt_succ_self _) rfl (Nat.le_refl _) (by omega))
      have BWa := hid (gbelow_on BW10.out (Nat.le_refl _) ba.out)
      have HGa := hid (HG10.out.kept ba.out BWa.out)
      have HTo := hid (HWb.out.kept (Keep8.of_below ba.out))
      have HCo := hid ((Crd.in_ (x := 1) (y := 1) (s := false) HOb.out fit_one).on (Nat.le_refl _) ba.out)
      clear HC10 HG10
      go_wp2_with (first
        | (at_builtin
           refine list_appC (v := .slice A 16 c) (cs := cellsC rs) (rs := [(1, 1, (Dob, 2, dob), false)]) rfl _ _ rfl rfl rfl HGa.out.row G4.out (by rw [ones_len]; omega) BWa.out.size ?_
           intro v5 w5 T5
           have I5 := HGa.out.snoc BWa.out.size T5.out HTo.out HCo.out
           obtain ⟨A5, c5, e5, g5, _⟩ := I5.row.form
           have e5' : v5 = .slice A5 17 c5 := by rw [e5]; congr 1
           subst e5'
           have CL5 := hid (show Cls w5 w5.heap.size A5 17 c5 (ones 16 ++ [oneC 1]) from ⟨_, by have h := g5; rw [show (ones 16 ++ [((1, 1, [1, 2], false) : Cp)]).length = 17 from na_len] at h; exact h, I5.pair⟩)
           have BW5 := hid I5.bel
           have CT := hid (take_ok _ _ _ _ _ _ 0 CL5.out (Nat.le_refl _))
           rw [na_tk, na_tkL, na_tkC] at CT
           clear I5 g5 e5 T5)
        | fail)
      refine CT.out.mono ?_
      rintro e w6 ⟨A6, n6, c6, rs6, x6, y6, D6, m6, d6, s6, S6, rfl, h6⟩
      have b6 := hid (h6.out.2.2.2.2.1)
      have bx := hid ((Below.refl w6.heap.size w6).alloc (Nat.le_refl _) (.cells #[.int .i64 x6, .int .i64 y6, .slice D6 m6 d6, .bool s6] 28))
      have BW6 := hid (gbelow_on (gbelow_on BW5.out (Nat.le_refl _) b6.out) (Nat.le_refl _) bx.out)
      clear CT CL5 h6 HGa G4 HTo HCo HOb HWb
      go_wp2_with fail
      refine (alive_walk send_ok take_ok double_ok spoil_ok' stays_tab _ (hT.below BW6.out hT.lt)).mono ?_
      rintro e w7 ⟨rfl, h7⟩
      go_wp2
      go_ret
      exact ⟨rfl, gbelow_on BW6.out (Nat.le_refl _) h7.out⟩
end Go.Proofs.YtbpijlghdpflgaaDoor.Eth
