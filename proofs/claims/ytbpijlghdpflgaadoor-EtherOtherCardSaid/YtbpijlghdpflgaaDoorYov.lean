/- EtherOther, walked over the program's calls. -/
import Derived.Test.YtbpijlghdpflgaaDoorYou
namespace Go.Proofs.YtbpijlghdpflgaaDoor.Eth
open Go.RowKit Go.Shelf Go.Lib Go.BigFrame

set_option maxHeartbeats 25600000 in
set_option maxRecDepth 100000 in
theorem other_walk (PE : SameOk) (PS : SendOk) (PT : TakeOk) (PD : DoubleOk) {T : World → Prop} (PP : SpoilOk T) (ST : Stays T) {w : World} (hT : T w) {n c : Nat} {A : Option Addr} {l : List Cp} {i a : Int} {m : Nat} (hm : m < 4294967296) (h : Cls w w.heap.size A n c l) :
    Calls Tryd.prog 6 #[.slice A n c, .int .i64 i, .int .i64 a, .int .u32 (m : Int)] w fun e w' => e = .returned (.bool true) ∧ Below w.heap.size w w' := by
  by_cases hz : spE l i a m = 0
  · by_cases h16 : 16 ≤ l.length
    · exact other_full PE PS PT PD PP ST hT hm h hz h16
    · exact other_room PE PS PT PD PP ST hT hm h hz h16
  have H := hid h
  have hl := hid h.len
  have hcap := h.cap
  have hmx := h.max
  clear h
  go_enter Tryd.func6, Tryd.ntmps6
  go_wp2_with fail
  refine (alive_walk PS PT PD PP ST w hT).mono ?_
  rintro e w1 ⟨rfl, b1⟩
  have L1 := hid (H.out.on (Nat.le_refl _) b1.out)
  clear H
  go_wp2_with fail
  by_cases hgr : grC l
  · refine (great_yes L1.out hgr).mono ?_
    rintro e w2 ⟨rfl, rfl⟩
    clear hgr
    go_wp2
    go_ret
    exact ⟨rfl, b1.out⟩
  refine (great_no L1.out hgr).mono ?_
  rintro e w2 ⟨rfl, rfl⟩
  have CP := hid (PP _ _ _ _ _ _ i a m L1.out (Nat.le_refl _) hm (ST _ _ hT b1.out))
  clear hgr
  rw [spL_bad hz] at CP
  generalize spE l i a m = q at CP hz
  go_wp2_with fail
  refine CP.out.mono ?_
  rintro e w3 ⟨A3, n3, c3, rs3, rfl, h3⟩
  obtain rfl : n3 = 0 := h3.out.2.2
  have b3 := hid (gbelow_on b1.out (Nat.le_refl _) h3.out.2.1)
  clear h3 CP
  go_wp2
  go_ret
  exact ⟨rfl, b3.out⟩
end Go.Proofs.YtbpijlghdpflgaaDoor.Eth
