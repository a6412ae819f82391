/- EtherSpoils, walked over the program's Spoil. -/
import Derived.Test.YtbpijlghdpflgaaDoorYla
namespace Go.Proofs.YtbpijlghdpflgaaDoor.Eth
open Go.RowKit Go.Shelf Go.Lib

theorem great_yes {w : World} {B n c : Nat} {A : Option Addr} {l : List Cp} (h : Cls w B A n c l) (hg : grC l) : Calls Tryd.prog 13 #[.slice A n c] w fun e w' => e = .returned (.bool true) ∧ w' = w := by
  have := great_any h
  rw [decide_eq_true hg] at this
  exact this
theorem great_no {w : World} {B n c : Nat} {A : Option Addr} {l : List Cp} (h : Cls w B A n c l) (hg : ¬ grC l) : Calls Tryd.prog 13 #[.slice A n c] w fun e w' => e = .returned (.bool false) ∧ w' = w := by
  have := great_any h
  rw [decide_eq_false hg] at this
  exact this
theorem grC_len {l : List Cp} (h : ¬ grC l) : l.length ≤ 20 := by
  rcases Nat.lt_or_ge 20 l.length with h1 | h1
  · exact absurd (.inl h1) h
  · exact h1
theorem grC_txt {l : List Cp} (h : ¬ grC l) : ∀ p ∈ l, p.2.2.1.length ≤ 50000 := fun p hp => by
  rcases Nat.lt_or_ge 5000 p.2.2.1.length with h1 | h1
  · exact absurd (.inr (.inl ⟨p, hp, h1⟩)) h
  · omega
theorem lstR_len (l : List Cp) (i a : Int) (m : Nat) : (spL l i a m).length ≤ l.length := by
  unfold spL
  split
  · rw [List.length_set]; exact Nat.le_refl _
  · exact Nat.zero_le _

set_option maxHeartbeats 6400000 in
set_option maxRecDepth 100000 in
theorem spoils_walk {T : World → Prop} (PP : SpoilOk T) (ST : Stays T) {w : World} (hT : T w) {n c : Nat} {A : Option Addr} {l : List Cp} {i a : Int} {m : Nat} (hm : m < 4294967296) (h : Cls w w.heap.size A n c l) :
    Calls Tryd.prog 4 #[.slice A n c, .int .i64 i, .int .i64 a, .int .u32 (m : Int)] w fun e w' => e = .returned (.bool true) ∧ Below w.heap.size w w' := by
  have H := hid h
  have hl := hid h.len
  have hcap := h.cap
  clear h
  go_enter Tryd.func4, Tryd.ntmps4
  go_wp2_with fail
  by_cases hgr : grC l
  · refine (great_yes H.out hgr).mono ?_
    rintro e w1 ⟨rfl, rfl⟩
    clear hgr
    go_wp2
    go_ret
    exact ⟨rfl, Below.refl _ _⟩
  refine (great_no H.out hgr).mono ?_
  rintro e w1 ⟨rfl, rfl⟩
  have hn : n ≤ 20 := by rw [← hl.out]; exact grC_len hgr
  have CT := hid (twin_any H.out (Nat.le_refl _) (by omega) (grC_txt hgr))
  clear hgr
  go_wp2_with fail
  refine CT.out.mono ?_
  rintro e w2 ⟨A2, c2, rs2, rfl, h2⟩
  have O2 := hid h2.out.1.cls
  have B2 := hid h2.out.2
  have L2 := hid (H.out.on (Nat.le_refl _) B2.out)
  have CP := hid (PP _ _ _ _ _ _ i a m O2.out (Nat.le_refl _) hm (ST _ _ hT B2.out))
  have HLS := hid (lstR_len l i a m)
  clear h2 CT
  have CQ := hid (fun (X : World) (hX : Below w2.heap.size w2 X) => rspoil_any (L2.out.on (Nat.le_refl _) hX) (Nat.le_refl _) i a m hm)
  generalize spE l i a m = q at CP CQ
  generalize spL l i a m = r at CP CQ HLS
  go_wp2_with fail
  refine CP.out.mono ?_
  rintro e w3 ⟨A3, n3, c3, rs3, rfl, h3⟩
  have hn3 : n3 ≤ 20 := by have h1 := h3.out.2.2; have h2 := HLS.out; have := hl.out; omega
  go_wp2_with fail
  refine (CQ.out w3 h3.out.2.1).mono ?_
  rintro e w4 ⟨A4, n4, c4, rs4, rfl, h4⟩
  have P4 := hid (h3.out.1.below h4.out.2.1)
  have B4 := hid (gbelow_on h3.out.2.1 (Nat.le_refl _) h4.out.2.1)
  have CS := hid (same_any P4.out.cls h4.out.1.cls (Nat.le_refl _) (Nat.le_refl _))
  rw [decide_eq_true rfl] at CS
  clear h3 CP CQ
  go_wp2_with fail
  refine CS.out.mono ?_
  rintro e w5 ⟨rfl, h5⟩
  have P5 := hid (P4.out.below h5.out)
  have B5 := hid (gbelow_on B4.out (Nat.le_refl _) h5.out)
  clear CS h4 P4 B4 h5
  go_wp2_with fail
  refine (spoil_any P5.out (by omega)).mono ?_
  rintro e w6 ⟨rfl, h6⟩
  have B6 := hid (B5.out.trans (h6.out.below B5.out.size))
  have O6 := hid (O2.out.on (Nat.le_refl _) B6.out)
  have L6 := hid (L2.out.on (Nat.le_refl _) B6.out)
  have CS := hid (same_any O6.out L6.out (Nat.le_refl _) (Nat.le_refl _))
  rw [decide_eq_true rfl] at CS
  clear h6 P5 B5
  go_wp2_with fail
  refine CS.out.mono ?_
  rintro e w7 ⟨rfl, h7⟩
  go_wp2
  go_ret
  exact ⟨rfl, gbelow_on (gbelow_on B2.out (Nat.le_refl _) B6.out) (Nat.le_refl _) h7.out⟩
end Go.Proofs.YtbpijlghdpflgaaDoor.Eth
