/- Contract: Sub. -/
import Derived.Test.YtjppogmhibmebaaDoorLess
import Derived.Test.YtjppogmhibmebaaDoorAdd
namespace Go.Proofs.YtjppogmhibmebaaDoor
open Go.RowKit

/-- Sub's error. -/
def subErr (n : Nat) (f : Nat → Nat) (m : Nat) (h : Nat → Nat) : Int := if Fit n f ∧ Fit m h then (if vl f n < vl h m then 11 else 0) else 8

set_option maxHeartbeats 1600000 in
theorem sub_any {A D : Option Addr} {n c m d : Nat} {f h : Nat → Nat} {w : World} (ha : Rd w w.heap.size A n c f) (hb : Rd w w.heap.size D m d h) :
    Calls Tryd.prog 93 #[.slice A n c, .slice D m d] w (Ans 26 w (subErr n f m h) (vl f n - vl h m)) := by
  have cb := bad_pair ha hb 22
  by_cases hf : Fit n f ∧ Fit m h
  · have b0 : Below w.heap.size w (w.alloc (.cells #[.slice A n c, .slice D m d] 22)) := (Below.refl _ w).alloc (Nat.le_refl _) _
    have Cc := hid (compare_any (ha.below b0) (hb.below b0) hf.1 hf.2)
    rw [show decide (¬ (Fit n f ∧ Fit m h)) = false by simp [hf]] at cb
    have he : subErr n f m h = if vl f n < vl h m then 11 else 0 := if_pos hf
    have n40 := hf.1.1
    have m40 := hf.2.1
    have Hf := hid hf
    have Cb := hid cb
    have Ha := hid ha
    have Hb := hid hb
    have Hb0 := hid b0
    clear cb hf ha hb b0
    by_cases hlt : vl f n < vl h m
    · rw [cmpN_lt hlt] at Cc
      rw [if_pos hlt] at he
      rw [he]
      clear he hlt
      go_enter Tryd.func93, Tryd.ntmps93
      go_wp2_with fail
      refine Cb.out.mono ?_
      rintro e w' ⟨rfl, rfl⟩
      go_wp2_with fail
      refine Cc.out.mono ?_
      rintro e w1 ⟨rfl, q, hq⟩
      have hbel : Below w.heap.size w w1 := by rw [← hq]; exact below_drewN Hb0.out q
      have Hbel := hid hbel
      clear hq hbel
      go_wp2
      go_ret2
      exact Ans.fail (by decide) Hbel.out
    · rw [if_neg hlt] at he
      rw [he]
      have hc0 : 0 ≤ cmpN (vl f n) (vl h m) := by
        unfold cmpN
        rw [if_neg hlt]
        split <;> omega
      have Hlt := hid hlt
      clear he hlt
      generalize cmpN (vl f n) (vl h m) = cr at *
      have hmk := make_u32 n (by omega)
      go_enter Tryd.func93, Tryd.ntmps93
      go_wp2_with fail
      refine Cb.out.mono ?_
      rintro e w' ⟨rfl, rfl⟩
      go_wp2_with fail
      refine Cc.out.mono ?_
      rintro e w1 ⟨rfl, q, hq⟩
      have hbel : Below w.heap.size w w1 := by rw [← hq]; exact below_drewN Hb0.out q
      have hs1 := hbel.size
      have Hbel := hid hbel
      clear hq hbel
      have hbel2 : Below w.heap.size w (w1.alloc (.cells (madeCells #[.int .u32 0] n) 26)) := Hbel.out.alloc hs1 _
      have Cl := hid (putLess_any (Ha.out.below hbel2) (Hb.out.below hbel2) (by simp; omega) (by simp; omega) (Blk.zeros w1 26 n) (k0 := n) (c0 := n) (Nat.le_refl _) (Nat.le_refl _) (by omega)
        (fun hn b off hA => .inl ((Ha.out.ne hs1 hn b off hA))) (fun hn b off hD => (Hb.out.ne hs1 hn b off hD)))
      have Hbel2 := hid hbel2
      clear hbel2
      go_wp2_with fail
      refine Cl.out.mono ?_
      rintro e w3 ⟨rfl, hgr, z', r, hblk, hz0, hz, hr, hsum⟩
      have hbel3 : Below w.heap.size w w3 := Hbel2.out.grown hgr (by simp; omega) (by intro k hk; injection hk with hk; omega)
      have hz2 : ∀ j, z' j < 4294967296 := fun j => by
        rcases Nat.lt_or_ge j n with hj | hj
        · exact hz j hj
        · rw [hz0 j hj]; exact (by decide : 0 < 4294967296)
      have Cc2 := hid (cut_any w1.heap.size n n z' w3 (Nat.le_refl _) (by omega) (fun j hj => hblk.cell hj))
      have hmn : m ≤ n := by
        rcases Nat.lt_or_ge n m with h1 | h1
        · exact absurd (vl_len_lt Ha.out.lt Hf.out.2.2 h1) Hlt.out
        · exact h1
      have hV : vl z' n = vl f n - vl h m := by
        have e2 : vl h n = vl h m := vl_above hmn (fun j h1 _ => Hb.out.out j h1)
        have l1 := vl_lt (f := z') (k := n) (fun j _ => hz2 j)
        have l2 := Hlt.out
        have l3 := vl_lt (f := f) (k := n) (fun j _ => Ha.out.lt j)
        rcases Nat.eq_zero_or_pos r with h0 | h0
        · subst h0
          omega
        · obtain rfl : r = 1 := by omega
          omega
      have hle := cutLen_le z' n
      have R : Ans 26 w 0 (vl f n - vl h m) (.returned (.tuple #[.slice (some ⟨w1.heap.size, 0, none⟩) (cutLen z' n) (cutLen z' n), .int .i64 0])) w3 :=
        Ans.good (hV ▸ cut_num hblk hs1 hz2 (by omega)) hbel3
      have HR := hid R
      clear hgr hblk hz0 hz hsum hbel3 hz2 hV R
      generalize cutLen z' n = kk at *
      go_wp2_with fail
      refine Cc2.out.mono ?_
      rintro e w' ⟨rfl, rfl⟩
      go_wp2
      go_ret2
      exact HR.out
  · rw [show decide (¬ (Fit n f ∧ Fit m h)) = true by simp [hf]] at cb
    rw [show subErr n f m h = 8 from if_neg hf]
    have Cb := hid cb
    clear cb hf ha hb
    go_enter Tryd.func93, Tryd.ntmps93
    go_wp2_with fail
    refine Cb.out.mono ?_
    rintro e w' ⟨rfl, rfl⟩
    go_wp2
    go_ret2
    exact Ans.fail (by decide) ((Below.refl _ _).alloc (Nat.le_refl _) _)

end Go.Proofs.YtjppogmhibmebaaDoor
