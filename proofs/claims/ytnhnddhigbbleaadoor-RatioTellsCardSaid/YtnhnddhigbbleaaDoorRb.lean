/- Contract: Add. -/
/- Contract: putLess. -/
/- Contract: Sub. -/
import Derived.Test.YtnhnddhigbbleaaDoorRa

namespace Go.Proofs.YtnhnddhigbbleaaDoor
open Go.RowKit

/-- Add's error. -/
def addErr (n : Nat) (f : Nat → Nat) (m : Nat) (h : Nat → Nat) : Int := if Fit n f ∧ Fit m h then overErr (vl f n + vl h m) else 8

set_option maxHeartbeats 800000 in
theorem add_any {A D : Option Addr} {n c m d : Nat} {f h : Nat → Nat} {w : World} (ha : Rd w w.heap.size A n c f) (hb : Rd w w.heap.size D m d h) :
    Calls Tryd.prog 70 #[.slice A n c, .slice D m d] w (Ans 63 w (addErr n f m h) (vl f n + vl h m)) := by
  have cb := bad_pair ha hb 22
  by_cases hf : Fit n f ∧ Fit m h
  · have Hfit := hid hf
    rw [show decide (¬ (Fit n f ∧ Fit m h)) = false by simp [hf]] at cb
    have n40 := hf.1.1
    have m40 := hf.2.1
    have Cb := hid cb
    have Ha := hid ha
    have Hb := hid hb
    clear cb hf ha hb
    obtain ⟨N, hN⟩ : ∃ N, N = max n m + 1 := ⟨_, rfl⟩
    have hnN : n < N := by omega
    have hmN : m < N := by omega
    have hN40 : N ≤ 41 := by omega
    have HN := hid hN
    have hmk1 : n < m → ∀ w, (Instr.makeSlice 22 (.int .i64 ((m : Int) + 1)) (.int .i64 ((m : Int) + 1))).run Tryd.prog w = .ok (.slice (some ⟨w.heap.size, 0, none⟩) N N) (w.alloc (.cells (madeCells #[.int .u32 0] N) 63)) := by
      intro hnm w
      have h := make_u32 (m + 1) (by omega) w
      rw [show ((m + 1 : Nat) : Int) = (m : Int) + 1 by omega, show m + 1 = N by omega] at h
      exact h
    have hmk2 : m ≤ n → ∀ w, (Instr.makeSlice 22 (.int .i64 ((n : Int) + 1)) (.int .i64 ((n : Int) + 1))).run Tryd.prog w = .ok (.slice (some ⟨w.heap.size, 0, none⟩) N N) (w.alloc (.cells (madeCells #[.int .u32 0] N) 63)) := by
      intro hnm w
      have h := make_u32 (n + 1) (by omega) w
      rw [show ((n + 1 : Nat) : Int) = (n : Int) + 1 by omega, show n + 1 = N by omega] at h
      exact h
    rcases Nat.lt_or_ge n m with hnm | hnm
    all_goals
      first
        | have hmk := hmk1 hnm
        | have hmk := hmk2 hnm
      clear hmk1 hmk2
      clear hN
      go_enter Tryd.func70, Tryd.ntmps70
      go_wp2_with fail
      refine Cb.out.mono ?_
      rintro e w' ⟨rfl, rfl⟩
      go_wp2_with fail
      refine (places_any _ _).mono ?_
      rintro e w' ⟨rfl, rfl⟩
      clear hmk
      go_wp2_with fail
      go_loopw [23] (fun i wr => ∃ k : Nat, k ≤ N ∧ i = .int .i64 k ∧ ∃ (z : Nat → Nat) (r : Nat), Blk wr 63 (w.heap.size + 1) N z ∧ Box wr (w.heap.size + 1 + 1) 37 (.int .u64 (r : Int)) ∧ Below w.heap.size w wr ∧
          vl z k + r * pw k = vl f k + vl h k ∧ r ≤ 1 ∧ (∀ j, z j < 4294967296)) (fun i _ => N - (intOf i).toNat)
      case atStart => exact ⟨0, by omega, rfl, fun _ => 0, 0, (Blk.zeros' (by simp)).alloc _, Box.new' (by simp), (((Below.refl _ _).alloc (Nat.le_refl _) _).alloc (by simp) _).alloc (by simp; omega) _, rfl, by omega, fun _ => (by decide : 0 < 4294967296)⟩
      case round =>
        obtain ⟨k, hk, rfl, z, r, hblk, hbox, hbel, hsum, hr, hz⟩ := hrel
        by_cases hkN : k < N
        · have Ca := hid (at_any (Ha.out.below hbel) k)
          have Cd := hid (at_any (Hb.out.below hbel) k)
          have fk := Ha.out.lt k
          have hk' := Hb.out.lt k
          have xc := hbox.cell
          have xf := hbox.frozen
          have Hsum := hid hsum
          have Hz := hid hz
          have Hblk := hid hblk
          have Hbox := hid hbox
          have Hbel := hid hbel
          clear hsum hz hblk hbox hbel
          have xb := Hblk.out.cell hkN
          have xg := Hblk.out.frozen k
          generalize hfa : f k = fa at *
          generalize hfb : h k = fb at *
          generalize z k = zk at *
          have Hfa := hid hfa
          have Hfb := hid hfb
          clear hfa hfb
          go_wp2_with fail
          refine Ca.out.mono ?_
          rintro e w' ⟨rfl, rfl⟩
          go_wp2_with fail
          refine Cd.out.mono ?_
          rintro e w' ⟨rfl, rfl⟩
          go_wp2_with fail
          refine (place_any _ r _ wr (by omega) (by omega) xc xf).mono ?_
          rintro e w' ⟨rfl, rfl⟩
          rw [show ((fa : Int) + (fb : Int)).toNat = fa + fb by omega]
          generalize hq : (fa + fb + r) / 4294967296 = q
          generalize hm : (fa + fb + r) % 4294967296 = x
          have Hq := hid hq
          have Hx := hid hm
          clear hq hm
          go_wp2
          go_roundw
          case rel =>
            have R := place_round (q := q) (m := x) (k := k) Hblk.out Hbox.out Hbel.out (by omega) (by omega) (by omega)
            have hq := Hq.out
            have hx := Hx.out
            refine ⟨k + 1, by omega, by go_num, _, q, R.1, R.2.1, R.2.2, ?_, by omega, fun j => ?_⟩
            · rw [vl_put, ← hq, ← hx, ← Hfa.out, ← Hfb.out]
              exact add_step Hsum.out
            · show (if j = k then x else z j) < _
              split
              · omega
              · exact Hz.out j
          case measure => simp [intOf]; omega
        · obtain rfl : k = N := by omega
          have hV : vl z k = vl f n + vl h m := by
            have e1 : vl f k = vl f n := vl_above (by omega) (fun j h1 _ => Ha.out.out j h1)
            have e2 : vl h k = vl h m := vl_above (by omega) (fun j h1 _ => Hb.out.out j h1)
            have l1 := vl_lt (f := z) (k := k) (fun j _ => hz j)
            obtain ⟨k', rfl⟩ : ∃ k', k = k' + 1 := ⟨k - 1, by omega⟩
            have l2 := vl_lt (f := f) (k := n) (fun j _ => Ha.out.lt j)
            have l3 := vl_lt (f := h) (k := m) (fun j _ => Hb.out.lt j)
            have l4 : pw n ≤ pw k' := pw_mono (by omega)
            have l5 : pw m ≤ pw k' := pw_mono (by omega)
            rw [e1, e2] at hsum
            rcases Nat.eq_zero_or_pos r with h0 | h0
            · subst h0
              omega
            · obtain rfl : r = 1 := by omega
              rw [pw_succ] at hsum
              omega
          have Cb2 := hid (bounded_num (w0 := w) hblk (by omega) hbel (by omega) hz hV)
          have he : addErr n f m h = overErr (vl f n + vl h m) := if_pos Hfit.out
          have He := hid he
          clear hsum hz hblk hbox hbel hV he
          go_wp2_with fail
          refine Cb2.out.mono ?_
          rintro e w' ⟨v, er, rfl, rfl, her, HA⟩
          go_wp2
          go_ret2
          rw [He.out, ← her.out]
          exact HA
  · rw [show decide (¬ (Fit n f ∧ Fit m h)) = true by simp [hf]] at cb
    have he : addErr n f m h = 8 := if_neg hf
    rw [he]
    have Cb := hid cb
    clear cb hf he ha hb
    go_enter Tryd.func70, Tryd.ntmps70
    go_wp2_with fail
    refine Cb.out.mono ?_
    rintro e w' ⟨rfl, rfl⟩
    go_wp2
    go_ret2
    exact Ans.fail (by decide) ((Below.refl _ _).alloc (Nat.le_refl _) _)

end Go.Proofs.YtnhnddhigbbleaaDoor


namespace Go.Proofs.YtnhnddhigbbleaaDoor
open Go.RowKit

/-- What putLess leaves in the row. -/
def Less (w : World) (g n N : Nat) (z fa fb : Nat → Nat) (e : Ending) (w' : World) : Prop :=
  e = .returned (.tuple #[]) ∧ w.grownBy w' (some g) ∧ ∃ z' r, Blk w' 63 g N z' ∧ (∀ j, n ≤ j → z' j = z j) ∧ (∀ j, j < n → z' j < 4294967296) ∧ r ≤ 1 ∧ vl z' n + r * pw n + vl fb n = vl fa n + pw n

set_option maxHeartbeats 1600000 in
theorem putLess_any {B C : Nat} {A D : Option Addr} {n c m d : Nat} {f h : Nat → Nat} {w : World} (ha : Rd w B A n c f) (hb : Rd w C D m d h) (hB : B ≤ w.heap.size) (hC : C ≤ w.heap.size)
    {g k0 c0 N : Nat} {z : Nat → Nat} (hz : Blk w 63 g N z) (hk0 : k0 ≤ N) (hc0 : k0 ≤ c0) (hm0 : k0 ≤ 140737488355328)
    (hA : 0 < n → ∀ b off, A = some ⟨b, off, none⟩ → b ≠ g ∨ off = 0) (hD : 0 < m → ∀ b off, D = some ⟨b, off, none⟩ → b ≠ g) :
    Calls Tryd.prog 84 #[.slice (some ⟨g, 0, none⟩) k0 c0, .slice A n c, .slice D m d] w (Less w g k0 N z f h) := by
  have hgl := hz.lt
  have Ha := hid ha
  have Hb := hid hb
  have HA := hid hA
  have HD := hid hD
  have Hz := hid hz
  clear ha hb hA hD hz
  go_enter Tryd.func84, Tryd.ntmps84
  go_wp2_with fail
  refine (places_any _ _).mono ?_
  rintro e w' ⟨rfl, rfl⟩
  go_wp2_with fail
  go_loopw [11] (fun i wr => ∃ k : Nat, k ≤ k0 ∧ i = .int .i64 k ∧ ∃ (y : Nat → Nat) (r : Nat), Blk wr 63 g N y ∧ Box wr w.heap.size 37 (.int .u64 (r : Int)) ∧ w.grownBy wr (some g) ∧
      (∀ b o, b < w.heap.size → (b ≠ g ∨ k ≤ o) → wr.cell? ⟨b, o, none⟩ = w.cell? ⟨b, o, none⟩) ∧ (∀ j, k ≤ j → y j = z j) ∧ (∀ j, j < k → y j < 4294967296) ∧ r ≤ 1 ∧ vl y k + r * pw k + vl h k = vl f k + pw k) (fun i _ => k0 - (intOf i).toNat)
  case atStart =>
    exact ⟨0, by omega, rfl, z, 1, Hz.out.alloc _, Box.new' rfl, World.grownBy_alloc _ _ _, fun b o hb _ => World.cell?_alloc_lt _ _ _ (by exact hb), fun _ _ => rfl, fun j hj => by omega, by omega, rfl⟩
  case round =>
    obtain ⟨k, hk, rfl, y, r, hblk, hbox, hgr, hkeep, hyz, hy, hr, hsum⟩ := hrel
    by_cases hkN : k < k0
    · have pa : Calls Tryd.prog 80 #[.slice A n c, .int .i64 (k : Int)] wr fun e w' => e = .returned (.int .u32 (f k : Int)) ∧ wr = w' := by
        rcases Nat.lt_or_ge k n with hlt | hge
        · obtain ⟨b, off, rfl, hbB, hc⟩ := Ha.out.at_ (by omega)
          refine at_in b off n c k _ wr hlt Ha.out.cap Ha.out.max ((hkeep b (off + k) (by omega) ?_).trans (hc k hlt))
          rcases HA.out (by omega) b off rfl with h1 | h1
          · exact .inl h1
          · exact .inr (by omega)
        · rw [Ha.out.out k hge]
          exact at_out A n c k wr hge Ha.out.cap Ha.out.max
      have pd : Calls Tryd.prog 80 #[.slice D m d, .int .i64 (k : Int)] wr fun e w' => e = .returned (.int .u32 (h k : Int)) ∧ wr = w' := by
        rcases Nat.lt_or_ge k m with hlt | hge
        · obtain ⟨b, off, rfl, hbB, hc⟩ := Hb.out.at_ (by omega)
          exact at_in b off m d k _ wr hlt Hb.out.cap Hb.out.max ((hkeep b (off + k) (by omega) (.inl (HD.out (by omega) b off rfl))).trans (hc k hlt))
        · rw [Hb.out.out k hge]
          exact at_out D m d k wr hge Hb.out.cap Hb.out.max
      have Ca := hid pa
      have Cd := hid pd
      have fk := Ha.out.lt k
      have hk' := Hb.out.lt k
      have xc := hbox.cell
      have xf := hbox.frozen
      have xb := hblk.cell (j := k) (by omega)
      have xg := hblk.frozen k
      have Hsum := hid hsum
      have Hy := hid hy
      have Hyz := hid hyz
      have Hblk := hid hblk
      have Hbox := hid hbox
      have Hgr := hid hgr
      have Hkeep := hid hkeep
      clear pa pd hsum hy hyz hblk hbox hgr hkeep
      generalize hfa : f k = fa at *
      generalize hfb : h k = fb at *
      generalize y k = zk at *
      have Hfa := hid hfa
      have Hfb := hid hfb
      clear hfa hfb
      obtain ⟨nb, hnb⟩ : ∃ nb, nb = 4294967295 - fb := ⟨_, rfl⟩
      have hnl : nb ≤ 4294967295 := by omega
      have hxr : bits BinOp.xor IntKind.u32 IntKind.u32.max (fb : Int) = (nb : Int) := by rw [not_u32 fb hk']; omega
      have Hnb := hid hnb
      clear hnb
      have hsg : IntKind.u32.signed = false := rfl
      go_wp2_with fail
      refine Ca.out.mono ?_
      rintro e w' ⟨rfl, rfl⟩
      go_wp2_with fail
      refine Cd.out.mono ?_
      rintro e w' ⟨rfl, rfl⟩
      go_wp2_with fail
      refine (place_any _ r _ wr (by omega) (by omega) xc xf).mono ?_
      rintro e w' ⟨rfl, rfl⟩
      rw [show ((fa : Int) + (nb : Int)).toNat = fa + nb by omega]
      clear hxr
      generalize hq : (fa + nb + r) / 4294967296 = q
      generalize hm : (fa + nb + r) % 4294967296 = x
      have Hq := hid hq
      have Hx := hid hm
      clear hq hm
      go_wp2
      go_roundw
      case rel =>
        have hq := Hq.out
        have hx := Hx.out
        refine ⟨k + 1, by omega, by go_num, fun j => if j = k then x else y j, q, (Hblk.out.far (p := ⟨w.heap.size, 0, none⟩) (by show g ≠ w.heap.size; omega) _).set k x, (Hbox.out.set _).far (p := ⟨g, k, none⟩) (by show w.heap.size ≠ g; omega) _, ?_, ?_, ?_, ?_, by omega, ?_⟩
        · exact put_grown Hgr.out (Nat.le_refl _) _ k _
        · intro b o hb hbo
          rw [World.cell?_setCell_other _ _ _ _ (by intro e; injection e with e1 e2; subst e1 e2; rcases hbo with h1 | h1 <;> omega), World.cell?_setCell_other _ _ _ _ (by intro e; injection e with e1 e2; omega)]
          exact Hkeep.out b o hb (hbo.imp_right (by omega))
        · intro j hj
          show (if j = k then x else y j) = z j
          rw [if_neg (by omega)]
          exact Hyz.out j (by omega)
        · intro j hj
          show (if j = k then x else y j) < _
          split
          · omega
          · exact Hy.out j (by omega)
        · rw [vl_put, ← hq, ← hx, Hnb.out, ← Hfa.out, ← Hfb.out]
          exact less_step (by rw [Hfb.out]; omega) Hsum.out
      case measure => simp [intOf]; omega
    · obtain rfl : k = k0 := by omega
      have Hsum := hid hsum
      have Hy := hid hy
      have Hyz := hid hyz
      have Hblk := hid hblk
      have Hgr := hid hgr
      clear hsum hy hyz hblk hbox hgr hkeep
      go_wp2
      go_end0
      exact ⟨rfl, Hgr.out, y, r, Hblk.out, Hyz.out, Hy.out, hr, Hsum.out⟩

end Go.Proofs.YtnhnddhigbbleaaDoor


namespace Go.Proofs.YtnhnddhigbbleaaDoor
open Go.RowKit

/-- Sub's error. -/
def subErr (n : Nat) (f : Nat → Nat) (m : Nat) (h : Nat → Nat) : Int := if Fit n f ∧ Fit m h then (if vl f n < vl h m then 11 else 0) else 8

set_option maxHeartbeats 1600000 in
theorem sub_any {A D : Option Addr} {n c m d : Nat} {f h : Nat → Nat} {w : World} (ha : Rd w w.heap.size A n c f) (hb : Rd w w.heap.size D m d h) :
    Calls Tryd.prog 72 #[.slice A n c, .slice D m d] w (Ans 63 w (subErr n f m h) (vl f n - vl h m)) := by
  have cb := bad_pair ha hb 22
  by_cases hf : Fit n f ∧ Fit m h
  · have b0 : Below w.heap.size w (w.alloc (.cells #[.slice A n c, .slice D m d] 22)) := (Below.refl _ w).alloc (Nat.le_refl _) _
    have Cc := hid (compare_any (ha.below b0) (hb.below b0) hf.1 hf.2)
    rw [show decide (¬ (Fit n f ∧ Fit m h)) = false by simp [hf]] at cb
    have he : subErr n f m h = if vl f n < vl h m then 11 else 0 := if_pos hf
    have n40 := hf.1.1
    have m40 := hf.2.1
    have Hf := hid hf
    have Cb := hid cb
    have Ha := hid ha
    have Hb := hid hb
    have Hb0 := hid b0
    clear cb hf ha hb b0
    by_cases hlt : vl f n < vl h m
    · rw [cmpN_lt hlt] at Cc
      rw [if_pos hlt] at he
      rw [he]
      clear he hlt
      go_enter Tryd.func72, Tryd.ntmps72
      go_wp2_with fail
      refine Cb.out.mono ?_
      rintro e w' ⟨rfl, rfl⟩
      go_wp2_with fail
      refine Cc.out.mono ?_
      rintro e w1 ⟨rfl, q, hq⟩
      have hbel : Below w.heap.size w w1 := by rw [← hq]; exact below_drewN Hb0.out q
      have Hbel := hid hbel
      clear hq hbel
      go_wp2
      go_ret2
      exact Ans.fail (by decide) Hbel.out
    · rw [if_neg hlt] at he
      rw [he]
      have hc0 : 0 ≤ cmpN (vl f n) (vl h m) := by
        unfold cmpN
        rw [if_neg hlt]
        split <;> omega
      have Hlt := hid hlt
      clear he hlt
      generalize cmpN (vl f n) (vl h m) = cr at *
      have hmk := make_u32 n (by omega)
      go_enter Tryd.func72, Tryd.ntmps72
      go_wp2_with fail
      refine Cb.out.mono ?_
      rintro e w' ⟨rfl, rfl⟩
      go_wp2_with fail
      refine Cc.out.mono ?_
      rintro e w1 ⟨rfl, q, hq⟩
      have hbel : Below w.heap.size w w1 := by rw [← hq]; exact below_drewN Hb0.out q
      have hs1 := hbel.size
      have Hbel := hid hbel
      clear hq hbel
      have hbel2 : Below w.heap.size w (w1.alloc (.cells (madeCells #[.int .u32 0] n) 63)) := Hbel.out.alloc hs1 _
      have Cl := hid (putLess_any (Ha.out.below hbel2) (Hb.out.below hbel2) (by simp; omega) (by simp; omega) (Blk.zeros w1 63 n) (k0 := n) (c0 := n) (Nat.le_refl _) (Nat.le_refl _) (by omega)
        (fun hn b off hA => .inl ((Ha.out.ne hs1 hn b off hA))) (fun hn b off hD => (Hb.out.ne hs1 hn b off hD)))
      have Hbel2 := hid hbel2
      clear hbel2
      go_wp2_with fail
      refine Cl.out.mono ?_
      rintro e w3 ⟨rfl, hgr, z', r, hblk, hz0, hz, hr, hsum⟩
      have hbel3 : Below w.heap.size w w3 := Hbel2.out.grown hgr (by simp; omega) (by intro k hk; injection hk with hk; omega)
      have hz2 : ∀ j, z' j < 4294967296 := fun j => by
        rcases Nat.lt_or_ge j n with hj | hj
        · exact hz j hj
        · rw [hz0 j hj]; exact (by decide : 0 < 4294967296)
      have Cc2 := hid (cut_any w1.heap.size n n z' w3 (Nat.le_refl _) (by omega) (fun j hj => hblk.cell hj))
      have hmn : m ≤ n := by
        rcases Nat.lt_or_ge n m with h1 | h1
        · exact absurd (vl_len_lt Ha.out.lt Hf.out.2.2 h1) Hlt.out
        · exact h1
      have hV : vl z' n = vl f n - vl h m := by
        have e2 : vl h n = vl h m := vl_above hmn (fun j h1 _ => Hb.out.out j h1)
        have l1 := vl_lt (f := z') (k := n) (fun j _ => hz2 j)
        have l2 := Hlt.out
        have l3 := vl_lt (f := f) (k := n) (fun j _ => Ha.out.lt j)
        rcases Nat.eq_zero_or_pos r with h0 | h0
        · subst h0
          omega
        · obtain rfl : r = 1 := by omega
          omega
      have hle := cutLen_le z' n
      have R : Ans 63 w 0 (vl f n - vl h m) (.returned (.tuple #[.slice (some ⟨w1.heap.size, 0, none⟩) (cutLen z' n) (cutLen z' n), .int .i64 0])) w3 :=
        Ans.good (hV ▸ cut_num hblk hs1 hz2 (by omega)) hbel3
      have HR := hid R
      clear hgr hblk hz0 hz hsum hbel3 hz2 hV R
      generalize cutLen z' n = kk at *
      go_wp2_with fail
      refine Cc2.out.mono ?_
      rintro e w' ⟨rfl, rfl⟩
      go_wp2
      go_ret2
      exact HR.out
  · rw [show decide (¬ (Fit n f ∧ Fit m h)) = true by simp [hf]] at cb
    rw [show subErr n f m h = 8 from if_neg hf]
    have Cb := hid cb
    clear cb hf ha hb
    go_enter Tryd.func72, Tryd.ntmps72
    go_wp2_with fail
    refine Cb.out.mono ?_
    rintro e w' ⟨rfl, rfl⟩
    go_wp2
    go_ret2
    exact Ans.fail (by decide) ((Below.refl _ _).alloc (Nat.le_refl _) _)

end Go.Proofs.YtnhnddhigbbleaaDoor

