/- The heap's down, Push and Pop. -/
import Derived.Test.YtgcmljnjfghagaaTr
namespace Go.Proofs.Ytgcmljnjfghagaa.Tm
open Go.RowKit Go.Shelf Go.Lib
set_option maxRecDepth 100000

theorem Qu.size {w : World} {B g : Nat} {v : Value} {l : List De} (h : Qu w B g v l) : B ≤ w.heap.size := Nat.le_of_lt (Nat.lt_of_le_of_lt h.le (lt_of_heap h.box))
/-- All but the queue's block and its row's stays. -/
structure Kp (g : Nat) (o : Option Nat) (w w' : World) : Prop where
  os : w'.os = w.os
  tape : w'.tape = w.tape
  output : w'.output = w.output
  size : w.heap.size ≤ w'.heap.size
  block : ∀ k, k < w.heap.size → k ≠ g → some k ≠ o → w'.heap[k]? = w.heap[k]?
theorem Kp.refl (g : Nat) (o : Option Nat) (w : World) : Kp g o w w := ⟨rfl, rfl, rfl, Nat.le_refl _, fun _ _ _ _ => rfl⟩
theorem Kp.trans {g : Nat} {o : Option Nat} {w x y : World} (h : Kp g o w x) (k : Kp g o x y) : Kp g o w y :=
  ⟨k.os.trans h.os, k.tape.trans h.tape, k.output.trans h.output, Nat.le_trans h.size k.size, fun b hb h1 h2 => (k.block b (Nat.lt_of_lt_of_le hb h.size) h1 h2).trans (h.block b hb h1 h2)⟩
theorem Kp.bel {g : Nat} {o : Option Nat} {w x : World} (h : Below w.heap.size w x) : Kp g o w x := ⟨h.os, h.tape, h.output, h.size, fun b hb _ _ => h.block b hb⟩
theorem Kp.grown {g : Nat} {o : Option Nat} {w x : World} (h : w.grownBy x o) : Kp g o w x := ⟨h.os, h.tape, h.output, h.size, fun b hb _ h2 => h.block b hb h2⟩
theorem Kp.below {w x : World} {B g : Nat} {v : Value} {l : List De} (h : Kp g v.ownBlock w x) (q : Qu w B g v l) : Below B w x :=
  ⟨h.os, h.tape, h.output, h.size, fun b hb => h.block b (Nat.lt_of_lt_of_le hb q.size) (fun e => by have := q.le; omega) (fun e => by have := (own_lt q.od b e.symm).1; omega)⟩
theorem kid {i k : Nat} (h0 : 0 < k) (h : (k - 1) / 2 = i) : k = 2 * i + 1 ∨ k = 2 * i + 2 := by omega
theorem min_one {l : List De} {n i p : Nat} (hp : p = 2 * i + 1) (hn : n ≤ p + 1) : ∀ k, 0 < k → k < n → (k - 1) / 2 = i → R l p k := fun k h0 hk h a b ha hb => by
  obtain rfl : k = p := by have := kid h0 h; omega
  rw [ha] at hb
  injection hb with hb
  rw [hb]
  exact le_refl _
theorem min_first {l : List De} {n i p : Nat} {y z : De} (hp : p = 2 * i + 1) (hy : l[p]? = some y) (hz : l[p + 1]? = some z) (h : ah z y = false) : ∀ k, 0 < k → k < n → (k - 1) / 2 = i → R l p k := fun k h0 _ hk a b ha hb => by
  rw [hy] at ha
  injection ha with ha
  rcases kid h0 hk with e | e
  · rw [e, ← hp, hy] at hb
    injection hb with hb
    rw [← ha, ← hb]
    exact le_refl _
  · rw [e, show 2 * i + 2 = p + 1 by omega, hz] at hb
    injection hb with hb
    rw [← ha, ← hb]
    exact h
theorem min_second {l : List De} {n i p : Nat} {y z : De} (hp : p = 2 * i + 1) (hy : l[p]? = some y) (hz : l[p + 1]? = some z) (h : ah z y = true) : ∀ k, 0 < k → k < n → (k - 1) / 2 = i → R l (p + 1) k := fun k h0 _ hk a b ha hb => by
  rw [hz] at ha
  injection ha with ha
  rcases kid h0 hk with e | e
  · rw [e, ← hp, hy] at hb
    injection hb with hb
    rw [← ha, ← hb]
    exact ah_le h
  · rw [e, show 2 * i + 2 = p + 1 by omega, hz] at hb
    injection hb with hb
    rw [← ha, ← hb]
    exact le_refl _

/-- What down leaves: whichever bool. -/
def DownR (P : World → Prop) : Ending → World → Prop := fun e w' => ∃ d, e = .returned (.bool d) ∧ Hid (P w')

set_option maxHeartbeats 6400000 in
theorem down_any {w : World} {B g n : Nat} {v : Value} {l : List De} {t : De} (h : Qu w B g v l) (hl : l.length = n + 1) (hi : DnI l n 0) (ht : l[n]? = some t) :
    Calls Try.prog 52 #[.iface 53 (.pointer (some ⟨g, 0, none⟩)), .int .i64 0, .int .i64 n] w (DownR fun w' => ∃ l', Qu w' B g v l' ∧ l'.Perm l ∧ Hn l' n ∧ l'[n]? = some t ∧ Kp g v.ownBlock w w') := by
  obtain ⟨A, c, rfl, hD, hcm, hob⟩ := h.od.form
  have hm : n + 1 ≤ 100000 := by rw [← hl]; exact h.od.max
  rw [hl] at h ⊢
  have HI := hid hi
  have HT := hid ht
  have HQ := hid h
  clear h hi hD hob ht hl
  go_enter Try.func52, Try.ntmps52
  go_wp2
  go_loopg [7, 8, 9, 10] n (fun gg s7 _ _ _ wr => ∃ (i : Nat) (r : List De), s7 = .int .i64 i ∧ i ≤ n ∧ n - i ≤ gg ∧ Hid (Qu wr B g (.slice A (n + 1) c) r) ∧ Hid (r.Perm l) ∧ Hid (DnI r n i) ∧ Hid (r[n]? = some t) ∧ Hid (Kp g (Value.slice A (n + 1) c).ownBlock w wr))
  case atStart => exact ⟨0, l, rfl, Nat.zero_le _, by omega, HQ, hid (List.Perm.refl _), HI, HT, hid (Kp.refl _ _ w)⟩
  case round =>
    obtain ⟨i, r, rfl, hin, hig, HQ, HP, HU, HT, BW⟩ := hrel
    have c0 := HQ.out.c0
    obtain ⟨p, hp⟩ : ∃ p, p = 2 * i + 1 := ⟨_, rfl⟩
    have hpz : 2 * (i : Int) + 1 = (p : Int) := by omega
    have hp0 : ¬ (p : Int) < 0 := by omega
    have HP1 := hid hp
    have hpb : p ≤ 1000000 := by omega
    clear hp
    have hrl : Hid (r.length = n + 1) := hid HQ.out.od.row_len
    by_cases hpn : p < n
    case neg =>
      have hpn2 : (p : Int) ≥ (n : Int) := by omega
      go_wp2
      go_ret
      exact ⟨_, rfl, hid ⟨r, HQ.out, HP.out, dn_leaf HU.out (by have := HP1.out; omega), HT.out, BW.out⟩⟩
    have hpn2 : ¬ (p : Int) ≥ (n : Int) := by omega
    obtain ⟨x, hx⟩ : ∃ x, r[i]? = some x := ⟨_, List.getElem?_eq_getElem (by have := hrl.out; omega)⟩
    obtain ⟨y, hy⟩ : ∃ y, r[p]? = some y := ⟨_, List.getElem?_eq_getElem (by have := hrl.out; omega)⟩
    have HX := hid hx
    have HY := hid hy
    clear hx hy
    by_cases hp2 : p + 1 < n
    case neg =>
      have hp2n : ¬ (p : Int) + 1 < (n : Int) := by omega
      have CL : Hid (∀ X, Below wr.heap.size wr X → Calls Try.prog 70 #[.slice A (n + 1) c, .int .i64 p, .int .i64 i] X (Tel X (ah y x))) := hid fun X hb => less_any (w := X) (HQ.out.od.below hb).ds (Nat.le_refl _) HY.out HX.out
      have CS : Hid (∀ X, Below wr.heap.size wr X → Calls Try.prog 72 #[.slice A (n + 1) c, .int .i64 i, .int .i64 p] X fun e w' => e = .returned (.tuple #[]) ∧ Hid (Od w' B (.slice A (n + 1) c) (sw r i (p) x y) ∧ X.grownBy w' (Value.slice A (n + 1) c).ownBlock)) := hid fun X hb => swap_any (w := X) (HQ.out.od.below hb) HX.out HY.out
      generalize hr : ah y x = rr at CL
      have HR := hid hr
      unfold Tel at CL
      clear hr
      cases rr with
      | false =>
        have BX : Hid (Below wr.heap.size wr wr) := hid (Below.refl _ _)
        have cx := c0
        have CX := CL
        go_wp2_with (first
          | rw [meth_less (by decide) cx]
          | (go_at_call 70; with_reducible refine (CL.out _ BX.out).mono ?_; rintro e w3 ⟨rfl, hb3⟩; have BY := hid (BX.out.trans (hb3.out.mono BX.out.size)); have cy := (HQ.out.below BY.out).c0)
          | fail)
        go_ret
        exact ⟨_, rfl, hid ⟨r, HQ.out.below BY.out, HP.out, dn_stop HU.out (min_one HP1.out (by omega)) HX.out HY.out HR.out, HT.out, BW.out.trans (Kp.bel BY.out)⟩⟩
      | true =>
        have BX : Hid (Below wr.heap.size wr wr) := hid (Below.refl _ _)
        have cx := c0
        have CX := CL
        go_wp2_with (first
          | rw [meth_less (by decide) cx]
          | (go_at_call 70; with_reducible refine (CL.out _ BX.out).mono ?_; rintro e w3 ⟨rfl, hb3⟩; have BY := hid (BX.out.trans (hb3.out.mono BX.out.size)); have cy := (HQ.out.below BY.out).c0)
          | rw [meth_swap (by decide) cy]
          | (go_at_call 72; with_reducible refine (CS.out _ BY.out).mono ?_; rintro e w4 ⟨rfl, hs⟩)
          | fail)
        go_roundg (n - (p))
        case measure => have := HP1.out; omega
        case rel =>
          have h1 := HP1.out
          have h2 := hrl.out
          have Q2 := HQ.out.below BY.out
          refine ⟨p, sw r i (p) x y, by go_num, by omega, by omega, hid (Q2.turned hs.out.1 hs.out.2), hid ((sw_perm HX.out HY.out).trans HP.out), hid (dn_step HU.out (by omega) (by omega) (by omega) (min_one HP1.out (by omega)) HX.out HY.out HR.out), hid ?_, hid ((BW.out.trans (Kp.bel BY.out)).trans (Kp.grown hs.out.2))⟩
          rw [sw_get _ (by omega) (by omega), if_neg (by omega), if_neg (by omega)]
          exact HT.out
    have hp2n : (p : Int) + 1 < (n : Int) := by omega
    obtain ⟨z, hz⟩ : ∃ z, r[p + 1]? = some z := ⟨_, List.getElem?_eq_getElem (by have := hrl.out; omega)⟩
    have HZ := hid hz
    clear hz
    have CA : Hid (Calls Try.prog 70 #[.slice A (n + 1) c, .int .i64 ((p : Int) + 1), .int .i64 p] wr (Tel wr (ah z y))) := hid (less_any (w := wr) HQ.out.od.ds (Nat.le_refl _) HZ.out HY.out)
    generalize ha : ah z y = ra at CA
    have HA := hid ha
    unfold Tel at CA
    clear ha
    cases ra with
    | false =>
      have CL : Hid (∀ X, Below wr.heap.size wr X → Calls Try.prog 70 #[.slice A (n + 1) c, .int .i64 p, .int .i64 i] X (Tel X (ah y x))) := hid fun X hb => less_any (w := X) (HQ.out.od.below hb).ds (Nat.le_refl _) HY.out HX.out
      have CS : Hid (∀ X, Below wr.heap.size wr X → Calls Try.prog 72 #[.slice A (n + 1) c, .int .i64 i, .int .i64 p] X fun e w' => e = .returned (.tuple #[]) ∧ Hid (Od w' B (.slice A (n + 1) c) (sw r i (p) x y) ∧ X.grownBy w' (Value.slice A (n + 1) c).ownBlock)) := hid fun X hb => swap_any (w := X) (HQ.out.od.below hb) HX.out HY.out
      generalize hr : ah y x = rr at CL
      have HR := hid hr
      unfold Tel at CL
      clear hr
      cases rr with
      | false =>
        go_wp2_with (first
          | rw [meth_less (by decide) c0]
          | (go_at_call 70; with_reducible refine CA.out.mono ?_; rintro e w2 ⟨rfl, hb2⟩; have BX := hid hb2.out; have cx := (HQ.out.below BX.out).c0; clear CA)
          | rw [meth_less (by decide) cx]
          | (go_at_call 70; with_reducible refine (CL.out _ BX.out).mono ?_; rintro e w3 ⟨rfl, hb3⟩; have BY := hid (BX.out.trans (hb3.out.mono BX.out.size)); have cy := (HQ.out.below BY.out).c0)
          | fail)
        go_ret
        exact ⟨_, rfl, hid ⟨r, HQ.out.below BY.out, HP.out, dn_stop HU.out (min_first HP1.out HY.out HZ.out HA.out) HX.out HY.out HR.out, HT.out, BW.out.trans (Kp.bel BY.out)⟩⟩
      | true =>
        go_wp2_with (first
          | rw [meth_less (by decide) c0]
          | (go_at_call 70; with_reducible refine CA.out.mono ?_; rintro e w2 ⟨rfl, hb2⟩; have BX := hid hb2.out; have cx := (HQ.out.below BX.out).c0; clear CA)
          | rw [meth_less (by decide) cx]
          | (go_at_call 70; with_reducible refine (CL.out _ BX.out).mono ?_; rintro e w3 ⟨rfl, hb3⟩; have BY := hid (BX.out.trans (hb3.out.mono BX.out.size)); have cy := (HQ.out.below BY.out).c0)
          | rw [meth_swap (by decide) cy]
          | (go_at_call 72; with_reducible refine (CS.out _ BY.out).mono ?_; rintro e w4 ⟨rfl, hs⟩)
          | fail)
        go_roundg (n - (p))
        case measure => have := HP1.out; omega
        case rel =>
          have h1 := HP1.out
          have h2 := hrl.out
          have Q2 := HQ.out.below BY.out
          refine ⟨p, sw r i (p) x y, by go_num, by omega, by omega, hid (Q2.turned hs.out.1 hs.out.2), hid ((sw_perm HX.out HY.out).trans HP.out), hid (dn_step HU.out (by omega) (by omega) (by omega) (min_first HP1.out HY.out HZ.out HA.out) HX.out HY.out HR.out), hid ?_, hid ((BW.out.trans (Kp.bel BY.out)).trans (Kp.grown hs.out.2))⟩
          rw [sw_get _ (by omega) (by omega), if_neg (by omega), if_neg (by omega)]
          exact HT.out
    | true =>
      have CL : Hid (∀ X, Below wr.heap.size wr X → Calls Try.prog 70 #[.slice A (n + 1) c, .int .i64 ((p : Int) + 1), .int .i64 i] X (Tel X (ah z x))) := hid fun X hb => less_any (w := X) (HQ.out.od.below hb).ds (Nat.le_refl _) HZ.out HX.out
      have CS : Hid (∀ X, Below wr.heap.size wr X → Calls Try.prog 72 #[.slice A (n + 1) c, .int .i64 i, .int .i64 ((p : Int) + 1)] X fun e w' => e = .returned (.tuple #[]) ∧ Hid (Od w' B (.slice A (n + 1) c) (sw r i (p + 1) x z) ∧ X.grownBy w' (Value.slice A (n + 1) c).ownBlock)) := hid fun X hb => swap_any (w := X) (HQ.out.od.below hb) HX.out HZ.out
      generalize hr : ah z x = rr at CL
      have HR := hid hr
      unfold Tel at CL
      clear hr
      cases rr with
      | false =>
        go_wp2_with (first
          | rw [meth_less (by decide) c0]
          | (go_at_call 70; with_reducible refine CA.out.mono ?_; rintro e w2 ⟨rfl, hb2⟩; have BX := hid hb2.out; have cx := (HQ.out.below BX.out).c0; clear CA)
          | rw [meth_less (by decide) cx]
          | (go_at_call 70; with_reducible refine (CL.out _ BX.out).mono ?_; rintro e w3 ⟨rfl, hb3⟩; have BY := hid (BX.out.trans (hb3.out.mono BX.out.size)); have cy := (HQ.out.below BY.out).c0)
          | fail)
        go_ret
        exact ⟨_, rfl, hid ⟨r, HQ.out.below BY.out, HP.out, dn_stop HU.out (min_second HP1.out HY.out HZ.out HA.out) HX.out HZ.out HR.out, HT.out, BW.out.trans (Kp.bel BY.out)⟩⟩
      | true =>
        go_wp2_with (first
          | rw [meth_less (by decide) c0]
          | (go_at_call 70; with_reducible refine CA.out.mono ?_; rintro e w2 ⟨rfl, hb2⟩; have BX := hid hb2.out; have cx := (HQ.out.below BX.out).c0; clear CA)
          | rw [meth_less (by decide) cx]
          | (go_at_call 70; with_reducible refine (CL.out _ BX.out).mono ?_; rintro e w3 ⟨rfl, hb3⟩; have BY := hid (BX.out.trans (hb3.out.mono BX.out.size)); have cy := (HQ.out.below BY.out).c0)
          | rw [meth_swap (by decide) cy]
          | (go_at_call 72; with_reducible refine (CS.out _ BY.out).mono ?_; rintro e w4 ⟨rfl, hs⟩)
          | fail)
        go_roundg (n - (p + 1))
        case measure => have := HP1.out; omega
        case rel =>
          have h1 := HP1.out
          have h2 := hrl.out
          have Q2 := HQ.out.below BY.out
          refine ⟨p + 1, sw r i (p + 1) x z, by go_num, by omega, by omega, hid (Q2.turned hs.out.1 hs.out.2), hid ((sw_perm HX.out HZ.out).trans HP.out), hid (dn_step HU.out (by omega) (by omega) (by omega) (min_second HP1.out HY.out HZ.out HA.out) HX.out HZ.out HR.out), hid ?_, hid ((BW.out.trans (Kp.bel BY.out)).trans (Kp.grown hs.out.2))⟩
          rw [sw_get _ (by omega) (by omega), if_neg (by omega), if_neg (by omega)]
          exact HT.out
end Go.Proofs.Ytgcmljnjfghagaa.Tm
