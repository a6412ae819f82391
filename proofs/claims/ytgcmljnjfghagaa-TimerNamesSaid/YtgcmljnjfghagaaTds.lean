/- Lists of timers in memory; slices.IndexFunc. -/
import Derived.Test.YtgcmljnjfghagaaTlow
import Derived.BigQuiet
import Derived.Shelf.Abstract
namespace Go.Proofs.Ytgcmljnjfghagaa.Tm
open Go.RowKit Go.Shelf Go.Lib

/-- The slice value '.slice A n c' reads, in the world w, as the descriptors l, below block B. -/
structure Ds (w : World) (B : Nat) (A : Option Addr) (n c : Nat) (l : List De) : Prop where
  len : l.length = n
  cap : n ≤ c
  max : n ≤ 140737488355328
  nil : A = none → n = 0 ∧ c = 0
  at_ : 0 < n → ∃ b off, A = some ⟨b, off, none⟩ ∧ b < B ∧ ∀ (j : Nat) (d : De), l[j]? = some d → w.cell? ⟨b, off + j * 2, none⟩ = some (.int .i64 d.1) ∧ w.cell? ⟨b, off + j * 2 + 1, none⟩ = some (.int .i64 d.2)
section
variable {w w' : World} {B n c : Nat} {A : Option Addr} {l : List De}
theorem Ds.below (h : Ds w B A n c l) (hb : Below B w w') : Ds w' B A n c l :=
  ⟨h.len, h.cap, h.max, h.nil, fun hn => by
    obtain ⟨b, off, rfl, hB, hc⟩ := h.at_ hn
    exact ⟨b, off, rfl, hB, fun j d hj => ⟨(hb.cell (p := ⟨b, off + j * 2, none⟩) hB).trans (hc j d hj).1, (hb.cell (p := ⟨b, off + j * 2 + 1, none⟩) hB).trans (hc j d hj).2⟩⟩⟩
theorem Ds.mono {B' : Nat} (h : Ds w B A n c l) (hb : B ≤ B') : Ds w B' A n c l :=
  ⟨h.len, h.cap, h.max, h.nil, fun hn => by
    obtain ⟨b, off, rfl, hB, hc⟩ := h.at_ hn
    exact ⟨b, off, rfl, by omega, hc⟩⟩
theorem Ds.nil' (w : World) (B : Nat) : Ds w B none 0 0 [] := ⟨rfl, Nat.le_refl _, by omega, fun _ => ⟨rfl, rfl⟩, fun h => absurd h (by omega)⟩
theorem Ds.get (h : Ds w B A n c l) {k : Nat} (hk : k < n) : ∃ d, l[k]? = some d := ⟨l[k]'(by rw [h.len]; exact hk), List.getElem?_eq_getElem _⟩
end
/-- The first place at which p holds, or -1. -/
def idx (p : De → Bool) (l : List De) : Int := if l.findIdx p < l.length then ((l.findIdx p : Nat) : Int) else -1
theorem idx_hit {p : De → Bool} {l : List De} {k : Nat} {d : De} (hd : l[k]? = some d) (hp : p d = true) (hn : ∀ j e, j < k → l[j]? = some e → p e = false) : idx p l = k := by
  obtain ⟨hk, rfl⟩ := List.getElem?_eq_some_iff.1 hd
  have : l.findIdx p = k := by
    rw [List.findIdx_eq hk]
    exact ⟨hp, fun j hj => by
      have := hn j _ hj (List.getElem?_eq_getElem (by omega))
      simpa using this⟩
  unfold idx
  rw [this, if_pos hk]
theorem idx_miss {p : De → Bool} {l : List De} (hn : ∀ (j : Nat) e, l[j]? = some e → p e = false) : idx p l = -1 := by
  have : l.findIdx p = l.length := by
    rw [List.findIdx_eq_length]
    intro x hx
    obtain ⟨j, hj⟩ := List.mem_iff_getElem?.1 hx
    exact hn j x hj
  unfold idx
  rw [this, if_neg (by omega)]
theorem idx_any (p : De → Bool) (l : List De) : decide (0 ≤ idx p l) = l.any p := by
  unfold idx
  rw [Bool.eq_iff_iff]
  split
  · next h =>
    rw [List.findIdx_lt_length] at h
    simp only [List.any_eq_true]
    simpa using h
  · next h =>
    rw [List.findIdx_lt_length] at h
    simp only [List.any_eq_true]
    constructor
    · intro h0; simp at h0
    · intro h0; exact absurd h0 h
set_option maxHeartbeats 1600000 in
theorem index_any (p : De → Bool) (g : Nat) (lb : Array Value) (eg : ∀ args w, (callFunc g args).run Try.prog w = .ok (.enter g args) w) {w : World} {B n c : Nat} {A : Option Addr} {l : List De} (h : Ds w B A n c l) (hB : B ≤ w.heap.size)
    (hp : ∀ (W : World) (x : De), Below w.heap.size w W → Calls Try.prog g (#[dv x] ++ lb) W fun e w' => e = .returned (.bool (p x)) ∧ Hid (Below W.heap.size W w')) :
    Calls Try.prog 32 #[.slice A n c, .func (.func g) #[] lb] w fun e w' => e = .returned (.int .i64 (idx p l)) ∧ Hid (Below w.heap.size w w') := by
  have H := hid (h.mono hB)
  have hm := h.max
  have hcap := h.cap
  have HP := hid hp
  clear h hp
  go_enter Try.func32, Try.ntmps32
  go_wp2
  go_loopg [5, 8] n (fun gg _ s8 wr => ∃ kk : Nat, kk ≤ n ∧ n - kk ≤ gg ∧ s8 = .int .i64 kk ∧ Hid (Below w.heap.size w wr) ∧ Hid (∀ j e, j < kk → l[j]? = some e → p e = false))
  case atStart => exact ⟨0, Nat.zero_le _, by omega, rfl, hid (Below.refl _ w), hid (fun j _ hj => absurd hj (Nat.not_lt_zero _))⟩
  case round =>
    obtain ⟨kk, hkk, hg, rfl, BW, HA⟩ := hrel
    by_cases hlt : kk < n
    · have hltz : (kk : Int) < (n : Int) := by omega
      obtain ⟨d, hd⟩ := H.out.get hlt
      obtain ⟨b, off, rfl, _, hc⟩ := (H.out.below BW.out).at_ (by omega)
      obtain ⟨c1, c2⟩ := hc kk d hd
      have HC := hid (HP.out wr d BW.out)
      have Hd := hid hd
      clear hc hd
      obtain ⟨d1, d2⟩ := d
      change wr.cell? ⟨b, off + kk * 2, none⟩ = some (.int .i64 d1) at c1
      change wr.cell? ⟨b, off + kk * 2 + 1, none⟩ = some (.int .i64 d2) at c2
      cases hq : p (d1, d2) with
      | true =>
        rw [hq] at HC
        go_wp2_with fail
        refine HC.out.mono ?_
        rintro e w' ⟨rfl, hb⟩
        go_wp2
        go_ret
        refine ⟨?_, hid (BW.out.trans (hb.out.mono BW.out.size))⟩
        rw [idx_hit Hd.out hq HA.out]
        rfl
      | false =>
        rw [hq] at HC
        go_wp2_with fail
        refine HC.out.mono ?_
        rintro e w' ⟨rfl, hb⟩
        go_wp2
        go_roundg (n - (kk + 1))
        case measure => omega
        case rel =>
          refine ⟨kk + 1, by omega, by omega, by go_num, hid (BW.out.trans (hb.out.mono BW.out.size)), hid (fun j e hj he => ?_)⟩
          by_cases hjk : j = kk
          · subst hjk
            rw [Hd.out] at he
            injection he with he
            rw [← he]
            exact hq
          · exact HA.out j e (by omega) he
    · have hltz : ¬ (kk : Int) < (n : Int) := by omega
      obtain rfl : kk = n := by omega
      go_wp2
      go_ret
      refine ⟨?_, BW⟩
      rw [idx_miss (fun j e he => HA.out j e (by have := (List.getElem?_eq_some_iff.1 he).1; rw [H.out.len] at this; exact this) he)]
      rfl
theorem eqlD (d1 d2 e1 e2 : Int) (w : World) : Sem.run Try.prog (binOp .eql 23 (.agg #[.int .i64 d1, .int .i64 d2]) (.agg #[.int .i64 e1, .int .i64 e2])) w = .ok (.bool (decide ((d1, d2) = (e1, e2)))) w := by
  have u3 := Try.underlying3
  have a3 := Try.isAgg3
  have z3 := Try.sizeOf3
  have hS : Try.prog.underlying 23 = some (.struct (Try.prog.fieldsOf 23)) := by kernel_rfl
  have hp : Try.prog.stoodInHeld 23 = false := by kernel_rfl
  rw [run_eql_struct, show (10000 : Nat) = 9999 + 1 from rfl, run_equalIn_agg w 9999 23 _ _ hS hp]
  simp only [Program.fieldsOf, Try.underlying23]
  go_simp
  by_cases h1 : d1 = e1 <;> by_cases h2 : d2 = e2 <;> simp [h1, h2]
theorem neqD (d1 d2 e1 e2 : Int) (w : World) : Sem.run Try.prog (binOp .neq 23 (.agg #[.int .i64 d1, .int .i64 d2]) (.agg #[.int .i64 e1, .int .i64 e2])) w = .ok (.bool (!decide ((d1, d2) = (e1, e2)))) w := by
  have u3 := Try.underlying3
  have a3 := Try.isAgg3
  have z3 := Try.sizeOf3
  have hS : Try.prog.underlying 23 = some (.struct (Try.prog.fieldsOf 23)) := by kernel_rfl
  have hp : Try.prog.stoodInHeld 23 = false := by kernel_rfl
  rw [run_neq_struct, show (10000 : Nat) = 9999 + 1 from rfl, run_equalIn_agg w 9999 23 _ _ hS hp]
  simp only [Program.fieldsOf, Try.underlying23]
  go_simp
  by_cases h1 : d1 = e1 <;> by_cases h2 : d2 = e2 <;> simp [h1, h2]
theorem grdD (op : BinOp) (x y : Operand) (xs ys : Array Value) (w : World) : Sem.run Try.prog (eqGuard op 23 x y (.agg xs) (.agg ys)) w = .ok () w := run_eqGuard_agg w op 23 x y xs ys (by kernel_rfl)
theorem dec_ne {l m : List De} {k : Nat} {d e : De} (h1 : l[k]? = some d) (h2 : m[k]? = some e) (h : d ≠ e) : decide (l = m) = false := by
  rw [decide_eq_false_iff_not]
  intro hl
  rw [hl, h2] at h1
  injection h1 with h1
  exact h h1.symm
end Go.Proofs.Ytgcmljnjfghagaa.Tm
