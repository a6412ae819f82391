/- Frames as lists of bytes: what was framed is taken, and what is taken was framed so. No code is walked here. -/
/- Bytes of a row of the call's own are written; what a written byte does to a text's number. -/
/- Package field: what is put. -/
/- Package field: PutNumber, PutDyad. -/
/- Package field: PutDyad. -/
/- Package field: the reader. -/
import Derived.Test.YtbankbehfjogpaaVan
import Derived.Test.YtbankbehfjogpaaVai
import Derived.Test.YtbankbehfjogpaaVad
import Derived.RegionTactic
import Derived.Deep.RegionWith

namespace Go.Proofs.Ytbankbehfjogpaa
open Go.RowKit

theorem hd_length (kind : Nat) (xs : List Nat) : (hd kind xs).length = 5 := rfl
theorem frm_length (kind : Nat) (xs : List Nat) : (frm kind xs).length = xs.length + 9 := by
  unfold frm
  rw [List.length_append, List.length_append, bys_length, hd_length]
  omega
theorem frm_pre (kind : Nat) (xs : List Nat) : (frm kind xs).take ((frm kind xs).length - 4) = hd kind xs ++ xs := by
  rw [frm_length]
  unfold frm
  rw [List.take_append_of_le_length (by rw [List.length_append, hd_length]; omega), List.take_of_length_le (by rw [List.length_append, hd_length]; omega)]
theorem frm_post (kind : Nat) (xs : List Nat) : (frm kind xs).drop ((frm kind xs).length - 4) = bys (crc (hd kind xs ++ xs)) 4 := by
  rw [frm_length]
  unfold frm
  rw [show xs.length + 9 - 4 = (hd kind xs ++ xs).length by rw [List.length_append, hd_length]; omega, List.drop_left]
theorem body_lt {kind : Nat} {xs : List Nat} (hk : kind < 256) (hn : xs.length ≤ 4096) (hx : ∀ x ∈ xs, x < 256) : ∀ x ∈ hd kind xs ++ xs, x < 256 := by
  intro x h
  rcases List.mem_append.1 h with h | h
  · exact hd_lt hk hn x h
  · exact hx x h
theorem frm_lt {kind : Nat} {xs : List Nat} (hk : kind < 256) (hn : xs.length ≤ 4096) (hx : ∀ x ∈ xs, x < 256) : ∀ x ∈ frm kind xs, x < 256 := by
  intro x h
  rcases List.mem_append.1 h with h | h
  · exact body_lt hk hn hx x h
  · exact bys_lt h
theorem flt_frm {kind : Nat} {xs : List Nat} (hk : kind < 256) (hn : xs.length ≤ 4096) (hx : ∀ x ∈ xs, x < 256) : flt (frm kind xs) = 0 := by
  unfold flt
  rw [frm_pre, frm_post, if_neg (by rw [frm_length]; omega), nm_bys (crc_lt (body_lt hk hn hx)), if_pos rfl, if_pos]
  rw [frm_length]
  refine ⟨rfl, rfl, by omega, ?_⟩
  show xs.length / 256 * 256 + xs.length % 256 = xs.length + 9 - 9
  omega
theorem frm_kind (kind : Nat) (xs : List Nat) : (frm kind xs).getD 2 0 = kind := rfl
theorem frm_body (kind : Nat) (xs : List Nat) : ((frm kind xs).take ((frm kind xs).length - 4)).drop 5 = xs := by
  rw [frm_pre]
  exact List.drop_left (l₁ := hd kind xs)

theorem frm_of {t : List Nat} (ht : ∀ x ∈ t, x < 256) (h : flt t = 0) : frm (t.getD 2 0) ((t.take (t.length - 4)).drop 5) = t := by
  obtain ⟨h9, hm, hs, h0, h1, hl⟩ := flt_good h
  have hg : ∀ j, j < t.length → t[j]? = some (t.getD j 0) := fun j hj => by
    rw [List.getD_eq_getElem?_getD, List.getElem?_eq_getElem hj]; rfl
  have hlt : ∀ j, t.getD j 0 < 256 := fun j => by
    rw [List.getD_eq_getElem?_getD]
    cases hx : t[j]? with
    | none => show 0 < 256; omega
    | some x => exact ht x (List.mem_of_getElem? hx)
  have h4 := hlt 4
  have hlen : ((t.take (t.length - 4)).drop 5).length = t.length - 9 := by rw [List.length_drop, List.length_take]; omega
  have hpre : hd (t.getD 2 0) ((t.take (t.length - 4)).drop 5) ++ (t.take (t.length - 4)).drop 5 = t.take (t.length - 4) := by
    have : hd (t.getD 2 0) ((t.take (t.length - 4)).drop 5) = (t.take (t.length - 4)).take 5 := by
      apply List.ext_getElem?
      intro i
      rw [List.getElem?_take, List.getElem?_take]
      unfold hd
      rw [hlen]
      match i with
      | 0 => rw [if_pos (by omega), if_pos (by omega), hg 0 (by omega), h0]; rfl
      | 1 => rw [if_pos (by omega), if_pos (by omega), hg 1 (by omega), h1]; rfl
      | 2 => rw [if_pos (by omega), if_pos (by omega), hg 2 (by omega)]; rfl
      | 3 => rw [if_pos (by omega), if_pos (by omega), hg 3 (by omega)]; show some ((t.length - 9) / 256) = _; congr 1; omega
      | 4 => rw [if_pos (by omega), if_pos (by omega), hg 4 (by omega)]; show some ((t.length - 9) % 256) = _; congr 1; omega
      | i + 5 => rw [if_neg (by omega)]; rfl
    rw [this, List.take_append_drop]
  unfold frm
  rw [hpre, ← hs]
  have e4 : (t.drop (t.length - 4)).length = 4 := by rw [List.length_drop]; omega
  have := bys_nm (xs := t.drop (t.length - 4)) (fun x hx => ht x (List.mem_of_mem_drop hx))
  rw [e4] at this
  rw [this, List.take_append_drop]

theorem By.zeros (w : World) (n : Nat) (hn : n ≤ 140737488355328) : By (w.alloc (.cells (madeCells #[.int .u8 0] n) 5)) (w.heap.size + 1) (some ⟨w.heap.size, 0, none⟩) n n (List.replicate n 0) :=
  ⟨by simp, Nat.le_refl _, hn, by simp, fun h => (by cases h), fun _ => ⟨w.heap.size, 0, rfl, Nat.lt_succ_self _, fun j x hj => by
    rw [Nat.zero_add, cell_of_row _ w.heap.size j _ 5 (0, 0) (heap_alloc_new w _), ← Array.getElem?_toList, toList_madeCells_one (.int .u8 0) n]
    rw [List.getElem?_replicate] at hj ⊢
    split at hj
    · rename_i h
      rw [if_pos h]
      injection hj with hj
      rw [← hj]
      rfl
    · cases hj⟩⟩

end Go.Proofs.Ytbankbehfjogpaa


namespace Go.Proofs.Ytbankbehfjogpaa
open Go.RowKit

theorem xor_shift (a b k : Nat) : (a ^^^ b) * 2 ^ k = a * 2 ^ k ^^^ b * 2 ^ k := by
  rw [← Nat.shiftLeft_eq, ← Nat.shiftLeft_eq, ← Nat.shiftLeft_eq, Nat.shiftLeft_xor_distrib]
theorem cons_xor {x N : Nat} (h : x < 256) : x + 256 * N = x ^^^ N * 2 ^ 8 := by
  rw [xor_add (k := 8) (by omega)]
  omega
theorem nm_set : ∀ {xs : List Nat} {j o : Nat}, j < xs.length → (∀ x ∈ xs, x < 256) → o < 256 → nm (xs.set j (xs.getD j 0 ^^^ o)) = nm xs ^^^ o * 256 ^ j
  | [], _, _, h, _, _ => absurd h (Nat.not_lt_zero _)
  | x :: xs, 0, o, _, hx, ho => by
    have h1 := hx x List.mem_cons_self
    show (x ^^^ o) + 256 * nm xs = (x + 256 * nm xs) ^^^ o * 256 ^ 0
    rw [cons_xor (Nat.xor_lt_two_pow (n := 8) (by omega) (by omega)), cons_xor h1, Nat.pow_zero, Nat.mul_one, Nat.xor_assoc, Nat.xor_assoc, Nat.xor_comm o]
  | x :: xs, j + 1, o, h, hx, ho => by
    have h1 := hx x List.mem_cons_self
    have ih := nm_set (xs := xs) (j := j) (o := o) (by simpa using h) (fun y hy => hx y (List.mem_cons_of_mem _ hy)) ho
    show x + 256 * nm (xs.set j (xs.getD j 0 ^^^ o)) = (x + 256 * nm xs) ^^^ o * 256 ^ (j + 1)
    rw [ih, cons_xor h1, cons_xor h1, xor_shift, Nat.xor_assoc, Nat.mul_assoc, show 256 ^ j * 2 ^ 8 = 256 ^ (j + 1) from (Nat.pow_succ (n := 256) (m := j)).symm]

theorem Ow.open_ {w : World} {B n c : Nat} {A : Option Addr} {xs : List Nat} (h : Ow w B (.slice A n c) xs) (hn : 0 < n) : ∃ g, A = some ⟨g, 0, none⟩ ∧ n = xs.length ∧ n ≤ c ∧ B ≤ g ∧ g < w.heap.size ∧
    (∀ j, j < n → w.cell? ⟨g, j, none⟩ = some (.int .u8 (xs.getD j 0 : Int))) ∧ (∀ j, w.frozen? ⟨g, j, none⟩ = false) := by
  obtain ⟨hl, hb⟩ := h.by_
  obtain ⟨⟨_, hor⟩, hlt, hmax⟩ := h
  rcases hor with ⟨e, h0⟩ | ⟨g, cap, cur, e, hg, hh, hn2, hc, hs, ht⟩
  · injection e with e1 e2 e3
    omega
  · injection e with e1 e2 e3
    subst e1
    refine ⟨g, rfl, hl, by omega, hg, lt_of_heap hh, fun j hj => ?_, fun j => frozen_of_row w g j cur 5 hh⟩
    obtain ⟨b', off', e, _, hcc⟩ := hb.at_ hn
    injection e with e
    injection e with f1 f2
    subst f1
    subst f2
    have hx : xs[j]? = some (xs.getD j 0) := by
      rw [List.getD_eq_getElem?_getD, List.getElem?_eq_getElem (by omega)]; rfl
    have := hcc j _ hx
    rwa [Nat.zero_add] at this
theorem Ow.set {w : World} {B g n c : Nat} {xs : List Nat} (h : Ow w B (.slice (some ⟨g, 0, none⟩) n c) xs) (j : Nat) {y : Nat} (hy : y < 256) : Ow (w.setCell ⟨g, j, none⟩ (.int .u8 (y : Int))) B (.slice (some ⟨g, 0, none⟩) n c) (xs.set j y) := by
  obtain ⟨hl, hb⟩ := h.by_
  obtain ⟨⟨hlen, hor⟩, hlt, hmax⟩ := h
  rcases hor with ⟨e, h0⟩ | ⟨g', cap, cur, e, hg, hh, hn2, hc, hs, ht⟩
  · cases e
  · injection e with e1 e2 e3
    injection e1 with e1
    injection e1 with f1 f2
    subst f1
    subst e3
    refine ⟨⟨by rw [vals_length, List.length_set, Nat.mul_one], .inr ⟨g, c, cur.setIfInBounds j (.int .u8 (y : Int)), by rw [List.length_set, hl], hg, heap_setCell_same w g j cur 5 _ hh, by rw [List.length_set]; exact hn2, hc, by simpa using hs, ?_⟩⟩, ?_, by rw [List.length_set]; exact hmax⟩
    · rw [Array.toList_setIfInBounds, List.length_set, List.take_set, ht]
      unfold vals
      rw [List.map_set]
    · intro x hx
      rcases List.mem_or_eq_of_mem_set hx with h1 | rfl
      · exact hlt x h1
      · exact hy

theorem By.nth {w : World} {B n c : Nat} {A : Option Addr} {xs : List Nat} (h : By w B A n c xs) (j : Nat) : xs.getD j 0 < 256 := by
  rw [List.getD_eq_getElem?_getD]
  cases hx : xs[j]? with
  | none => show 0 < 256; omega
  | some x => exact h.lt x (List.mem_of_getElem? hx)

end Go.Proofs.Ytbankbehfjogpaa


namespace Go.Proofs.Ytbankbehfjogpaa
set_option maxRecDepth 100000
open Go.RowKit

set_option maxHeartbeats 1600000 in
theorem putDigits_any {w : World} {B V z : Nat} {v : Value} {xs : List Nat} (h : Ow w B v xs) (hB : B ≤ w.heap.size) (hn : xs.length ≤ 1000000) (hz : z ≤ 8) (_hV : V ≤ 18446744073709551615) :
    Calls Try.prog 70 #[v, .int .u64 (V : Int), .int .i64 (z : Int)] w fun e w' => ∃ v', e = .returned v' ∧ Hid (Ow w' B v' (xs ++ be V z)) ∧ Hid (Below B w w') := by
  have H := hid h
  clear h
  go_enter Try.func70, Try.ntmps70
  go_wp2
  go_loopw [0, 9, 7] (fun a i _ wr => ∃ k : Nat, k ≤ z ∧ i = .int .i64 k ∧ Hid (Ow wr B a (xs ++ (be V z).take k)) ∧ Hid (Below B w wr)) (fun _ i _ _ => z - (intOf i).toNat)
  case atStart => exact ⟨0, by omega, rfl, hid (by rw [List.take_zero, List.append_nil]; exact H.out), hid (Below.refl _ _)⟩
  case round =>
    obtain ⟨k, hk, rfl, hO, hb⟩ := hrel
    by_cases hcon : k < z
    · have hlen : (xs ++ (be V z).take k).length + 1 ≤ 17592186044416 := by
        rw [List.length_append, List.length_take]
        omega
      obtain ⟨t, ht⟩ : ∃ t : Nat, t = 8 * (z - 1 - k) := ⟨_, rfl⟩
      have hval : ((V : Int) / 2 ^ t % 256) = ((V / 256 ^ (z - 1 - k) % 256 : Nat) : Int) := by
        rw [show (256 : Nat) ^ (z - 1 - k) = 2 ^ t by rw [ht, Nat.pow_mul]]
        simp
      have hy : V / 256 ^ (z - 1 - k) % 256 < 256 := Nat.mod_lt _ (by omega)
      have hnext : Hid ((be V z).take (k + 1) = (be V z).take k ++ [V / 256 ^ (z - 1 - k) % 256]) := hid (be_take hcon)
      generalize V / 256 ^ (z - 1 - k) % 256 = y at *
      have hw1 : IntKind.i64.wrap ((z : Int) - 1) = (z : Int) - 1 := IntWalk.i64_in _ (by omega)
      have hw2 : IntKind.i64.wrap ((z : Int) - 1 - (k : Int)) = (z : Int) - 1 - (k : Int) := IntWalk.i64_in _ (by omega)
      have hw3 : IntKind.i64.wrap (8 * ((z : Int) - 1 - (k : Int))) = (t : Int) := by rw [IntWalk.i64_in _ (by omega)]; omega
      have hw4 : 8 * ((z : Int) - 1 - (k : Int)) = (t : Int) := by omega
      have htl : t ≤ 56 := by omega
      have HB := hid (By.new wr [y] (by simpa using hy) (by simp))
      have Hal := hid ((Below.refl wr.heap.size wr).alloc (Nat.le_refl _) (.cells (vals [y]).toArray 5))
      have HO := hid (hO.out.below Hal.out (Nat.le_refl _))
      have hsz := hb.out.size
      clear hy ht
      go_wp2_with (at_builtin; refine app_bytes rfl (.tmp 12) (.tmp 21) rfl rfl rfl HO.out (by simp; omega) HB.out hlen ?_; intro v' w' hO' hb')
      go_roundw
      case rel => exact ⟨k + 1, by omega, by go_num, hid (by rw [hnext.out, ← List.append_assoc]; exact hO'.out), hid ((hb.out.trans (Hal.out.mono (by omega))).trans hb'.out)⟩
      case measure => simp [intOf]; omega
    · obtain rfl : k = z := by omega
      go_wp2
      go_ret
      exact ⟨_, rfl, by rwa [be_all] at hO, hb⟩

theorem make_bytes (n : Nat) (hn : n ≤ 1000000) (w : World) (x : Int) (hx : x = (n : Int)) :
    (Instr.makeSlice 37 (.int .i64 0) (.int .i64 x)).run Try.prog w = .ok (.slice (some ⟨w.heap.size, 0, none⟩) 0 n) (w.alloc (.cells (madeCells #[.int .u8 0] n) 5)) := by
  obtain ⟨i, hi, hz, hsz, hby⟩ := info_one u8_info
  have hr := run_make (P := Try.prog) w 37 5 i (.int .u8 0) (by kernel_rfl) hi hz .i64 .i64 0 x (by omega) (by omega) (by rw [hby]; omega) (by omega)
  rw [hr, hsz, show x.toNat = n by omega, Nat.mul_one]
  rfl

set_option maxHeartbeats 1600000 in
theorem widened_many {w : World} {n c m : Nat} {A : Option Addr} (hn : 3900 < n + m) (hm : m ≤ 10000) (_hx : n ≤ 140737488355328) :
    Calls Try.prog 69 #[.slice A n c, .int .i64 (m : Int)] w fun e w' => e = .returned (.tuple #[.slice none 0 0, .int .i64 4]) ∧ w = w' := by
  have hw : IntKind.i64.wrap (3900 - (m : Int)) = 3900 - (m : Int) := IntWalk.i64_in _ (by omega)
  go_enter Try.func69, Try.ntmps69
  go_wp2
  go_ret2
  exact ⟨rfl, rfl⟩

set_option maxHeartbeats 3200000 in
theorem widened_fits {w : World} {n c m : Nat} {A : Option Addr} {xs : List Nat} (h : By w w.heap.size A n c xs) (hn : n + m ≤ 3900) :
    Calls Try.prog 69 #[.slice A n c, .int .i64 (m : Int)] w fun e w' => ∃ v, e = .returned (.tuple #[v, .int .i64 0]) ∧ Hid (Ow w' w.heap.size v xs) ∧ Hid (Below w.heap.size w w') := by
  have hw : IntKind.i64.wrap (3900 - (m : Int)) = 3900 - (m : Int) := IntWalk.i64_in _ (by omega)
  have hw2 : IntKind.i64.wrap ((n : Int) + (m : Int)) = (n : Int) + (m : Int) := IntWalk.i64_in _ (by omega)
  have hmk := make_bytes (n + m) (by omega) w ((n : Int) + (m : Int)) (by omega)
  have O1 := hid (Ow.made (w := w) (B := w.heap.size) (c := n + m) (Nat.le_refl _) (by omega))
  have HB1 := hid ((Below.refl w.heap.size w).alloc (Nat.le_refl _) (.cells (madeCells #[.int .u8 0] (n + m)) 5))
  have HX := hid (h.below HB1.out)
  have hmax := h.max
  generalize hW : w.alloc (.cells (madeCells #[.int .u8 0] (n + m)) 5) = W at *
  have hs := HB1.out.size
  clear h hW
  go_enter Try.func69, Try.ntmps69
  go_wp2_with (at_builtin; refine app_bytes rfl (.tmp 15) (.tmp 16) rfl rfl rfl O1.out hs HX.out (by simp; omega) ?_; intro v' w' hO' hb')
  go_ret2
  exact ⟨_, rfl, by rwa [List.nil_append] at hO', hid (HB1.out.trans hb'.out)⟩

set_option maxHeartbeats 3200000 in
theorem putLimbs_any {w : World} {B n c : Nat} {v : Value} {A : Option Addr} {f : Nat → Nat} {xs : List Nat} (h : Ow w B v xs) (hB : B ≤ w.heap.size) (hn : xs.length ≤ 10000) (hr : Rd w B A n c f) (hn2 : n ≤ 42) :
    Calls Try.prog 72 #[v, .slice A n c] w fun e w' => ∃ v', e = .returned v' ∧ Hid (Ow w' B v' (xs ++ lms f n)) ∧ Hid (Below B w w') := by
  have H := hid h
  have HR := hid hr
  have hcap := hr.cap
  clear h hr
  go_enter Try.func72, Try.ntmps72
  go_wp2
  go_loopw [0, 9, 6] (fun a i _ wr => ∃ k : Nat, k ≤ n ∧ i = .int .i64 k ∧ Hid (Ow wr B a (xs ++ lms f k)) ∧ Hid (Below B w wr)) (fun _ i _ _ => n - (intOf i).toNat)
  case atStart => exact ⟨0, by omega, rfl, hid (by rw [show lms f 0 = [] from rfl, List.append_nil]; exact H.out), hid (Below.refl _ _)⟩
  case round =>
    obtain ⟨k, hk, rfl, hO, hb⟩ := hrel
    by_cases hcon : k < n
    · obtain ⟨b, off, rfl, hbB, hc⟩ := HR.out.at_ (by omega)
      have hcell := (hb.out.cell (p := ⟨b, off + k, none⟩) hbB).trans (hc k hcon)
      have hlt := HR.out.lt k
      have hnext : Hid (lms f (k + 1) = lms f k ++ be (f k) 4) := hid rfl
      generalize f k = x at *
      have hsz := hb.out.size
      have C := hid (putDigits_any (V := x) (z := 4) hO.out (Nat.le_trans hB hsz) (by rw [List.length_append, lms_length]; omega) (by omega) (by omega))
      clear hc
      go_wp2_with fail
      refine C.out.mono ?_
      rintro e w2 ⟨v2, rfl, hO2, hb2⟩
      go_wp2
      go_roundw
      case rel => exact ⟨k + 1, by omega, by go_num, hid (by rw [hnext.out, ← List.append_assoc]; exact hO2.out), hid (hb.out.trans hb2.out)⟩
      case measure => simp [intOf]; omega
    · obtain rfl : k = n := by omega
      go_wp2
      go_ret
      exact ⟨_, rfl, hO, hb⟩

end Go.Proofs.Ytbankbehfjogpaa


namespace Go.Proofs.Ytbankbehfjogpaa
set_option maxRecDepth 100000
open Go.RowKit

theorem fit_pow {V z : Nat} : V < 256 ^ z ↔ V / 2 ^ (8 * z) = 0 := by
  rw [Nat.pow_mul, show (2 : Nat) ^ 8 = 256 from rfl]
  exact (Nat.div_eq_zero_iff_lt (Nat.pow_pos (by omega))).symm

set_option maxHeartbeats 1600000 in
theorem maySize_any (z : Int) (w : World) :
    Calls Try.prog 68 #[.int .i64 z] w fun e w' => e = .returned (.bool (decide (1 ≤ z ∧ z ≤ 8))) ∧ w = w' := by
  have hcase : (¬ 1 ≤ z) ∨ (1 ≤ z ∧ ¬ z ≤ 8) ∨ (1 ≤ z ∧ z ≤ 8) := by omega
  rcases hcase with h1 | ⟨h1, h2⟩ | ⟨h1, h2⟩
  all_goals
    go_enter Try.func68, Try.ntmps68
    go_wp2
    go_ret
    refine ⟨?_, rfl⟩
    congr 2
    simp
    try omega

set_option maxHeartbeats 3200000 in
theorem PutNumber_arg {w : World} {n c V : Nat} {A : Option Addr} {z : Int} (hz : ¬ (1 ≤ z ∧ z ≤ 8 ∧ V < 256 ^ z.toNat)) (_hV : V ≤ 18446744073709551615) :
    Calls Try.prog 46 #[.slice A n c, .int .u64 (V : Int), .int .i64 z] w fun e w' => e = .returned (.tuple #[.slice none 0 0, .int .i64 2]) ∧ w = w' := by
  by_cases h1 : 1 ≤ z ∧ z ≤ 8
  · obtain ⟨k, rfl⟩ : ∃ k : Nat, z = k := ⟨z.toNat, by omega⟩
    have hp : ¬ V < 256 ^ k := fun h => hz ⟨h1.1, h1.2, by rwa [Int.toNat_natCast]⟩
    rw [fit_pow] at hp
    obtain ⟨t, ht⟩ : ∃ t : Nat, t = 8 * k := ⟨_, rfl⟩
    rw [← ht] at hp
    have hw1 : IntKind.i64.wrap (8 * (k : Int)) = (t : Int) := by rw [IntWalk.i64_in _ (by omega)]; omega
    have hw2 : 8 * (k : Int) = (t : Int) := by omega
    have hne : ((V : Int) / 2 ^ t != 0) = true := by
      simp only [bne_iff_ne]
      intro h
      apply hp
      have : ((V / 2 ^ t : Nat) : Int) = 0 := by simpa using h
      omega
    have C := maySize_any k w
    rw [show decide (1 ≤ (k : Int) ∧ (k : Int) ≤ 8) = true by simp; omega] at C
    have HC := hid C
    clear C hz hp ht
    go_enter Try.func46, Try.ntmps46
    go_wp2_with fail
    refine HC.out.mono ?_
    rintro e w1 ⟨rfl, rfl⟩
    go_wp2
    go_ret2
    exact ⟨rfl, rfl⟩
  · have C := maySize_any z w
    rw [show decide (1 ≤ z ∧ z ≤ 8) = false by simp; omega] at C
    have HC := hid C
    clear C hz h1
    go_enter Try.func46, Try.ntmps46
    go_wp2_with fail
    refine HC.out.mono ?_
    rintro e w1 ⟨rfl, rfl⟩
    go_wp2
    go_ret2
    exact ⟨rfl, rfl⟩

set_option maxHeartbeats 3200000 in
theorem PutNumber_many {w : World} {n c V k : Nat} {A : Option Addr} (h1 : 1 ≤ k) (h8 : k ≤ 8) (hV : V < 256 ^ k) (_hV : V ≤ 18446744073709551615) (hn : 3900 < n + k) (hm : n ≤ 140737488355328) :
    Calls Try.prog 46 #[.slice A n c, .int .u64 (V : Int), .int .i64 (k : Int)] w fun e w' => e = .returned (.tuple #[.slice none 0 0, .int .i64 4]) ∧ w = w' := by
  rw [fit_pow] at hV
  obtain ⟨t, ht⟩ : ∃ t : Nat, t = 8 * k := ⟨_, rfl⟩
  rw [← ht] at hV
  have hw1 : IntKind.i64.wrap (8 * (k : Int)) = (t : Int) := by rw [IntWalk.i64_in _ (by omega)]; omega
  have hw2 : 8 * (k : Int) = (t : Int) := by omega
  have hne : ((V : Int) / 2 ^ t != 0) = false := by
    have : ((V / 2 ^ t : Nat) : Int) = 0 := by omega
    simpa using this
  have C := maySize_any k w
  rw [show decide (1 ≤ (k : Int) ∧ (k : Int) ≤ 8) = true by simp; omega] at C
  have HC := hid C
  have CW := hid (widened_many (w := w) (c := c) (A := A) hn (by omega) hm)
  clear C hV ht
  go_enter Try.func46, Try.ntmps46
  go_wp2_with fail
  refine HC.out.mono ?_
  rintro e w1 ⟨rfl, rfl⟩
  go_wp2_with fail
  refine CW.out.mono ?_
  rintro e w1 ⟨rfl, rfl⟩
  go_wp2
  go_ret2
  exact ⟨rfl, rfl⟩

set_option maxHeartbeats 3200000 in
theorem PutNumber_fits {w : World} {n c V k : Nat} {A : Option Addr} {xs : List Nat} (h : By w w.heap.size A n c xs) (h1 : 1 ≤ k) (h8 : k ≤ 8) (hV : V < 256 ^ k) (_hV : V ≤ 18446744073709551615) (hn : n + k ≤ 3900) :
    Calls Try.prog 46 #[.slice A n c, .int .u64 (V : Int), .int .i64 (k : Int)] w fun e w' => ∃ v, e = .returned (.tuple #[v, .int .i64 0]) ∧ Hid (Ow w' w.heap.size v (xs ++ be V k)) ∧ Hid (Below w.heap.size w w') := by
  rw [fit_pow] at hV
  obtain ⟨t, ht⟩ : ∃ t : Nat, t = 8 * k := ⟨_, rfl⟩
  rw [← ht] at hV
  have hw1 : IntKind.i64.wrap (8 * (k : Int)) = (t : Int) := by rw [IntWalk.i64_in _ (by omega)]; omega
  have hw2 : 8 * (k : Int) = (t : Int) := by omega
  have hne : ((V : Int) / 2 ^ t != 0) = false := by
    have : ((V / 2 ^ t : Nat) : Int) = 0 := by omega
    simpa using this
  have C := maySize_any k w
  rw [show decide (1 ≤ (k : Int) ∧ (k : Int) ≤ 8) = true by simp; omega] at C
  have HC := hid C
  have CW := hid (widened_fits h hn)
  have hlen := h.len
  clear C hV ht h
  go_enter Try.func46, Try.ntmps46
  go_wp2_with fail
  refine HC.out.mono ?_
  rintro e w1 ⟨rfl, rfl⟩
  go_wp2_with fail
  refine CW.out.mono ?_
  rintro e w1 ⟨v1, rfl, hO1, hb1⟩
  go_wp2_with fail
  refine (putDigits_any hO1.out hb1.out.size (by omega) h8 _hV).mono ?_
  rintro e w2 ⟨v2, rfl, hO2, hb2⟩
  go_wp2
  go_ret2
  exact ⟨_, rfl, hO2, hid (hb1.out.trans hb2.out)⟩

set_option maxHeartbeats 1600000 in
theorem signOf_any (s : Bool) (A : Option Addr) (n c : Nat) (x : Int) (w : World) :
    Calls Try.prog 71 #[.agg #[.bool s, .slice A n c, .int .i64 x]] w fun e w' => e = .returned (.int .u64 (if s then 1 else 0)) ∧ Hid (Below w.heap.size w w') := by
  have B0 := hid ((Below.refl w.heap.size w).alloc (Nat.le_refl _) (.cells #[.bool s, .slice A n c, .int .i64 x] 24))
  cases s
  all_goals
    go_enter Try.func71, Try.ntmps71
    go_wp2
    go_ret
    exact ⟨rfl, B0⟩

end Go.Proofs.Ytbankbehfjogpaa


namespace Go.Proofs.Ytbankbehfjogpaa
set_option maxRecDepth 100000
open Go.RowKit

theorem dchk_ok {s : Bool} {n : Nat} {f : Nat → Nat} {x : Int} (h : DMay s n f x) : dchk s n f x = 0 := if_pos h
theorem dchk_bad {s : Bool} {n : Nat} {f : Nat → Nat} {x : Int} (h : ¬ DMay s n f x) : dchk s n f x = 8 := if_neg h

set_option maxHeartbeats 1600000 in
theorem PutDyad_bad {w : World} {n c m d : Nat} {A D : Option Addr} {f : Nat → Nat} {s : Bool} {x : Int} (hr : Rd w w.heap.size D m d f) (hm : ¬ DMay s m f x) :
    Calls Try.prog 47 #[.slice A n c, .agg #[.bool s, .slice D m d, .int .i64 x]] w fun e w' => e = .returned (.tuple #[.slice none 0 0, .int .i64 8]) ∧ Hid (Below w.heap.size w w') := by
  have B0 := hid ((Below.refl w.heap.size w).alloc (Nat.le_refl _) (.cells #[.bool s, .slice D m d, .int .i64 x] 24))
  have P0 : Hid (Dbox _ w.heap.size s (.slice D m d) x) := heap_alloc_new w (.cells #[.bool s, .slice D m d, .int .i64 x] 24)
  have C := dcheck_any ((hr.below B0.out).mono B0.out.size) s x
  rw [dchk_bad hm] at C
  have HC := hid C
  have b0 := P0.out.c0
  have b1 := P0.out.c1
  have b2 := P0.out.c2
  clear C hr hm
  go_enter Try.func47, Try.ntmps47
  go_wp2_with fail
  refine HC.out.mono ?_
  rintro e w1 ⟨rfl, hb⟩
  have B1 := hid (B0.out.trans (hb.mono B0.out.size))
  go_wp2
  go_ret2
  exact ⟨rfl, B1⟩

set_option maxHeartbeats 3200000 in
theorem PutDyad_many {w : World} {n c m d : Nat} {A D : Option Addr} {f : Nat → Nat} {s : Bool} {x : Int} (hr : Rd w w.heap.size D m d f) (hm : DMay s m f x) (hn : 3900 < n + (4 + 4 * m)) (hx : n ≤ 140737488355328) :
    Calls Try.prog 47 #[.slice A n c, .agg #[.bool s, .slice D m d, .int .i64 x]] w fun e w' => e = .returned (.tuple #[.slice none 0 0, .int .i64 4]) ∧ Hid (Below w.heap.size w w') := by
  have B0 := hid ((Below.refl w.heap.size w).alloc (Nat.le_refl _) (.cells #[.bool s, .slice D m d, .int .i64 x] 24))
  have P0 : Hid (Dbox _ w.heap.size s (.slice D m d) x) := heap_alloc_new w (.cells #[.bool s, .slice D m d, .int .i64 x] 24)
  have C := dcheck_any ((hr.below B0.out).mono B0.out.size) s x
  rw [dchk_ok hm] at C
  have HC := hid C
  have b0 := P0.out.c0
  have b1 := P0.out.c1
  have b2 := P0.out.c2
  have hm40 := hm.1.1
  have hw1 : IntKind.i64.wrap (4 * (m : Int)) = 4 * (m : Int) := IntWalk.i64_in _ (by omega)
  have hw2 : IntKind.i64.wrap (4 + 4 * (m : Int)) = 4 + 4 * (m : Int) := IntWalk.i64_in _ (by omega)
  have hcap := hr.cap
  have CW := fun w => hid (widened_many (w := w) (c := c) (A := A) hn (by omega) hx)
  rw [show ((4 + 4 * m : Nat) : Int) = 4 + 4 * (m : Int) by omega] at CW
  clear C hr hm
  go_enter Try.func47, Try.ntmps47
  go_wp2_with fail
  refine HC.out.mono ?_
  rintro e w1 ⟨rfl, hb⟩
  have B1 := hid (B0.out.trans (hb.mono B0.out.size))
  have P1 := hid (P0.out.below hb P0.out.lt)
  have e0 := P1.out.c0
  have e1 := P1.out.c1
  have e2 := P1.out.c2
  clear b0 b1 b2
  go_wp2_with fail
  refine (CW _).out.mono ?_
  rintro e w2 ⟨rfl, rfl⟩
  go_wp2
  go_ret2
  exact ⟨rfl, B1⟩

set_option maxHeartbeats 6400000 in
theorem PutDyad_fits {w : World} {n c m d X : Nat} {A D : Option Addr} {f : Nat → Nat} {s : Bool} {xs : List Nat} (h : By w w.heap.size A n c xs) (hr : Rd w w.heap.size D m d f) (hm : DMay s m f (X : Int)) (hn : n + (4 + 4 * m) ≤ 3900) :
    Calls Try.prog 47 #[.slice A n c, .agg #[.bool s, .slice D m d, .int .i64 (X : Int)]] w fun e w' => ∃ v, e = .returned (.tuple #[v, .int .i64 0]) ∧ Hid (Ow w' w.heap.size v (xs ++ dtx s m f X)) ∧ Hid (Below w.heap.size w w') := by
  have B0 := hid ((Below.refl w.heap.size w).alloc (Nat.le_refl _) (.cells #[.bool s, .slice D m d, .int .i64 (X : Int)] 24))
  have P0 : Hid (Dbox _ w.heap.size s (.slice D m d) (X : Int)) := heap_alloc_new w (.cells #[.bool s, .slice D m d, .int .i64 (X : Int)] 24)
  have C := dcheck_any ((hr.below B0.out).mono B0.out.size) s X
  rw [dchk_ok hm] at C
  have HC := hid C
  have b0 := P0.out.c0
  have b1 := P0.out.c1
  have b2 := P0.out.c2
  have hm40 := hm.1.1
  have hX := hm.2.2.1
  have hw1 : IntKind.i64.wrap (4 * (m : Int)) = 4 * (m : Int) := IntWalk.i64_in _ (by omega)
  have hw2 : IntKind.i64.wrap (4 + 4 * (m : Int)) = 4 + 4 * (m : Int) := IntWalk.i64_in _ (by omega)
  have hcap := hr.cap
  have hlen := h.len
  have CW := fun (w' : World) (hb : Below w.heap.size w w') => hid (widened_fits ((h.below hb).mono hb.size) hn)
  rw [show ((4 + 4 * m : Nat) : Int) = 4 + 4 * (m : Int) by omega] at CW
  have HR := hid hr
  clear C hr hm h
  go_enter Try.func47, Try.ntmps47
  go_wp2_with fail
  refine HC.out.mono ?_
  rintro e w1 ⟨rfl, hb⟩
  have B1 := hid (B0.out.trans (hb.mono B0.out.size))
  have P1 := hid (P0.out.below hb P0.out.lt)
  have e0 := P1.out.c0
  have e1 := P1.out.c1
  have e2 := P1.out.c2
  clear b0 b1 b2 P0 B0 HC
  go_wp2_with fail
  refine (CW _ B1.out).out.mono ?_
  rintro e w2 ⟨v2, rfl, hO2, hb2⟩
  have K2 := hid hb2.out
  have P2 := hid (P1.out.below hb2.out P1.out.lt)
  have b0 := P2.out.c0
  have b1 := P2.out.c1
  have b2 := P2.out.c2
  have hlt := P1.out.lt
  clear e0 e1 e2 CW hb2
  go_wp2_with fail
  refine (signOf_any s D m d X _).mono ?_
  rintro e w3 ⟨rfl, hb3⟩
  have K3 := hid (K2.out.trans (hb3.out.mono K2.out.size))
  have P3 := hid (P1.out.below K3.out hlt)
  have O3 := hid (hO2.out.below hb3.out (Nat.le_refl _))
  have e0 := P3.out.c0
  have e1 := P3.out.c1
  have e2 := P3.out.c2
  obtain ⟨g, hg⟩ : ∃ g : Nat, g = if s then 1 else 0 := ⟨_, rfl⟩
  have hgl : g ≤ 1 := by rw [hg]; split <;> omega
  rw [show (if s then (1 : Int) else 0) = (g : Int) by rw [hg]; split <;> rfl]
  have Hg := hid hg
  clear b0 b1 b2 P2 K2 hO2 hb3 hg
  go_wp2_with fail
  refine (putDigits_any (z := 1) O3.out K3.out.size (by omega) (by omega) (by omega)).mono ?_
  rintro e w4 ⟨v4, rfl, hO4, hb4⟩
  have K4 := hid (K3.out.trans hb4.out)
  have P4 := hid (P1.out.below K4.out hlt)
  have b0 := P4.out.c0
  have b1 := P4.out.c1
  have b2 := P4.out.c2
  clear e0 e1 e2 P3 K3 O3 hb4
  go_wp2_with fail
  refine (putDigits_any (z := 2) hO4.out K4.out.size (by simp [be_length]; omega) (by omega) (by omega)).mono ?_
  rintro e w5 ⟨v5, rfl, hO5, hb5⟩
  have K5 := hid (K4.out.trans hb5.out)
  have P5 := hid (P1.out.below K5.out hlt)
  have e0 := P5.out.c0
  have e1 := P5.out.c1
  have e2 := P5.out.c2
  clear b0 b1 b2 P4 K4 hO4 hb5
  go_wp2_with fail
  refine (putDigits_any (z := 1) hO5.out K5.out.size (by simp [be_length]; omega) (by omega) (by omega)).mono ?_
  rintro e w6 ⟨v6, rfl, hO6, hb6⟩
  have K6 := hid (K5.out.trans hb6.out)
  have P6 := hid (P1.out.below K6.out hlt)
  have b0 := P6.out.c0
  have b1 := P6.out.c1
  have b2 := P6.out.c2
  clear e0 e1 e2 P5 K5 hO5 hb6
  go_wp2_with fail
  refine (putLimbs_any hO6.out K6.out.size (by simp [be_length]; omega) ((HR.out.below (B1.out.trans (K6.out.mono B1.out.size))).mono B1.out.size) (by omega)).mono ?_
  rintro e w7 ⟨v7, rfl, hO7, hb7⟩
  go_wp2
  go_ret2
  refine ⟨v7, rfl, hid ?_, hid (B1.out.trans ((K6.out.trans hb7.out).mono B1.out.size))⟩
  have h7 := hO7.out.mono B1.out.size
  rw [Hg.out] at h7
  simpa only [dtx, List.append_assoc] using h7

end Go.Proofs.Ytbankbehfjogpaa


namespace Go.Proofs.Ytbankbehfjogpaa
set_option maxRecDepth 100000
open Go.RowKit

/-- What is read, in its box (of some type). -/
def Rbox (w : World) (t : TypeId) (g : Nat) (A : Option Addr) (n c : Nat) (p : Int) : Prop :=
  w.heap[g]? = some (.cells #[.slice A n c, .int .i64 p] t (0, 0))
section
variable {w w' : World} {t : TypeId} {g n c : Nat} {A : Option Addr} {p : Int}
theorem Rbox.lt (q : Rbox w t g A n c p) : g < w.heap.size := lt_of_heap q
theorem Rbox.c0 (q : Rbox w t g A n c p) : w.cell? ⟨g, 0, none⟩ = some (.slice A n c) := by rw [cell_of_row w g 0 _ _ (0, 0) q]; rfl
theorem Rbox.c1 (q : Rbox w t g A n c p) : w.cell? ⟨g, 1, none⟩ = some (.int .i64 p) := by rw [cell_of_row w g 1 _ _ (0, 0) q]; rfl
theorem Rbox.frozen (q : Rbox w t g A n c p) (j : Nat) : w.frozen? ⟨g, j, none⟩ = false := frozen_of_row w g j _ _ q
theorem Rbox.drew (q : Rbox w t g A n c p) : Rbox w.drew t g A n c p := q
theorem Rbox.below {B : Nat} (q : Rbox w t g A n c p) (hb : Below B w w') (hg : g < B) : Rbox w' t g A n c p := (hb.block g hg).trans q
theorem Rbox.alloc (q : Rbox w t g A n c p) (o : Obj) : Rbox (w.alloc o) t g A n c p := (Below.heap_alloc w o g q.lt).trans q
theorem Rbox.set1 (q : Rbox w t g A n c p) (p' : Int) : Rbox (w.setCell ⟨g, 1, none⟩ (.int .i64 p')) t g A n c p' := heap_setCell_same w g 1 _ _ _ q
theorem Rbox.set0 {D : Option Addr} {m d : Nat} (q : Rbox w t g A n c p) : Rbox (w.setCell ⟨g, 0, none⟩ (.slice D m d)) t g D m d p := heap_setCell_same w g 0 _ _ _ q
theorem Rbox.far (q : Rbox w t g A n c p) {k : Nat} (hk : g ≠ k) (j : Nat) (u : Value) : Rbox (w.setCell ⟨k, j, none⟩ u) t g A n c p := (Below.heap_setCell w ⟨k, j, none⟩ u g hk).trans q
end

theorem jgset0 {w w' : World} {g : Nat} (h : w.grownBy w' (some g)) (j : Nat) (u : Value) : w.grownBy (w'.setCell ⟨g, j, none⟩ u) (some g) :=
  ⟨h.os, h.tape, h.output, by simpa [World.setCell] using h.size, fun i hi hne => (Below.heap_setCell w' ⟨g, j, none⟩ u i (by rintro rfl; exact hne rfl)).trans (h.block i hi hne)⟩
theorem jgrefl (w : World) (g : Nat) : w.grownBy w (some g) := ⟨rfl, rfl, rfl, Nat.le_refl _, fun _ _ _ => rfl⟩
theorem gdrew {w w' : World} {g : Nat} (h : w.grownBy w' (some g)) : w.grownBy w'.drew (some g) := ⟨h.os, h.tape, h.output, h.size, h.block⟩
theorem gthen {w wr w' : World} {g : Nat} (h : w.grownBy wr (some g)) (k : wr.grownBy w' (some g)) : w.grownBy w' (some g) :=
  ⟨k.os.trans h.os, k.tape.trans h.tape, k.output.trans h.output, Nat.le_trans h.size k.size, fun i hi hne => (k.block i (Nat.lt_of_lt_of_le hi h.size) hne).trans (h.block i hi hne)⟩
theorem gbelow {w wr w' : World} {g B : Nat} (h : w.grownBy wr (some g)) (k : Below B wr w') (hB : w.heap.size ≤ B) : w.grownBy w' (some g) :=
  ⟨k.os.trans h.os, k.tape.trans h.tape, k.output.trans h.output, Nat.le_trans h.size k.size, fun i hi hne => (k.block i (Nat.lt_of_lt_of_le hi hB)).trans (h.block i hi hne)⟩
theorem below_of_grown {w w' : World} {g : Nat} (h : w.grownBy w' (some g)) (hg : g ≤ w.heap.size) : Below g w w' :=
  ⟨h.os, h.tape, h.output, h.size, fun i hi => h.block i (by omega) (by intro e; injection e with e; omega)⟩

theorem join_byte (V x : Nat) (hV : V < 72057594037927936) (hx : x < 256) : bits BinOp.or IntKind.u64 ((V : Int) * 256) (x : Int) = ((256 * V + x : Nat) : Int) := by
  have e := u64_or_nat (V * 256) x (by omega) (by omega)
  rw [nat_join 8 _ _ (by omega) (by omega)] at e
  rw [show 256 * V + x = V * 256 + x by omega, ← e]
  congr 1

theorem part_one {xs : List Nat} {p k x : Nat} (h : xs[p + k]? = some x) : bn ((xs.drop p).take (k + 1)) = 256 * bn ((xs.drop p).take k) + x := bn_take (by rw [List.getElem?_drop]; exact h)
theorem part_lt {xs : List Nat} {p k m : Nat} (h : ∀ x ∈ xs, x < 256) (hk : k ≤ m) : bn ((xs.drop p).take k) < 256 ^ m := by
  have e := bn_lt (xs := (xs.drop p).take k) (fun x hx => take_mem h hx)
  exact Nat.lt_of_lt_of_le e (Nat.pow_le_pow_right (by omega) (by rw [List.length_take]; omega))

set_option maxHeartbeats 1600000 in
theorem next_short {w : World} {g n c p z : Nat} {A : Option Addr} (hq : Rbox w 120 g A n c (p : Int)) (hz : n < p + z) (hp : p ≤ n) (_hz8 : z ≤ 8) (hn : n ≤ 140737488355328) :
    Calls Try.prog 74 #[.pointer (some ⟨g, 0, none⟩), .int .i64 (z : Int)] w fun e w' => e = .returned (.tuple #[.int .u64 0, .bool false]) ∧ Hid (Rbox w' 120 g A n c (p : Int)) ∧ Hid (w.grownBy w' (some g)) := by
  have H := hid hq
  have q0 := hq.c0
  have q1 := hq.c1
  have hw1 : IntKind.i64.wrap ((n : Int) - (p : Int)) = (n : Int) - (p : Int) := IntWalk.i64_in _ (by omega)
  clear hq
  go_enter Try.func74, Try.ntmps74
  go_wp2_with fail
  go_region
  all_goals
    go_wp2
    go_ret2
    exact ⟨rfl, H.out.drew, gdrew (jgrefl w g)⟩

set_option maxHeartbeats 3200000 in
theorem next_any {w : World} {B g n c p z : Nat} {A : Option Addr} {xs : List Nat} (hq : Rbox w 120 g A n c (p : Int)) (hby : By w B A n c xs) (hB : B ≤ g) (hz : p + z ≤ n) (hz8 : z ≤ 8) :
    Calls Try.prog 74 #[.pointer (some ⟨g, 0, none⟩), .int .i64 (z : Int)] w fun e w' => e = .returned (.tuple #[.int .u64 (bn ((xs.drop p).take z) : Nat), .bool true]) ∧ Hid (Rbox w' 120 g A n c ((p + z : Nat) : Int)) ∧ Hid (w.grownBy w' (some g)) := by
  have H := hid hq
  have HX := hid hby
  have hmax := hby.max
  have hcap := hby.cap
  have q0 := hq.c0
  have q1 := hq.c1
  have hw1 : IntKind.i64.wrap ((n : Int) - (p : Int)) = (n : Int) - (p : Int) := IntWalk.i64_in _ (by omega)
  clear hq hby
  go_enter Try.func74, Try.ntmps74
  go_wp2_with fail
  go_region
  all_goals
    go_wp2_with fail
    go_loopw [4, 21] (fun a i wr => ∃ k V : Nat, k ≤ z ∧ i = .int .i64 k ∧ a = .int .u64 (V : Int) ∧ Hid (V = bn ((xs.drop p).take k)) ∧ Hid (Rbox wr 120 g A n c ((p + k : Nat) : Int)) ∧ Hid (w.grownBy wr (some g))) (fun _ i _ => z - (intOf i).toNat)
    case atStart => exact ⟨0, 0, by omega, rfl, rfl, hid rfl, H.out.drew, gdrew (jgrefl w g)⟩
    case round =>
      obtain ⟨k, V, hk, rfl, rfl, hV, hR, hb⟩ := hrel
      by_cases hcon : k < z
      · obtain ⟨x, hx⟩ : ∃ x, xs[p + k]? = some x := ⟨xs[p + k]'(by rw [HX.out.len]; omega), List.getElem?_eq_getElem _⟩
        have hx256 := HX.out.lt x (List.mem_of_getElem? hx)
        have hVl : V < 72057594037927936 := by
          rw [hV.out]
          exact Nat.lt_of_lt_of_le (part_lt (m := 7) HX.out.lt (by omega)) (by decide)
        have hor := join_byte V x hVl hx256
        have hnext : Hid (256 * V + x = bn ((xs.drop p).take (k + 1))) := hid (by rw [part_one hx, hV.out])
        have hnl : 256 * V + x < 18446744073709551616 := by omega
        obtain ⟨b, off, rfl, hbB, hc⟩ := HX.out.at_ (by omega)
        have hcell := hb.out.cell (hc _ x hx) (by intro e; injection e with e; have e2 : b = g := e; omega)
        obtain ⟨q, hqk⟩ : ∃ q, q = p + k := ⟨_, rfl⟩
        have hql : q < n := by omega
        have Hq1 : Hid (q + 1 = p + (k + 1)) := hid (by omega)
        rw [← hqk] at hcell hR
        have r0 := hR.out.c0
        have r1 := hR.out.c1
        have f1 := hR.out.frozen 1
        have hw2 : IntKind.i64.wrap ((q : Int) + 1) = (q : Int) + 1 := IntWalk.i64_in _ (by omega)
        generalize 256 * V + x = U at *
        clear hc hx hqk
        go_wp2_with fail
        go_region
        all_goals
          go_wp2
          go_roundw
          case rel => exact ⟨k + 1, U, by omega, by go_num, rfl, hnext, hid (by rw [← Hq1.out]; exact hR.out.set1 _), hid (jgset0 (gdrew hb.out) 1 _)⟩
          case measure => simp [intOf]; omega
      · obtain rfl : k = z := by omega
        go_wp2
        go_ret2
        exact ⟨by rw [← hV.out]; rfl, hR, hb⟩

end Go.Proofs.Ytbankbehfjogpaa

