/- Ether, the program: turn, mayTurn. -/
import Derived.Test.YtbpijlghdpflgaaDoorYtu
import Derived.Test.YtbpijlghdpflgaaDoorYst
import Derived.StillTailTactics
namespace Go.Proofs.YtbpijlghdpflgaaDoor.Eth
open Go.RowKit Go.Shelf Go.Lib
attribute [local go_sem] Oper.semAt_some

/-- The bytes t lie in block tb, from off on. -/
def Txt (w : World) (tb off : Nat) (t : List Nat) : Prop := ∃ cur, w.heap[tb]? = some (.cells cur 5 (0, 0)) ∧ off + t.length ≤ cur.size ∧ ∀ (j b : Nat), t[j]? = some b → cur[off + j]? = some (.int .u8 (b : Int))
theorem Txt.at {w w' : World} {tb off : Nat} {t : List Nat} (h : Txt w tb off t) (e : w'.heap[tb]? = w.heap[tb]?) : Txt w' tb off t := by
  obtain ⟨cur, h1, h2, h3⟩ := h
  exact ⟨cur, e.trans h1, h2, h3⟩
theorem Txt.lt {w : World} {tb off : Nat} {t : List Nat} (h : Txt w tb off t) : tb < w.heap.size := by
  obtain ⟨cur, h1, _⟩ := h
  exact lt_of_heap h1
theorem Txt.cell {w : World} {tb off : Nat} {t : List Nat} (h : Txt w tb off t) {j b : Nat} (hj : t[j]? = some b) : w.cell? ⟨tb, off + j, none⟩ = some (.int .u8 (b : Int)) := by
  obtain ⟨cur, h1, h2, h3⟩ := h
  exact (cell_of_row w tb _ cur _ (0, 0) h1).trans (h3 j b hj)
theorem Txt.frozen {w : World} {tb off : Nat} {t : List Nat} (h : Txt w tb off t) (j : Nat) : w.frozen? ⟨tb, j, none⟩ = false := by
  obtain ⟨cur, h1, _⟩ := h
  exact frozen_of_row w tb j cur _ h1
theorem Txt.set {w : World} {tb off : Nat} {t : List Nat} (h : Txt w tb off t) {i : Nat} (hi : i < t.length) (z : Nat) : Txt (w.setCell ⟨tb, off + i, none⟩ (.int .u8 (z : Int))) tb off (t.set i z) := by
  obtain ⟨cur, h1, h2, h3⟩ := h
  refine ⟨_, heap_setCell_same w tb (off + i) cur _ _ h1, by rw [List.length_set, Array.size_setIfInBounds]; exact h2, fun j b hj => ?_⟩
  rw [Array.getElem?_setIfInBounds]
  by_cases hij : i = j
  · subst hij
    rw [List.getElem?_set_self hi] at hj
    injection hj with hj
    rw [if_pos rfl, if_pos (by omega), hj]
  · rw [List.getElem?_set_ne hij] at hj
    rw [if_neg (by omega)]
    exact h3 j b hj
theorem KeepS.on {S : Nat → Prop} {w w' w2 : World} (h : KeepS S w w') (k : KeepS S w' w2) : KeepS S w w2 :=
  ⟨k.os.trans h.os, k.tape.trans h.tape, k.output.trans h.output, Nat.le_trans h.size k.size, fun q hq hn => (k.block q (Nat.lt_of_lt_of_le hq h.size) hn).trans (h.block q hq hn)⟩
theorem KeepS.grown {S : Nat → Prop} {w w' w2 : World} {r : Option Nat} (h : KeepS S w w') (k : w'.grownBy w2 r) (hr : ∀ q, r = some q → w.heap.size ≤ q) : KeepS S w w2 :=
  ⟨k.os.trans h.os, k.tape.trans h.tape, k.output.trans h.output, Nat.le_trans h.size k.size, fun q hq hn => (k.block q (Nat.lt_of_lt_of_le hq h.size) (fun e => by have := hr q e.symm; omega)).trans (h.block q hq hn)⟩
theorem KeepS.of_below {S : Nat → Prop} {w w' : World} (h : Below w.heap.size w w') : KeepS S w w' := ⟨h.os, h.tape, h.output, h.size, fun q hq _ => h.block q hq⟩
theorem drew_heap (w : World) : w.drew.heap = w.heap := rfl

/-- What the loop keeps. -/
structure TuI (w : World) (tb off a : Nat) (t s : List Nat) (X : World) : Prop where
  txt : Txt X tb off (fo t a s)
  keep : KeepS (fun k => k = tb) w X
/-- What turn leaves. -/
def TrnR (w : World) (tb off : Nat) (t : List Nat) (e : Ending) (w' : World) : Prop := e = .returned (.tuple #[]) ∧ Hid (Txt w' tb off t ∧ KeepS (fun k => k = tb) w w')

/-- A round's end. -/
theorem tu_next {w X : World} {tb off a i z N : Nat} {t s s' : List Nat} {K : Nat → Prop} {Ix : Nat → List Nat → World → Prop} {b' : Act} (h : TuI w tb off a t s X) (hi : i < (fo t a s).length) (he : fo t a s' = (fo t a s).set i z) (hK : ¬ K tb) :
    outE N K (TuI w tb off a t) Ix s' X .normal b' (X.setCell ⟨tb, off + i, none⟩ (.int .u8 (z : Int))).drew := by
  have q := gq_set X tb (off + i) (.int .u8 (z : Int))
  refine ⟨((KeepsOthers.setCell _ ⟨tb, off + i, none⟩ _).trans (KeepsOthers.drew _)).from _, ⟨Nat.le_of_eq q.size, fun b hb => q.block b (fun e => hK (e ▸ hb))⟩, ⟨?_, ?_⟩⟩
  · rw [he]
    exact (h.txt.set hi z).at rfl
  · exact ⟨q.os.trans h.keep.os, q.tape.trans h.keep.tape, q.output.trans h.keep.output, Nat.le_trans h.keep.size (Nat.le_of_eq q.size), fun k hk hn => (q.block k hn).trans (h.keep.block k hk hn)⟩

set_option maxRecDepth 100000 in
set_option maxHeartbeats 4000000 in
theorem turn_any {w : World} {tb off a m c : Nat} {t : List Nat} (h : Txt w tb off t) (hf : ∀ b ∈ t, b < 256) (hn : t.length ≤ 50000) (hft : fits t.length (a : Int) m) (hm : m < 4294967296) (hT : Tab w) (htb : tb ≠ 0) :
    Calls Tryd.prog 25 #[.slice (some ⟨tb, off, none⟩) t.length c, .int .i64 (a : Int), .int .u32 (m : Int)] w (TrnR w tb off (trn t a m 32)) := by
  have ha : a ≤ 1000000 := by have := hft.1.2; omega
  have HF := hid hf
  have HFT := hid (fun (k : Nat) (h1 : k < 32) (h2 : one m k) => show a + k < 8 * t.length from by have := hft.2.2 k h1 h2; omega)
  have HX := hid h
  have HT := hid hT
  have htz := h.lt
  clear h hf hft hT
  obtain ⟨n, hnl⟩ : ∃ n, n = t.length := ⟨_, rfl⟩
  rw [← hnl] at hn HFT ⊢
  have HN := hid hnl
  clear hnl
  refine (callsIn_wide (n := 9)).1 ?_
  refine callsIn_of_wp_marks Tryd.func25 rfl trivial (wpIn_wide.2 ?_) rfl
  simp only [Tryd.ntmps25, List.size_toArray, List.length_cons, List.length_nil, Nat.reduceAdd, Nat.reduceSub, Array.replicate_succ, Array.replicate_zero, List.push_toArray, List.append_toArray, List.nil_append, List.cons_append]
  obtain ⟨W, hW⟩ : ∃ W, W = w.alloc (.cells #[.slice (some ⟨tb, off, none⟩) n c] 26) := ⟨_, rfl⟩
  have B0 := hid (show Below w.heap.size w W from hW ▸ (Below.refl _ w).alloc (Nat.le_refl _) _)
  have Z0 := hid (show W.heap.size = w.heap.size + 1 by rw [hW]; simp)
  have X0 := hid (show W.heap[w.heap.size]? = some (.cells #[.slice (some ⟨tb, off, none⟩) n c] 26 (0, 0)) from hW ▸ heap_alloc_new w _)
  have HW := hid hW
  clear hW
  go_upto_region 1 with fail
  rw [← HW.out]
  go_wp2_with fail
  refine (turning_any (a : Int) m W).mono ?_
  rintro e W2 ⟨rfl, hW2⟩
  have B2 := hid (show Below W.heap.size W W2 from hW2 ▸ below_two W _ _)
  have Z2 := hid (show W2.heap.size = W.heap.size + 1 + 1 by rw [hW2]; simp)
  have c1 : W2.cell? ⟨W.heap.size + 1, 0, none⟩ = some (.int .u32 (m : Int)) := by
    rw [cell_of_row W2 _ _ #[.int .u32 (m : Int)] _ (0, 0) (hW2 ▸ (heap_two W _ _).2)]
    rfl
  have c2 : W2.cell? ⟨W.heap.size, 0, none⟩ = some (.int .i64 (a : Int)) := by
    rw [cell_of_row W2 _ _ #[.int .i64 (a : Int)] _ (0, 0) (hW2 ▸ (heap_two W _ _).1)]
    rfl
  have BW := hid (show Below w.heap.size w W2 from gbelow_on B0.out (Nat.le_refl _) B2.out)
  have HT2 := hid (HT.out.below BW.out HT.out.lt)
  have X2 := hid ((B2.out.block _ (lt_of_heap X0.out)).trans X0.out)
  have CM := hid (turning_comes 8 (by omega) hm ha c1 c2 HT2.out)
  have I0 : TuI W2 tb off a t [] W2 := ⟨HX.out.at (BW.out.block _ htz), KeepS.refl _ _⟩
  have hgt : 0 < W2.heap.size := HT2.out.lt
  clear hW2 c1 c2
  go_wp2_with fail
  refine wpIn_wide.1 (range_overE (F := Fence.wide) (n := 9) (gf := 42) (bd := #[]) (lb := #[.pointer (some ⟨W.heap.size + 1, 0, none⟩), .pointer (some ⟨W.heap.size, 0, none⟩)]) rfl (by omega) rfl trivial (enters_of Tryd.func42 (by kernel_rfl) rfl)
    (K := fun b => b = W.heap.size + 1 ∨ b = W.heap.size ∨ b = 0) (fun b hb => by have := Z2.out; rcases hb with h | h | h <;> omega)
    CM.out (fun _ => rfl) (TuI W2 tb off a t) (fun _ _ _ => False) ?keep (fun _ _ _ _ _ h _ _ _ => h) I0
    (fun k a' _ => a' = Act.mk (#[.slice (some ⟨tb, off, none⟩) n c, .int .i64 (a : Int), .int .u32 (m : Int), .pointer (some ⟨w.heap.size, 0, none⟩), undef, undef, .int .i64 ((a : Int) + (k : Int)), .int .i64 (a : Int), .int .u32 (m : Int),
      .func (.func 42) #[] #[.pointer (some ⟨W.heap.size + 1, 0, none⟩), .pointer (some ⟨W.heap.size, 0, none⟩)], .int .i64 ((a : Int) + (k : Int)), undef, undef, undef, undef, undef, undef, undef, undef, undef, undef]) [])
    (fun _ _ _ _ h _ => h) ?assign ?body ?done (fun _ _ _ _ h _ => h.elim))
  case keep =>
    rintro s X Y r ⟨h1, h2⟩ hg hr
    have hz := BW.out.size
    have hr2 : ∀ q, r = some q → W2.heap.size ≤ q := fun q e => by
      rcases hr with rfl | rfl | rfl
      · cases e
      · injection e with e; omega
      · injection e with e; omega
    exact ⟨h1.at (hg.block tb h1.lt (fun e => by have := hr2 tb e.symm; omega)), h2.grown hg hr2⟩
  case assign =>
    intro l pre k X K' hgd hX hI hK'
    have HK' := hid hK'
    have HI := hid hI
    clear hK' hI hX
    gi_wp2
    exact HK'.out _ _ (KeepsFrom.of_grownBy (row := none) (World.grownBy.refl _ _) (fun _ h => by cases h)) (Kb.refl _ _) HI.out rfl
  case body =>
    rintro l pre k a' X hgd hX hI rfl
    obtain ⟨hk32, hko⟩ := hgd k (by simp)
    have hak := HFT.out k hk32 hko
    have HI := hid hI
    have hbx : X.heap[w.heap.size]? = some (.cells #[.slice (some ⟨tb, off, none⟩) n c] 26 (0, 0)) := (hI.keep.block _ (lt_of_heap X2.out) (show ¬ w.heap.size = tb by omega)).trans X2.out
    have k0 : X.cell? ⟨w.heap.size, 0, none⟩ = some (.slice (some ⟨tb, off, none⟩) n c) := by
      rw [cell_of_row X _ _ _ _ (0, 0) hbx]
      rfl
    obtain ⟨i, hi⟩ : ∃ i, i = (a + k) / 8 := ⟨_, rfl⟩
    obtain ⟨j, hj⟩ : ∃ j, j = (a + k) % 8 := ⟨_, rfl⟩
    have hin : i < n := by omega
    have hj8 : j < 8 := by omega
    have hln := hid (show (fo t a pre).length = n by rw [fo_len, HN.out])
    obtain ⟨x, hx⟩ : ∃ x, (fo t a pre)[i]? = some x := ⟨_, List.getElem?_eq_getElem (by rw [hln.out]; exact hin)⟩
    have hx256 := fo_fit HF.out a pre x (List.mem_of_getElem? hx)
    have k1 := hI.txt.cell hx
    have z1 := hI.txt.frozen (off + i)
    have hd1 : ((a : Int) + (k : Int)) / 8 = (i : Int) := by omega
    have hd2 : ((a : Int) + (k : Int)) % 8 = (j : Int) := by omega
    have hd3 : (a + k) / 8 = i := hi.symm
    have hwi : IntKind.i64.wrap (i : Int) = (i : Int) := by rw [IntKind.wrap_i64]; omega
    have hwj : IntKind.i64.wrap (j : Int) = (j : Int) := by rw [IntKind.wrap_i64]; omega
    have hiz : (i : Int) < (n : Int) := by omega
    have hiz0 : (0 : Int) ≤ (i : Int) := by omega
    have hd5 : ((a : Int) + (k : Int)).tdiv 8 = (i : Int) := by rw [Int.tdiv_eq_ediv_of_nonneg (by omega)]; exact hd1
    have hd6 : ((a : Int) + (k : Int)).tmod 8 = (j : Int) := by rw [Int.tmod_eq_emod_of_nonneg (by omega)]; exact hd2
    have hbx2 : bits BinOp.xor IntKind.u8 (x : Int) (2 ^ j % 256) = ((x ^^^ 2 ^ j : Nat) : Int) := xor_u8 hx256 hj8
    have hbx3 : bits BinOp.xor IntKind.u8 (x : Int) (IntKind.u8.wrap (2 ^ j)) = ((x ^^^ 2 ^ j : Nat) : Int) := hbx2
    have HIL := hid (show i < (fo t a pre).length by rw [hln.out]; exact hin)
    have HKB := hid (show ¬ (tb = W.heap.size + 1 ∨ tb = W.heap.size ∨ tb = 0) from fun h => by have := Z0.out; rcases h with h | h | h <;> omega)
    have HE := hid (show fo t a (pre ++ [k]) = (fo t a pre).set i (x ^^^ 2 ^ j) from by
      rw [fo_snoc]
      unfold tn1
      rw [← hi, ← hj, List.getD_eq_getElem?_getD, hx]
      rfl)
    clear hI hbx hi hj hx hx256 hgd hko hak
    gi_wp2_with fail
    refine region_still_in 10 (by kernel_rfl) (by kernel_rfl) (by kernel_rfl) (by rintro ⟨a, w, h⟩; exact h) ?_
    simp only [List.take_succ_cons, List.take_zero, List.drop_succ_cons, List.drop_zero]
    repeat still_step
    try refine wpStill_nil ?_
    change wpList _ _ _ _ _ X.drew
    go_wp2
    exact tu_next HI.out HIL.out HE.out HKB.out
  case done =>
    intro xs X hxs hI hK
    have g2 := grownBy_putObj' X W2.heap.size (.deferred none)
    have I2 : TuI W2 tb off a t xs (X.putObj W2.heap.size (.deferred none)) := ⟨hI.txt.at (g2.block tb hI.txt.lt (fun e => by injection e with e; have := BW.out.size; omega)), hI.keep.grown g2 (fun q e => by injection e with e; omega)⟩
    have HK := hid hK
    have HI2 := hid I2
    have HXS := hid (hxs t a)
    clear hK hI I2 hxs g2
    go_wp2_with fail
    refine ⟨by simp, .inl ⟨_, _, rfl, run_takeDeferred HK.out, ?_⟩⟩
    refine ⟨_, results_none rfl _ _ _, rfl, hid ⟨by rw [← HXS.out]; exact HI2.out.txt, (KeepS.of_below BW.out).on HI2.out.keep⟩⟩
end Go.Proofs.YtbpijlghdpflgaaDoor.Eth
