/- Ether: the document's Twin. -/
import Derived.Test.YtbpijlghdpflgaaDoorYow
namespace Go.Proofs.YtbpijlghdpflgaaDoor.Eth
open Go.RowKit Go.Shelf Go.Lib

/-- What Twin leaves. -/
def TwinR (w : World) (n : Nat) (l : List Cp) (e : Ending) (w' : World) : Prop := ∃ A' c' rs, e = .returned (.slice A' n c') ∧ Hid (Cow w' (fun q => w.heap.size ≤ q) A' n c' rs l ∧ Below w.heap.size w w')
/-- What Twin has behind k copies. -/
structure TwI (w : World) (B : Nat) (v : Value) (rs : List Cr) (l : List Cp) (X : World) : Prop where
  row : Gw X B 28 4 v l.length (cellsC rs)
  pair : Pair X X.heap.size rs l
  txt : ∀ r ∈ rs, Tow X (fun q => B ≤ q) r
  bel : Below B w X
theorem TwI.kept {w X Y : World} {B : Nat} {v : Value} {rs : List Cr} {l : List Cp} (h : TwI w B v rs l X) (hb : Below X.heap.size X Y) (hB : Below B w Y) : TwI w B v rs l Y :=
  ⟨h.row.below hb, (h.pair.below hb).mono hb.size, fun r hr => (h.txt r hr).kept (Keep8.of_below hb), hB⟩
theorem TwI.snoc {w X Y : World} {B : Nat} {v v' : Value} {rs : List Cr} {m : List Cp} {r : Cr} {p : Cp} (h : TwI w B v rs m X) (hB : B ≤ X.heap.size) (T : TurnG X Y B 28 4 v v' (m.length + 1) (cellsC rs ++ cellsC [r])) (ht : Tow X (fun q => B ≤ q) r) (hc : Crd X X.heap.size r p) :
    TwI w B v' (rs ++ [r]) (m ++ [p]) Y := by
  have k8 : Keep8 (fun q => B ≤ q) X Y := Keep8.grown T.grown (fun g hg => Gw.rowC h.row g hg)
  refine ⟨?_, ⟨by rw [List.length_append, List.length_append, h.pair.1]; rfl, fun j a b ha hb => ?_⟩, fun q hq => ?_, h.bel.trans (T.below h.row hB)⟩
  · rw [List.length_append, cellsC_append]
    exact T.own
  · have := (h.pair.snoc hc).2 j a b ha hb
    refine Tow.crd (S := fun q => B ≤ q) ?_ this k8
    rcases List.mem_append.1 (List.mem_of_getElem? ha) with h1 | h1
    · exact h.txt a h1
    · obtain rfl : a = r := by simpa using h1
      exact ht
  · rcases List.mem_append.1 hq with h1 | h1
    · exact (h.txt q h1).kept k8
    · obtain rfl : q = r := by simpa using h1
      exact ht.kept k8
/-- A text of its own, behind a store into another block. -/
theorem own_text {w2 w3 : World} {B g n c : Nat} {A : Option Addr} {t : List Nat} {x y : Int} {s : Bool} (h : Gw w2 B 5 1 (.slice A n c) n (cellsB t)) (q : Gq g w2 w3) (hg : g < B) (hf : ∀ b ∈ t, b < 256) :
    Tow w3 (fun k => B ≤ k) (x, y, (A, n, c), s) ∧ Crd w3 w3.heap.size (x, y, (A, n, c), s) (x, y, t, s) := by
  have hT : Tow w2 (fun k => B ≤ k) (x, y, (A, n, c), s) := fun h0 => by
    rcases h.own.2 with ⟨e, e0⟩ | ⟨b, cap, cur, e, hB, hh, hm, _, hs, _⟩
    · exact absurd h0 (by rw [e0]; exact Nat.lt_irrefl 0)
    · injection e with e1 e2 e3
      subst e1 e3
      exact ⟨b, 0, cur, rfl, hB, hh, by show 0 + n ≤ _; omega⟩
  have k8 : Keep8 (fun k => B ≤ k) w2 w3 := ⟨Nat.le_of_eq q.size, fun k cur hk _ => q.block k (fun e => by omega)⟩
  obtain ⟨A', c', e, hG, _⟩ := h.form
  injection e with e1 e2 e3
  subst e1 e3
  exact ⟨hT.kept k8, hT.crd (Crd.in_ hG hf) k8⟩

set_option maxHeartbeats 6400000 in
set_option maxRecDepth 100000 in
theorem twin_any {w : World} {B n c : Nat} {A : Option Addr} {l : List Cp} (h : Cls w B A n c l) (hB : B ≤ w.heap.size) (hn : n ≤ 1000) (hT : ∀ p ∈ l, p.2.2.1.length ≤ 50000) :
    Calls Tryd.prog 14 #[.slice A n c] w (TwinR w n l) := by
  have H := hid (h.mono hB)
  have hl := hid h.len
  have hcap := h.cap
  have HT := hid hT
  clear h hB hT
  go_enter Tryd.func14, Tryd.ntmps14
  go_wp2
  go_loopg [3, 4] n (fun gg s3 s4 wr => ∃ (kk : Nat) (v : Value) (rs : List Cr), kk ≤ n ∧ n - kk ≤ gg ∧ s4 = .int .i64 kk ∧ v = s3 ∧ Hid (TwI w w.heap.size v rs (l.take kk) wr))
  case atStart => exact ⟨0, _, [], Nat.zero_le _, by omega, rfl, rfl, hid ⟨Gw.nil _ _ _ _, Pair.nil _ _, by simp, Below.refl _ _⟩⟩
  case round =>
    obtain ⟨kk, v, rs, hkk, hg, rfl, rfl, HI⟩ := hrel
    by_cases hlt : kk < n
    · have hltz : (kk : Int) < (n : Int) := by omega
      obtain ⟨b, off, x, y, A', n', c', t, s, rfl, hb, hp, c0, c1, c2, c3, ht, hf⟩ := (H.out.below HI.out.bel).get hlt
      have HP := hid hp
      have HTX := hid ht
      have hn' : n' ≤ 50000 := by have := HT.out _ (List.mem_of_getElem? hp); simp only at this; have := ht.blen; omega
      have HF := hid hf
      have hsz := HI.out.bel.size
      clear hp ht hf
      obtain ⟨W1, hW1⟩ : ∃ W1, W1 = (wr.alloc (.cells #[.int .i64 x, .int .i64 y, .slice A' n' c', .bool s] 28)).alloc (.cells #[] 5) := ⟨_, rfl⟩
      have b1 := hid (show Below wr.heap.size wr W1 from hW1 ▸ below_two wr _ _)
      have x1 := hid (show Cbx W1 wr.heap.size x y A' n' c' s from hW1 ▸ (heap_two wr _ _).1)
      have r1 := hid (show W1.heap[wr.heap.size + 1]? = some (.cells #[] 5 (0, 0)) from hW1 ▸ (heap_two wr _ _).2)
      have z1 := hid (show W1.heap.size = wr.heap.size + 1 + 1 by rw [hW1]; simp)
      have O1 := hid (show Gw W1 (wr.heap.size + 1) 5 1 (.slice (some ⟨wr.heap.size + 1, 0, none⟩) 0 0) 0 [] from Gw.none' r1.out (Nat.le_refl _) (by unfold maxLen; omega) rfl)
      have HTX1 := hid (HTX.out.below (b1.out.mono hsz))
      have HW1 := hid hW1
      clear hW1
      go_wp2_with (first
        | (at_builtin
           rw [← HW1.out]
           refine list_appB (v := .slice (some ⟨wr.heap.size + 1, 0, none⟩) 0 0) rfl _ _ rfl rfl rfl O1.out HTX1.out (by omega) (by have := z1.out; omega) ?_
           intro v2 w2 T2
           rw [Nat.zero_add, List.nil_append] at T2
           have b2 := hid (T2.out.below O1.out (by have := z1.out; omega))
           have x2 := hid (x1.out.below b2.out (by omega))
           obtain ⟨A2, c2', rfl, g2, m2, a2, o2⟩ := T2.out.own.form)
        | (refine gput_cell (P := Tryd.prog) rfl _ (.tmp 20) (.tmp 19) rfl wr.heap.size 2 (.slice A2 n' c2') 28 _ #[.int .i64 x, .int .i64 y, .slice A2 n' c2', .bool s] rfl rfl rfl sizeB8 x2.out (show (2 : Nat) < 4 by decide) rfl ?_
           intro w3 x3 q3
           have X3 := hid (show Cbx w3 wr.heap.size x y A2 n' c2' s from x3)
           have d0 := X3.out.c0
           have d1 := X3.out.c1
           have d2 := X3.out.c2
           have d3 := X3.out.c3
           have B3 := hid (q3.bel (b1.out.trans (b2.out.mono (Nat.le_succ _))) (Nat.le_refl _))
           have T3 := hid (own_text (x := x) (y := y) (s := s) T2.out.own q3 (Nat.lt_succ_self _) HF.out)
           have q3 := hid q3
           have b4 := hid ((Below.refl w3.heap.size w3).alloc (Nat.le_refl _) (.cells #[.int .i64 x, .int .i64 y, .slice A2 n' c2', .bool s] 28))
           have I4 := hid (HI.out.kept (gbelow_on B3.out (Nat.le_refl _) b4.out) (gbelow_on (gbelow_on HI.out.bel (Nat.le_refl _) B3.out) (Nat.le_refl _) b4.out))
           have G4 := hid (Gs.new (cs := cellsC [(x, y, (A2, n', c2'), s)]) (k := 4) (n := 1) (c := 1) (B := w3.heap.size + 1) (heap_alloc_new w3 (.cells #[.int .i64 x, .int .i64 y, .slice A2 n' c2', .bool s] 28)) (Nat.lt_succ_self _) rfl (Nat.le_refl _) (by omega))
           clear x3)
        | (at_builtin
           refine list_appC (v := v) (cs := cellsC rs) (rs := [(x, y, (A2, n', c2'), s)]) rfl _ _ rfl rfl rfl I4.out.row G4.out (by rw [List.length_take]; omega) I4.out.bel.size ?_
           intro v5 w5 T5
           have K8 := hid (Keep8.of_below (S := fun q => w.heap.size ≤ q) b4.out)
           have I5 := hid (I4.out.snoc I4.out.bel.size (by rw [List.length_take, hl.out, Nat.min_eq_left (by omega)] at T5; rw [List.length_take, hl.out, Nat.min_eq_left (by omega)]; exact T5.out) ((T3.out.1.mono (fun q (hq : wr.heap.size + 1 ≤ q) => by omega)).kept K8.out) (T3.out.2.on (Nat.le_refl _) b4.out)))
        | fail)
      go_roundg (n - (kk + 1))
      case measure => omega
      case rel => exact ⟨kk + 1, v5, _, by omega, by omega, by go_num, rfl, hid (by rw [take_cp HP.out]; exact I5.out)⟩
    · have hltz : ¬ (kk : Int) < (n : Int) := by omega
      obtain rfl : kk = n := by omega
      obtain ⟨h1, h2, h3, h4⟩ := HI.out
      rw [List.take_of_length_le (by rw [hl.out]; exact Nat.le_refl _)] at h1 h2
      have hln := hl.out
      rw [hln] at h1
      obtain ⟨A2, c2, rfl, g2, m2, a2, o2⟩ := h1.form
      have R := hid (show Cow wr (fun q => w.heap.size ≤ q) A2 kk c2 rs l from ⟨g2, h2, h3, fun h0 => by
        rcases h1.own.2 with ⟨e, e0⟩ | ⟨g, cap, cur, e, hB, hh, hm, _, hs, _⟩
        · omega
        · injection e with e1 e2 e3
          subst e1 e3
          exact ⟨g, 0, cur, rfl, hB, hh, by omega⟩⟩)
      have BW := hid h4
      clear h1 h2 h3 h4 g2 hln
      go_wp2
      go_ret
      exact ⟨A2, c2, rs, rfl, hid ⟨R.out, BW.out⟩⟩
end Go.Proofs.YtbpijlghdpflgaaDoor.Eth
