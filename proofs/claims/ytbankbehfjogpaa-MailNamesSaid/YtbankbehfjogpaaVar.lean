/- Package mail: the reader. -/
/- Package mail: the writer. -/
/- What a mail's kind uses: the program's used. -/
/- Words of mails: which may be, and which are the same. -/
/- A mail that lies, as a mail. -/
import Derived.Test.YtbankbehfjogpaaVam
import Derived.Test.YtbankbehfjogpaaVap
import Derived.Test.YtbankbehfjogpaaVaq
import Derived.Test.YtbankbehfjogpaaVao
import Derived.Test.YtbankbehfjogpaaVah
import Derived.Test.YtbankbehfjogpaaVai

namespace Go.Proofs.Ytbankbehfjogpaa
open Go.RowKit Go.Shelf Go.Lib
set_option maxRecDepth 100000

/-- What is read, up to where, and whether there was a fault. -/
structure Rst where
  xs : List Nat
  p : Nat
  ft : Bool
def rnR (s : Rst) (z : Nat) : Nat × Rst := if s.p + z ≤ s.xs.length then (bn ((s.xs.drop s.p).take z) % 256 ^ z, ⟨s.xs, s.p + z, s.ft⟩) else (0, ⟨[], 0, true⟩)
def rfR (s : Rst) : Bool × Rst := (decide ((rnR s 1).1 = 1), ⟨(rnR s 1).2.xs, (rnR s 1).2.p, (rnR s 1).2.ft || decide (1 < (rnR s 1).1)⟩)
def rdR (s : Rst) : Ddy × Rst := if dE (s.xs.drop s.p) = 0 then (⟨decide (sgOf (s.xs.drop s.p) = 1), cntOf (s.xs.drop s.p), limOf (s.xs.drop s.p), expOf (s.xs.drop s.p)⟩, ⟨s.xs, s.p + (4 + 4 * cntOf (s.xs.drop s.p)), s.ft⟩) else (d0z, ⟨[], 0, true⟩)
def Wrd : Walker Rst := ⟨fun s _ z => rnR s z, fun s _ => rfR s, fun s _ => rdR s⟩
/-- The reader in its box. -/
def Rea (g : Nat) (s : Rst) (w : World) : Prop := ∃ A n c, w.heap[g]? = some (.cells #[.slice A n c, .int .i64 (s.p : Int), .bool s.ft] 66 (0, 0)) ∧ By w g A n c s.xs ∧ s.p ≤ s.xs.length
theorem By.blocks {w w' : World} {B n c : Nat} {A : Option Addr} {xs : List Nat} (h : By w B A n c xs) (hb : ∀ b, b < B → b < w.heap.size → w'.heap[b]? = w.heap[b]?) : By w' B A n c xs :=
  ⟨h.len, h.cap, h.max, h.lt, h.nil, fun hn => by
    obtain ⟨b, off, rfl, hB, hc⟩ := h.at_ hn
    refine ⟨b, off, rfl, hB, fun j x hj => ?_⟩
    have h1 := hc j x hj
    have hl : b < w.heap.size := by
      rcases Nat.lt_or_ge b w.heap.size with hl | hl
      · exact hl
      · have e : w.heap[b]? = none := Array.getElem?_eq_none hl
        simp [World.cell?, e] at h1
    exact (World.cell?_of_block (a := ⟨b, off + j, none⟩) (hb b hB hl)).trans h1⟩

set_option maxHeartbeats 3200000 in
theorem rgo_any {g : Nat} {w : World} {u0 u1 : Value} {ft : Bool} (hg : w.heap[g]? = some (.cells #[u0, u1, .bool ft] 66 (0, 0))) (A : Option Addr) (n c : Nat) (p er : Int) :
    Calls Try.prog 56 #[.pointer (some ⟨g, 0, none⟩), .agg #[.slice A n c, .int .i64 p], .int .i64 er] w fun e w' => e = .returned (.tuple #[]) ∧
      Hid (w'.heap[g]? = some (.cells #[.slice A n c, .int .i64 p, .bool (ft || decide (er ≠ 0))] 66 (0, 0))) ∧ Hid (Ex (fun b => b = g) w w') := by
  have hl := lt_of_heap hg
  obtain ⟨w1, hw1⟩ : ∃ w1, w1 = w.alloc (.cells #[.slice A n c, .int .i64 p] 64) := ⟨_, rfl⟩
  have B0 := hid (show Below w.heap.size w w1 from hw1 ▸ (Below.refl _ w).alloc (Nat.le_refl _) _)
  have R0 : Hid (w1.heap[w.heap.size]? = some (.cells #[.slice A n c, .int .i64 p] 64 (0, 0))) := hid (hw1 ▸ heap_alloc_new w _)
  have hg1 := (B0.out.block g hl).trans hg
  have Hg := hid hg1
  have HW := hid hw1
  have Hl := hid hl
  have hne : ¬ w.heap.size = g := by omega
  have c0 := row_c R0.out 0
  have c1 := row_c R0.out 1
  have y0 := row_c hg1 0
  have y1 := row_c hg1 1
  have y2 := row_c hg1 2
  have f0 := row_f hg1 0
  have f1 := row_f hg1 1
  have f2 := row_f hg1 2
  have EB := hid (show Ex (fun b => b = g) w w1 from Ex.of_below B0.out)
  have ES := hid (show ∀ X j v, Ex (fun b => b = g) w X → Ex (fun b => b = g) w (X.setCell ⟨g, j, none⟩ v) from fun X j v h => ⟨h.os, h.tape, h.output, by simpa [World.setCell] using h.size, fun b hb hn => (Below.heap_setCell X ⟨g, j, none⟩ v b hn).trans (h.block b hb hn)⟩)
  clear hw1 hg hg1 hl
  by_cases he : er = 0
  · subst he
    have HR := hid (heap_setCell_same _ g 1 _ _ (.int .i64 p) (heap_setCell_same w1 g 0 _ _ (.slice A n c) Hg.out))
    go_enter Try.func56, Try.ntmps56
    go_upto_region 1 with fail
    rw [← HW.out]
    clear HW
    go_wp2
    go_end0
    refine ⟨rfl, hid ?_, hid (ES.out _ _ _ (ES.out _ _ _ EB.out))⟩
    have := HR.out
    cases ft <;> exact this
  · have hen : (er != 0) = true := by simpa using he
    have hd : decide (er ≠ 0) = true := by simpa using he
    have Hd := hid hd
    have HR := hid (heap_setCell_same _ g 1 _ _ (.int .i64 p) (heap_setCell_same _ g 0 _ _ (.slice A n c) (heap_setCell_same w1 g 2 _ _ (.bool true) Hg.out)))
    clear hd he
    go_enter Try.func56, Try.ntmps56
    go_upto_region 1 with fail
    rw [← HW.out]
    clear HW
    go_wp2
    go_end0
    refine ⟨rfl, hid ?_, hid (ES.out _ _ _ (ES.out _ _ _ (ES.out _ _ _ EB.out)))⟩
    rw [Hd.out, Bool.or_true]
    exact HR.out

set_option maxHeartbeats 6400000 in
theorem rnum_any {g : Nat} {w : World} {s : Rst} (h : Rea g s w) (V : Int) (z : Nat) (h1 : 1 ≤ z) (h4 : z ≤ 4) (zi : Int) (hzi : (z : Int) = zi) :
    Calls Try.prog 27 #[.pointer (some ⟨g, 0, none⟩), .int .u64 V, .int .i64 zi] w fun e w' => e = .returned (.int .u64 ((rnR s z).1 : Int)) ∧ Hid (Rea g (rnR s z).2 w') ∧ Hid (Ex (fun b => b = g) w w') := by
  obtain ⟨A, n, c, hg, hB, hp⟩ := h
  obtain ⟨xs, p, ft⟩ := s
  dsimp only at hg hB hp
  have hl := lt_of_heap hg
  have hlen := hB.len
  have CN := hid (Number_s (hB.mono (Nat.le_of_lt hl)) (p : Int) zi)
  have c0 := row_c hg 0
  have c1 := row_c hg 1
  have Hg := hid hg
  have HB := hid hB
  have Hl := hid hl
  have Hp := hid hp
  have HLen := hid hlen
  have HZ := hid hzi
  clear hg hB hl hp hlen hzi
  go_enter Try.func27, Try.ntmps27
  go_wp2_with fail
  refine CN.out.mono ?_
  rintro e w1 ⟨A', n', c', V', er, p', rfl, her, hA, hA0, hp', hV', hb⟩
  have Hg1 := hid ((hb.out.block g Hl.out).trans Hg.out)
  obtain ⟨w2, hw2⟩ : ∃ w2, w2 = w1.alloc (.cells #[.slice A' n' c', .int .i64 p'] 64) := ⟨_, rfl⟩
  have B2 := hid (show Below w.heap.size w w2 from hb.out.trans (hw2 ▸ (Below.refl _ w1).alloc hb.out.size _))
  have R2 : Hid (w2.heap[w1.heap.size]? = some (.cells #[.slice A' n' c', .int .i64 p'] 64 (0, 0))) := hid (hw2 ▸ heap_alloc_new w1 _)
  have Hg2 := hid ((B2.out.block g Hl.out).trans Hg.out)
  have CG := hid (rgo_any Hg2.out A' n' c' p' er)
  have HW := hid hw2
  clear c0 c1 CN hw2
  go_upto_region 2 with fail
  rw [← HW.out]
  clear HW
  have c0 := row_c R2.out 0
  have c1 := row_c R2.out 1
  go_wp2_with fail
  refine CG.out.mono ?_
  rintro e w3 ⟨rfl, hg3, hE⟩
  have HE := hid ((Ex.of_below B2.out (G := fun b => b = g)).trans hE.out)
  clear c0 c1 CG hE
  go_wp2
  go_ret
  have hl := Hl.out
  have hlen := HLen.out
  have hp := Hp.out
  have hz := HZ.out
  have hers := her.out
  unfold nE at hers
  rw [if_neg (by omega), if_neg (by omega)] at hers
  by_cases hf : p + z ≤ xs.length
  · rw [if_neg (by omega)] at hers
    obtain ⟨rfl, rfl, rfl⟩ := hA.out hers
    have e1 := hp'.out
    have e2 := hV'.out
    have e3 := hg3.out
    subst hers
    rw [if_pos rfl] at e1 e2
    have hmod : bn ((xs.drop p).take z) % 256 ^ z = bn ((xs.drop p).take z) := Nat.mod_eq_of_lt (Nat.lt_of_lt_of_le (bn_lt fun x hx => HB.out.lt x (List.mem_of_mem_drop (List.mem_of_mem_take hx))) (Nat.pow_le_pow_right (by omega) (by rw [List.length_take]; omega)))
    have hr : rnR ⟨xs, p, ft⟩ z = (bn ((xs.drop p).take z), ⟨xs, p + z, ft⟩) := (if_pos hf).trans (by rw [hmod])
    rw [hr]
    refine ⟨?_, hid ⟨A', n', c', ?_, HB.out.blocks fun b hb hbl => HE.out.block b hbl (by omega), hf⟩, HE⟩
    · show Ending.returned (.int .u64 (V' : Int)) = .returned (.int .u64 ((bn ((xs.drop p).take z) : Nat) : Int))
      rw [e2, show (p : Int).toNat = p by omega, show zi.toNat = z by omega]
    · rw [e3, e1, ← hz]
      cases ft <;> rfl
  · rw [if_pos (by omega)] at hers
    have hne : er ≠ 0 := by omega
    obtain ⟨rfl, rfl, rfl⟩ := hA0.out hne
    have e1 := hp'.out
    have e2 := hV'.out
    have e3 := hg3.out
    rw [if_neg hne] at e1 e2
    have hr : rnR ⟨xs, p, ft⟩ z = (0, ⟨[], 0, true⟩) := if_neg hf
    rw [hr]
    refine ⟨?_, hid ⟨none, 0, 0, ?_, By.nul _ _, Nat.zero_le _⟩, HE⟩
    · show Ending.returned (.int .u64 (V' : Int)) = .returned (.int .u64 ((0 : Nat) : Int))
      rw [e2]
    · rw [e3, e1, decide_eq_true hne, Bool.or_true]
      rfl

set_option maxHeartbeats 3200000 in
theorem rflag_any {g : Nat} {w : World} {s : Rst} (h : Rea g s w) (b : Bool) :
    Calls Try.prog 28 #[.pointer (some ⟨g, 0, none⟩), .bool b] w fun e w' => e = .returned (.bool (rfR s).1) ∧ Hid (Rea g (rfR s).2 w') ∧ Hid (Ex (fun b => b = g) w w') := by
  have CN := hid (rnum_any h 0 1 (by omega) (by omega) 1 rfl)
  obtain ⟨V, hV⟩ : ∃ V, V = (rnR s 1).1 := ⟨_, rfl⟩
  obtain ⟨s1, hs1⟩ : ∃ s1, s1 = (rnR s 1).2 := ⟨_, rfl⟩
  have hq : rfR s = (decide (V = 1), ⟨s1.xs, s1.p, s1.ft || decide (1 < V)⟩) := by rw [hV, hs1]; rfl
  rw [hq]
  rw [← hV, ← hs1] at CN
  clear hq hV hs1 h
  go_enter Try.func28, Try.ntmps28
  go_wp2_with fail
  refine CN.out.mono ?_
  rintro e w1 ⟨rfl, hR, hE⟩
  obtain ⟨A, n, c, hg, hB, hp⟩ := hR.out
  have Hg := hid hg
  have HB := hid hB
  have Hp := hid hp
  have f2 := row_f hg 2
  have y2 := row_c hg 2
  have hgl := lt_of_heap hg
  have ES := hid (show Ex (fun b => b = g) w (w1.setCell ⟨g, 2, none⟩ (.bool true)) from ⟨hE.out.os, hE.out.tape, hE.out.output, by simpa [World.setCell] using hE.out.size, fun b hb hn => (Below.heap_setCell w1 ⟨g, 2, none⟩ _ b hn).trans (hE.out.block b hb hn)⟩)
  have HS := hid (heap_setCell_same w1 g 2 _ _ (.bool true) hg)
  clear hg hB hp hR
  by_cases h1 : 1 < V
  · have h1z : decide ((1 : Int) < (V : Int)) = true := decide_eq_true (by omega)
    have h2z : ((V : Int) == 1) = false := by simp; omega
    have H1 := hid h1
    clear h1
    go_wp2
    go_ret
    refine ⟨?_, hid ⟨A, n, c, ?_, HB.out.blocks fun b hb _ => Below.heap_setCell w1 ⟨g, 2, none⟩ _ b (by show b ≠ g; omega), Hp.out⟩, ES⟩
    · rw [decide_eq_false (show ¬ V = 1 by have := H1.out; omega)]
      simp
    · have := HS.out
      rw [decide_eq_true H1.out, Bool.or_true]
      exact this
  · have h1z : decide ((1 : Int) < (V : Int)) = false := decide_eq_false (by omega)
    have H1 := hid h1
    clear h1
    by_cases h2 : V = 1
    · have h2z : ((V : Int) == 1) = true := by simp; omega
      have H2 := hid h2
      clear h2
      go_wp2
      go_ret
      refine ⟨?_, hid ⟨A, n, c, ?_, HB.out, Hp.out⟩, hE⟩
      · rw [decide_eq_true H2.out]
        simp
      · rw [decide_eq_false H1.out, Bool.or_false]
        exact Hg.out
    · have h2z : ((V : Int) == 1) = false := by simp; omega
      have H2 := hid h2
      clear h2
      go_wp2
      go_ret
      refine ⟨?_, hid ⟨A, n, c, ?_, HB.out, Hp.out⟩, hE⟩
      · rw [decide_eq_false H2.out]
        simp
      · rw [decide_eq_false H1.out, Bool.or_false]
        exact Hg.out

set_option maxHeartbeats 6400000 in
theorem rdyad_any {g : Nat} {w : World} {s : Rst} (h : Rea g s w) (D0 : Dy) :
    Calls Try.prog 29 #[.pointer (some ⟨g, 0, none⟩), dyv D0] w fun e w' => ∃ D, e = .returned (dyv D) ∧ Hid (DV D (rdR s).1) ∧ Hid (Mk w' 34 w.heap.size D.A D.n D.c D.f) ∧ Hid (Rea g (rdR s).2 w') ∧ Hid (Ex (fun b => b = g) w w') := by
  obtain ⟨A, n, c, hg, hB, hp⟩ := h
  obtain ⟨xs, p, ft⟩ := s
  dsimp only at hg hB hp
  have hl := lt_of_heap hg
  obtain ⟨w0, hw0⟩ : ∃ w0, w0 = (w.alloc (.cells #[.bool D0.s, .slice D0.A D0.n D0.c, .int .i64 D0.x] 24)).alloc (.cells #[.bool false, .slice none 0 0, .int .i64 0] 24) := ⟨_, rfl⟩
  have B0 := hid (show Below w.heap.size w w0 from hw0 ▸ ((Below.refl _ w).alloc (Nat.le_refl _) _).alloc (by simp) _)
  have Z0 : Hid (Dbox w0 (w.heap.size + 1) false (.slice none 0 0) 0) := hid (hw0 ▸ heap_alloc2_new w _ _)
  have hg0 := (B0.out.block g hl).trans hg
  have CN := hid (Dyad_s ((hB.below (B0.out.mono (Nat.le_of_lt hl))).mono (Nat.le_trans (Nat.le_of_lt hl) B0.out.size)) (p : Int))
  have HW0 := hid hw0
  have c0 := row_c hg0 0
  have c1 := row_c hg0 1
  have Hg := hid hg0
  have HB := hid hB
  have Hl := hid hl
  have Hp := hid hp
  have HLen := hid hB.len
  clear hg hB hl hp hw0 hg0
  go_enter Try.func29, Try.ntmps29
  go_upto_region 1 with fail
  rw [← HW0.out]
  clear HW0
  go_wp2_with fail
  refine CN.out.mono ?_
  rintro e w1 ⟨A', n', c', p', sg, D, k, d, x, er, f, rfl, her, hA, hA0, hp', hM, hgood, hbad, hb⟩
  have Z1 := hid (Z0.out.below hb.out Z0.out.lt)
  have B1 := hid (B0.out.trans (hb.out.mono B0.out.size))
  have Hg1 := hid ((hb.out.block g (lt_of_heap Hg.out)).trans Hg.out)
  obtain ⟨w2, hw2⟩ : ∃ w2, w2 = (w1.alloc (.cells #[.slice A' n' c', .int .i64 p'] 64)).alloc (.cells #[.bool sg, .slice D k d, .int .i64 x] 24) := ⟨_, rfl⟩
  have K2 := hid (show Below w1.heap.size w1 w2 from hw2 ▸ ((Below.refl _ w1).alloc (Nat.le_refl _) _).alloc (by simp) _)
  have R2 : Hid (w2.heap[w1.heap.size]? = some (.cells #[.slice A' n' c', .int .i64 p'] 64 (0, 0))) := hid (hw2 ▸ (Below.heap_alloc _ _ _ (by simp)).trans (heap_alloc_new w1 _))
  have D2 : Hid (Dbox w2 (w1.heap.size + 1) sg (.slice D k d) x) := hid (hw2 ▸ heap_alloc2_new w1 _ _)
  have Z2 := hid (Z1.out.below K2.out Z1.out.lt)
  have M2 := hid ((hM.out.below K2.out (Nat.le_refl _)).mono (B' := w.heap.size) B0.out.size)
  have B2 := hid (B1.out.trans (K2.out.mono B1.out.size))
  have Hg2 := hid ((K2.out.block g (lt_of_heap Hg1.out)).trans Hg1.out)
  have CG := hid (rgo_any Hg2.out A' n' c' p' er)
  have HW := hid hw2
  have hs1 := hid (show w.heap.size + 1 < w1.heap.size from Z1.out.lt)
  clear c0 c1 CN hw2 hM hb
  go_upto_region 2 with fail
  rw [← HW.out]
  clear HW
  have c0 := row_c R2.out 0
  have c1 := row_c R2.out 1
  go_wp2_with fail
  refine CG.out.mono ?_
  rintro e w3 ⟨rfl, hg3, hE⟩
  have hgl := Hl.out
  have hs1' := hs1.out
  have HE := hid ((Ex.of_below B2.out (G := fun b => b = g)).trans hE.out)
  have D3 := hid (show Dbox w3 (w1.heap.size + 1) sg (.slice D k d) x from hE.out.heap D2.out (by omega))
  have Z3 := hid (show Dbox w3 (w.heap.size + 1) false (.slice none 0 0) 0 from hE.out.heap Z2.out (by omega))
  have M3 := hid (show Mk w3 34 w.heap.size D k d f from ⟨M2.out.cap, M2.out.max, M2.out.lt, M2.out.out, M2.out.own.imp id (by rintro ⟨b, cs, hA, hb, hh, hs, hc⟩; exact ⟨b, cs, hA, hb, hE.out.heap hh (by omega), hs, hc⟩)⟩)
  have b0 := D3.out.c0
  have b1 := D3.out.c1
  have b2 := D3.out.c2
  have e0 := Z3.out.c0
  have e1 := Z3.out.c1
  have e2 := Z3.out.c2
  have f0 := Z3.out.frozen 0
  have f1 := Z3.out.frozen 1
  have f2 := Z3.out.frozen 2
  clear c0 c1 CG hE
  go_wp2
  refine ret_one rfl (by rfl) rfl Z3.out.store ⟨⟨sg, D, k, d, x, f⟩, rfl, ?_⟩
  have M4 := hid (show Mk (((w3.setCell ⟨w.heap.size + 1, 0, none⟩ (.bool sg)).setCell ⟨w.heap.size + 1, 1, none⟩ (.slice D k d)).setCell ⟨w.heap.size + 1, 2, none⟩ (.int .i64 x)) 34 w.heap.size D k d f from
    ⟨M3.out.cap, M3.out.max, M3.out.lt, M3.out.out, M3.out.own.imp id (by
      rintro ⟨b, cs, hA, hb, hh, hs, hc⟩
      refine ⟨b, cs, hA, hb, (oth3 (fun e => ?_) 0 1 2 _ _ _).trans hh, hs, hc⟩
      subst e
      have hz := Z3.out
      unfold Dbox at hz
      rw [hz] at hh
      injection hh with hh
      injection hh with _ ht
      exact absurd ht (by decide))⟩)
  have E4 := hid (ex_put3 HE.out (g := w.heap.size + 1) (by omega) 0 1 2 (.bool sg) (.slice D k d) (.int .i64 x))
  have hg4 := (oth3 (w := w3) (b := g) (g := w.heap.size + 1) (by omega) 0 1 2 (.bool sg) (.slice D k d) (.int .i64 x)).trans hg3.out
  have hers := her.out
  unfold dEr at hers
  have hp := Hp.out
  have hlen := HLen.out
  rw [if_pos (by omega), show (p : Int).toNat = p by omega] at hers
  by_cases h0 : dE (xs.drop p) = 0
  · rw [h0] at hers
    obtain ⟨rfl, rfl, rfl⟩ := hA.out hers
    obtain ⟨q1, q2, q3, q4⟩ := hgood.out hers
    have e1 := hp'.out
    rw [if_pos hers, show (p : Int).toNat = p by omega] at e1
    rw [show (p : Int).toNat = p by omega] at q1 q2 q3 q4
    have hr : rdR ⟨xs, p, ft⟩ = (⟨decide (sgOf (xs.drop p) = 1), cntOf (xs.drop p), limOf (xs.drop p), expOf (xs.drop p)⟩, ⟨xs, p + (4 + 4 * cntOf (xs.drop p)), ft⟩) := if_pos h0
    rw [hr]
    have hbnd : 4 + 4 * cntOf (xs.drop p) ≤ (xs.drop p).length := by
      unfold dE at h0
      split at h0
      · exact absurd h0 (by decide)
      · omega
    rw [List.length_drop] at hbnd
    refine ⟨hid ⟨q1, q2, q3, q4⟩, M4, hid ⟨A', n', c', ?_, HB.out.blocks fun b hb hbl => E4.out.block b hbl (by omega), ?_⟩, E4⟩
    · rw [hg4, e1, hers]
      have e5 : (p : Int) + (4 + 4 * (cntOf (xs.drop p) : Int)) = ((p + (4 + 4 * cntOf (xs.drop p)) : Nat) : Int) := by omega
      rw [e5]
      cases ft <;> rfl
    · show p + (4 + 4 * cntOf (xs.drop p)) ≤ xs.length
      omega
  · have hne : er ≠ 0 := by rw [hers]; exact h0
    obtain ⟨rfl, rfl, rfl⟩ := hA0.out hne
    obtain ⟨q1, q2, q3, q4, q5, q6⟩ := hbad.out hne
    have e1 := hp'.out
    rw [if_neg hne] at e1
    have hr : rdR ⟨xs, p, ft⟩ = (d0z, ⟨[], 0, true⟩) := if_neg h0
    rw [hr]
    refine ⟨hid ⟨q1, q3, q5, q6⟩, M4, hid ⟨none, 0, 0, ?_, By.nul _ _, Nat.zero_le _⟩, E4⟩
    rw [hg4, e1, decide_eq_true hne, Bool.or_true]
    rfl
theorem rnR_lt (s : Rst) {z : Nat} (h4 : z ≤ 4) : (rnR s z).1 < 4294967296 := by
  unfold rnR
  split
  · exact Nat.lt_of_lt_of_le (Nat.mod_lt _ (Nat.pow_pos (by decide))) (Nat.le_trans (Nat.pow_le_pow_right (by omega) h4) (by decide))
  · decide
theorem rnR_one (s : Rst) : (rnR s 1).1 < 256 := by
  unfold rnR
  split
  · exact Nat.mod_lt _ (by decide)
  · decide
end Go.Proofs.Ytbankbehfjogpaa


namespace Go.Proofs.Ytbankbehfjogpaa
open Go.RowKit Go.Shelf Go.Lib
set_option maxRecDepth 100000

/-- What PutNumber comes to. -/
def pnR (xs : List Nat) (V z : Nat) : List Nat := if (1 ≤ z ∧ z ≤ 8 ∧ V < 256 ^ z) ∧ xs.length + z ≤ 3900 then xs ++ be V z else []
theorem PutNumber_r {w : World} {n c : Nat} {A : Option Addr} {xs : List Nat} (h : By w w.heap.size A n c xs) (V z : Nat) (hV : V ≤ 18446744073709551615) (zi : Int) (hzi : (z : Int) = zi) :
    Calls Try.prog 46 #[.slice A n c, .int .u64 (V : Int), .int .i64 zi] w fun e w' => ∃ (v : Value) (er : Int), e = .returned (.tuple #[v, .int .i64 er]) ∧ Hid (Ow w' w.heap.size v (pnR xs V z)) ∧ Hid (Below w.heap.size w w') := by
  subst hzi
  have hlen := h.len
  by_cases h1 : 1 ≤ z ∧ z ≤ 8 ∧ V < 256 ^ z
  · by_cases h2 : xs.length + z ≤ 3900
    · have e : pnR xs V z = xs ++ be V z := if_pos ⟨h1, h2⟩
      rw [e]
      exact (PutNumber_fits h h1.1 h1.2.1 h1.2.2 hV (by omega)).mono fun _ _ ⟨v, he, ho, hb⟩ => ⟨v, 0, he, ho, hb⟩
    · have e : pnR xs V z = [] := if_neg (fun hh => h2 hh.2)
      rw [e]
      exact (PutNumber_many h1.1 h1.2.1 h1.2.2 hV (by omega) h.max).mono fun _ _ ⟨he, hw⟩ => ⟨_, 4, he, hid (Ow.nil _ _), hid (hw ▸ Below.refl _ _)⟩
  · have e : pnR xs V z = [] := if_neg (fun hh => h1 hh.1)
    rw [e]
    exact (PutNumber_arg (by rw [Int.toNat_natCast]; omega) hV).mono fun _ _ ⟨he, hw⟩ => ⟨_, 2, he, hid (Ow.nil _ _), hid (hw ▸ Below.refl _ _)⟩
open Classical in
/-- What PutDyad comes to. -/
noncomputable def pdR (xs : List Nat) (d : Ddy) : List Nat := if DMay d.s d.n d.f (d.x : Int) ∧ xs.length + (4 + 4 * d.n) ≤ 3900 then xs ++ dfx d else []
theorem PutDyad_r {w : World} {n c : Nat} {A : Option Addr} {xs : List Nat} (h : By w w.heap.size A n c xs) {D : Dy} {d : Ddy} (hd : DV D d) (hr : Rd w w.heap.size D.A D.n D.c D.f) :
    Calls Try.prog 47 #[.slice A n c, dyv D] w fun e w' => ∃ (v : Value) (er : Int), e = .returned (.tuple #[v, .int .i64 er]) ∧ Hid (Ow w' w.heap.size v (pdR xs d)) ∧ Hid (Below w.heap.size w w') := by
  obtain ⟨h1, h2, h3, h4⟩ := hd
  obtain ⟨s, B, m, e, x, f⟩ := D
  obtain ⟨s', m', f', x'⟩ := d
  dsimp only at h1 h2 h3 h4 hr ⊢
  subst h1 h2 h3 h4
  have hlen := h.len
  by_cases hm : DMay s m f (x' : Int)
  · by_cases h2 : xs.length + (4 + 4 * m) ≤ 3900
    · have e : pdR xs ⟨s, m, f, x'⟩ = xs ++ dfx ⟨s, m, f, x'⟩ := if_pos ⟨hm, h2⟩
      rw [e]
      exact (PutDyad_fits h hr hm (by omega)).mono fun _ _ ⟨v, he, ho, hb⟩ => ⟨v, 0, he, ho, hb⟩
    · have e : pdR xs ⟨s, m, f, x'⟩ = [] := if_neg (fun hh => h2 hh.2)
      rw [e]
      exact (PutDyad_many hr hm (by omega) h.max).mono fun _ _ ⟨he, hb⟩ => ⟨_, 4, he, hid (Ow.nil _ _), hb⟩
  · have e : pdR xs ⟨s, m, f, x'⟩ = [] := if_neg (fun hh => hm hh.1)
    rw [e]
    exact (PutDyad_bad hr hm).mono fun _ _ ⟨he, hb⟩ => ⟨_, 8, he, hid (Ow.nil _ _), hb⟩
/-- The writer: what is written so far. -/
noncomputable def Wwr : Walker (List Nat) := ⟨fun xs V z => (V, pnR xs V z), fun xs b => (b, pnR xs (flg b) 1), fun xs d => (d, pdR xs d)⟩
/-- The writer in its box. -/
def Wri (g : Nat) (xs : List Nat) (w : World) : Prop := ∃ v, w.heap[g]? = some (.cells #[v] 55 (0, 0)) ∧ Ow w (g + 1) v xs
theorem Ow.blocks {w w' : World} {B : Nat} {v : Value} {xs : List Nat} (h : Ow w B v xs) (hb : ∀ b cs, B ≤ b → w.heap[b]? = some (.cells cs 5 (0, 0)) → w'.heap[b]? = w.heap[b]?) : Ow w' B v xs := by
  refine ⟨⟨h.1.1, ?_⟩, h.2⟩
  rcases h.1.2 with h0 | ⟨k, cap, cur, e, hk, hh, hr⟩
  · exact .inl h0
  · exact .inr ⟨k, cap, cur, e, hk, (hb k cur hk hh).trans hh, hr⟩
/-- What a call of the writer leaves. -/
theorem wri_ex {g : Nat} {w w1 : World} {xs : List Nat} {u v : Value} (hg : w.heap[g]? = some (.cells #[u] 55 (0, 0))) (hb : Below w.heap.size w w1) (hO : Ow w1 w.heap.size v xs) :
    Wri g xs (w1.setCell ⟨g, 0, none⟩ v) ∧ Ex (fun b => b = g) w (w1.setCell ⟨g, 0, none⟩ v) := by
  have hl := lt_of_heap hg
  have h1 : w1.heap[g]? = some (.cells #[u] 55 (0, 0)) := (hb.block g hl).trans hg
  refine ⟨⟨v, heap_setCell_same w1 g 0 _ _ v h1, (hO.mono (by omega)).blocks fun b cs hb1 _ => Below.heap_setCell _ _ _ b (by show b ≠ g; omega)⟩, ?_⟩
  exact ⟨hb.os, hb.tape, hb.output, by simpa [World.setCell] using hb.size, fun b hbl hne => (Below.heap_setCell w1 ⟨g, 0, none⟩ v b hne).trans (hb.block b hbl)⟩

set_option maxHeartbeats 3200000 in
theorem wnum_any {g : Nat} {w : World} {xs : List Nat} (h : Wri g xs w) (V z : Nat) (hV : V < 4294967296) (zi : Int) (hzi : (z : Int) = zi) :
    Calls Try.prog 21 #[.pointer (some ⟨g, 0, none⟩), .int .u64 (V : Int), .int .i64 zi] w fun e w' => e = .returned (.int .u64 (V : Int)) ∧ Hid (Wri g (pnR xs V z) w') ∧ Hid (Ex (fun b => b = g) w w') := by
  obtain ⟨v, hg, hO⟩ := h
  obtain ⟨A, c, rfl, hB⟩ := hO.shape
  have C := hid (PutNumber_r hB V z (by omega) zi hzi)
  have c0 := row_c hg 0
  have Hg := hid hg
  have f0 : Hid (∀ w1, Below w.heap.size w w1 → w1.frozen? ⟨g, 0, none⟩ = false ∧ w1.cell? ⟨g, 0, none⟩ = some (.slice A xs.length c)) := hid fun w1 hb => by
    have h1 := (hb.block g (lt_of_heap hg)).trans hg
    exact ⟨row_f h1 0, row_c h1 0⟩
  clear hg hO hB
  go_enter Try.func21, Try.ntmps21
  go_wp2_with fail
  refine C.out.mono ?_
  rintro e w1 ⟨v, er, rfl, hO1, hb1⟩
  obtain ⟨f1, f2⟩ := f0.out _ hb1.out
  obtain ⟨A', c', rfl, _⟩ := hO1.out.shape
  have HR := hid (wri_ex Hg.out hb1.out hO1.out)
  clear f0 c0
  go_wp2
  go_ret
  exact ⟨rfl, hid HR.out.1, hid HR.out.2⟩
theorem Wri.far {g k : Nat} {w w' : World} {xs : List Nat} {s : Bool} {v : Value} {x : Int} (h : Wri g xs w) (hk : Dbox w k s v x) (hne : k ≠ g) (hb : ∀ b, b ≠ k → w'.heap[b]? = w.heap[b]?) : Wri g xs w' := by
  obtain ⟨u, hg, hO⟩ := h
  refine ⟨u, (hb g (Ne.symm hne)).trans hg, hO.blocks fun b cs _ hbb => hb b ?_⟩
  rintro rfl
  unfold Dbox at hk
  rw [hk] at hbb
  injection hbb with hbb
  injection hbb with _ ht
  exact absurd ht (by decide)

set_option maxHeartbeats 3200000 in
theorem wflag_any {g : Nat} {w : World} {xs : List Nat} (h : Wri g xs w) (b : Bool) :
    Calls Try.prog 22 #[.pointer (some ⟨g, 0, none⟩), .bool b] w fun e w' => e = .returned (.bool b) ∧ Hid (Wri g (pnR xs (flg b) 1) w') ∧ Hid (Ex (fun b => b = g) w w') := by
  cases b with
  | false =>
    have C := hid (wnum_any h 0 1 (by omega) 1 rfl)
    clear h
    go_enter Try.func22, Try.ntmps22
    go_wp2_with fail
    refine C.out.mono ?_
    rintro e w1 ⟨rfl, h1, h2⟩
    go_wp2
    go_ret
    exact ⟨rfl, h1, h2⟩
  | true =>
    have C := hid (wnum_any h 1 1 (by omega) 1 rfl)
    clear h
    go_enter Try.func22, Try.ntmps22
    go_wp2_with fail
    refine C.out.mono ?_
    rintro e w1 ⟨rfl, h1, h2⟩
    go_wp2
    go_ret
    exact ⟨rfl, h1, h2⟩

set_option maxHeartbeats 6400000 in
theorem wdyad_any {g : Nat} {w : World} {xs : List Nat} (h : Wri g xs w) {D : Dy} {d : Ddy} (hd : DV D d) (hr : Rd w w.heap.size D.A D.n D.c D.f) :
    Calls Try.prog 23 #[.pointer (some ⟨g, 0, none⟩), dyv D] w fun e w' => e = .returned (dyv D) ∧ Hid (Wri g (pdR xs d) w') ∧ Hid (Ex (fun b => b = g) w w') := by
  obtain ⟨v, hg, hO⟩ := h
  obtain ⟨A, c, rfl, hB⟩ := hO.shape
  have hgl := lt_of_heap hg
  obtain ⟨w1, hw1⟩ : ∃ w1, w1 = (w.alloc (.cells #[.bool D.s, .slice D.A D.n D.c, .int .i64 D.x] 24)).alloc (.cells #[.bool false, .slice none 0 0, .int .i64 0] 24) := ⟨_, rfl⟩
  have B0 := hid (show Below w.heap.size w w1 from hw1 ▸ ((Below.refl _ w).alloc (Nat.le_refl _) _).alloc (by simp) _)
  have P0 : Hid (Dbox w1 w.heap.size D.s (.slice D.A D.n D.c) D.x) := hid (hw1 ▸ (Below.heap_alloc _ _ _ (by simp)).trans (heap_alloc_new w _))
  have P1 : Hid (Dbox w1 (w.heap.size + 1) false (.slice none 0 0) 0) := hid (hw1 ▸ heap_alloc2_new w _ _)
  have hg1 := (B0.out.block g hgl).trans hg
  have BX := hid (show Below w1.heap.size w1 w1.drew from (Below.refl _ w1).drew)
  have C := hid (show ∀ X, Below w1.heap.size w1 X → _ from fun X hb => PutDyad_r (w := X) ((hB.below (B0.out.trans (hb.mono B0.out.size))).mono (Nat.le_trans B0.out.size hb.size)) hd ((hr.below (B0.out.trans (hb.mono B0.out.size))).mono (Nat.le_trans B0.out.size hb.size)))
  have HW := hid hw1
  have Hg := hid hg
  have Hgl := hid hgl
  have c0 := row_c hg1 0
  have b0 := P0.out.c0
  have b1 := P0.out.c1
  have b2 := P0.out.c2
  have HR := hid (show ∀ X Y v, Below w1.heap.size w1 X → Below X.heap.size X Y → Ow Y X.heap.size v (pdR xs d) → Wri g (pdR xs d) (Y.setCell ⟨g, 0, none⟩ v) ∧ Ex (fun b => b = g) X (Y.setCell ⟨g, 0, none⟩ v) from fun X Y v hb hy ho => wri_ex ((hb.block g (lt_of_heap hg1)).trans hg1) hy ho)
  have HF := hid (show ∀ X, Below w1.heap.size w1 X → X.frozen? ⟨g, 0, none⟩ = false ∧ X.cell? ⟨g, 0, none⟩ = some (.slice A xs.length c) from fun X hb => have h1 := (hb.block g (lt_of_heap hg1)).trans hg1; ⟨row_f h1 0, row_c h1 0⟩)
  clear hw1 hg hO hB hgl hr hd hg1
  go_enter Try.func23, Try.ntmps23
  go_upto_region 1 with fail
  rw [← HW.out]
  clear HW
  go_region_law (first
    | (go_simp
       go_at_call 47
       refine (C.out _ BX.out).mono ?_
       rintro e w2 ⟨v, er, rfl, hO1, hb1⟩
       obtain ⟨A', c', rfl, _⟩ := hO1.out.shape
       obtain ⟨f1, f2⟩ := HF.out _ (BX.out.trans (hb1.out.mono BX.out.size))
       have HQ := hid (HR.out _ _ _ BX.out hb1.out hO1.out))
    | fail)
  all_goals
    have hgl := Hgl.out
    have KB := BX.out.trans (hb1.out.mono BX.out.size)
    have Q0 : Hid (Dbox _ w.heap.size D.s (.slice D.A D.n D.c) D.x) := hid (far1 (P0.out.below KB P0.out.lt) (show w.heap.size ≠ g by omega) 0 (.slice A' (pdR xs d).length c'))
    have Q1 : Hid (Dbox _ (w.heap.size + 1) false (.slice none 0 0) 0) := hid (far1 (P1.out.below KB P1.out.lt) (show w.heap.size + 1 ≠ g by omega) 0 (.slice A' (pdR xs d).length c'))
    have HQ1 := hid HQ.out.1
    have HQ2 := hid (((Ex.of_below B0.out).trans (Ex.refl _ w1).drew).trans HQ.out.2)
    clear KB HQ hO1 hb1 f1 f2 b0 b1 b2 c0 C HR HF
    generalize w2.setCell ⟨g, 0, none⟩ (.slice A' (pdR xs d).length c') = W2 at *
    have b0 := Q0.out.c0
    have b1 := Q0.out.c1
    have b2 := Q0.out.c2
    have e0 := Q1.out.c0
    have e1 := Q1.out.c1
    have e2 := Q1.out.c2
    have f0 := Q1.out.frozen 0
    have f1 := Q1.out.frozen 1
    have f2 := Q1.out.frozen 2
    go_wp2
    refine ret_one rfl (by rfl) rfl Q1.out.store ⟨rfl, ?_, ?_⟩
    · exact hid (HQ1.out.far Q1.out (by omega) (fun b hb => oth3 hb 0 1 2 _ _ _))
    · exact hid (ex_put3 HQ2.out (g := w.heap.size + 1) (by omega) 0 1 2 _ _ _)
theorem wlk_wr {g : Nat} (Ba : Nat) (hBa : Ba ≤ g) : Wlk Wwr (fun b => b = g) Ba (g + 1) (fun xs w => Wri g xs w ∧ Ba ≤ w.heap.size) (fun _ _ => True) 21 22 23 #[.pointer (some ⟨g, 0, none⟩)] where
  gB := fun b h => by subst h; omega
  ab := by omega
  dz := fun _ => trivial
  en := enters_of Try.func21 (by kernel_rfl) rfl
  ef := enters_of Try.func22 (by kernel_rfl) rfl
  ed := enters_of Try.func23 (by kernel_rfl) rfl
  inv := fun s w w' h ha => ⟨by
    obtain ⟨⟨v, hg, hO⟩, _⟩ := h
    exact ⟨v, (ha.block g (lt_of_heap hg) (.inl (by omega))).trans hg, hO.blocks fun b cs _ hb => ha.block b (lt_of_heap hb) (.inr fun cs' t ht e => by rw [hb] at e; injection e with e; injection e with _ e2; exact wty_u8 (e2 ▸ ht))⟩, Nat.le_trans h.2 ha.size⟩
  dal := fun _ _ _ _ _ => trivial
  dex := fun _ _ _ _ _ => trivial
  num := fun s w V z h _ hV _ _ => (wnum_any h.1 V z hV z rfl).mono (by rintro e w' ⟨rfl, h1, h2⟩; exact ⟨V, rfl, hid ⟨rfl, hV⟩, hid ⟨h1.out, Nat.le_trans h.2 h2.out.size⟩, h2⟩)
  flag := fun s w b h _ => (wflag_any h.1 b).mono (by rintro e w' ⟨rfl, h1, h2⟩; exact ⟨b, rfl, hid rfl, hid ⟨h1.out, Nat.le_trans h.2 h2.out.size⟩, h2⟩)
  dyad := fun s w D d h hB hd hr => (wdyad_any h.1 hd (hr.mono h.2)).mono (by rintro e w' ⟨rfl, h1, h2⟩; exact ⟨D, rfl, hid hd, hid trivial, hid ⟨h1.out, Nat.le_trans h.2 h2.out.size⟩, h2⟩)
end Go.Proofs.Ytbankbehfjogpaa


namespace Go.Proofs.Ytbankbehfjogpaa
open Go.RowKit Go.Shelf Go.Lib
set_option maxRecDepth 100000

def Wid : Walker Unit := ⟨fun s V _ => (V, s), fun s b => (b, s), fun s d => (d, s)⟩
theorem used1_any (V z : Int) (w : World) : Calls Try.prog 43 #[.int .u64 V, .int .i64 z] w fun e w' => e = .returned (.int .u64 V) ∧ w = w' := by
  go_enter Try.func43, Try.ntmps43
  go_wp2
  go_ret
  exact ⟨rfl, rfl⟩
theorem used2_any (b : Bool) (w : World) : Calls Try.prog 44 #[.bool b] w fun e w' => e = .returned (.bool b) ∧ w = w' := by
  go_enter Try.func44, Try.ntmps44
  go_wp2
  go_ret
  exact ⟨rfl, rfl⟩
set_option maxHeartbeats 1600000 in
theorem used3_any (D : Dy) (w : World) : Calls Try.prog 45 #[dyv D] w fun e w' => e = .returned (dyv D) ∧ Hid (Below w.heap.size w w') := by
  obtain ⟨w1, hw1⟩ : ∃ w1, w1 = (w.alloc (.cells #[.bool D.s, .slice D.A D.n D.c, .int .i64 D.x] 24)).alloc (.cells #[.bool false, .slice none 0 0, .int .i64 0] 24) := ⟨_, rfl⟩
  have B0 := hid (show Below w.heap.size w w1 from hw1 ▸ ((Below.refl _ w).alloc (Nat.le_refl _) _).alloc (by simp) _)
  have P0 : Hid (Dbox w1 w.heap.size D.s (.slice D.A D.n D.c) D.x) := hid (hw1 ▸ (Below.heap_alloc _ _ _ (by simp)).trans (heap_alloc_new w _))
  have P1 : Hid (Dbox w1 (w.heap.size + 1) false (.slice none 0 0) 0) := hid (hw1 ▸ heap_alloc2_new w _ _)
  have HW := hid hw1
  have b0 := P0.out.c0
  have b1 := P0.out.c1
  have b2 := P0.out.c2
  have e0 := P1.out.c0
  have e1 := P1.out.c1
  have e2 := P1.out.c2
  have f0 := P1.out.frozen 0
  have f1 := P1.out.frozen 1
  have f2 := P1.out.frozen 2
  clear hw1
  go_enter Try.func45, Try.ntmps45
  go_upto_region 1 with fail
  rw [← HW.out]
  clear HW
  go_wp2
  refine ret_one rfl (by rfl) rfl P1.out.store ⟨rfl, ?_⟩
  exact hid (below_put3 B0.out (by omega))

theorem lt_of_cell {w : World} {b j : Nat} {v : Value} (h : w.cell? ⟨b, j, none⟩ = some v) : b < w.heap.size := by
  rcases Nat.lt_or_ge b w.heap.size with hl | hl
  · exact hl
  · have e : w.heap[b]? = none := Array.getElem?_eq_none hl
    simp [World.cell?, e] at h
theorem Rd.blocks {w w' : World} {B n c : Nat} {A : Option Addr} {f : Nat → Nat} (h : Rd w B A n c f) (hb : ∀ b, b < B → b < w.heap.size → w'.heap[b]? = w.heap[b]?) : Rd w' B A n c f :=
  ⟨h.cap, h.max, h.lt, h.out, fun hn => by
    obtain ⟨b, off, rfl, hB, hc⟩ := h.at_ hn
    exact ⟨b, off, rfl, hB, fun j hj => (World.cell?_of_block (a := ⟨b, off + j, none⟩) (hb b hB (lt_of_cell (hc j hj)))).trans (hc j hj)⟩⟩
theorem wlk_id (B : Nat) : Wlk Wid (fun _ => False) B B (fun _ _ => True) (fun w D => Rd w B D.A D.n D.c D.f) 43 44 45 #[] where
  gB := fun b h => h.elim
  ab := Nat.le_refl _
  dz := fun w => Rd.nil w B
  en := enters_of Try.func43 (by kernel_rfl) rfl
  ef := enters_of Try.func44 (by kernel_rfl) rfl
  ed := enters_of Try.func45 (by kernel_rfl) rfl
  inv := fun _ _ _ h _ => h
  dal := fun w w' D h ha => h.blocks fun b hb hl => ha.block b hl (.inl hb)
  dex := fun w w' D h hx => h.blocks fun b _ hl => hx.block b hl (fun h => h)
  num := fun s w V z _ _ hV _ _ => (used1_any V z w).mono (by rintro e w' ⟨rfl, rfl⟩; exact ⟨V, rfl, hid ⟨rfl, hV⟩, hid trivial, hid (Ex.refl _ _)⟩)
  flag := fun s w b _ _ => (used2_any b w).mono (by rintro e w' ⟨rfl, rfl⟩; exact ⟨b, rfl, hid rfl, hid trivial, hid (Ex.refl _ _)⟩)
  dyad := fun s w D d _ _ hd hr => (used3_any D w).mono (by rintro e w' ⟨rfl, hb⟩; exact ⟨D, rfl, hid hd, hid (hr.blocks fun b _ hl => hb.out.block b hl), hid trivial, hid (Ex.of_below hb.out)⟩)
end Go.Proofs.Ytbankbehfjogpaa


namespace Go.Proofs.Ytbankbehfjogpaa
open Go.RowKit Go.Shelf Go.Lib
set_option maxRecDepth 100000

/-- An edge may be. -/
def EMay (ha : Bool) (mn mx : Int) : Prop := if ha = true then -2147483647 ≤ mn ∧ mn ≤ mx ∧ mx ≤ 2147483647 else mn = 0 ∧ mx = 0
instance (ha : Bool) (mn mx : Int) : Decidable (EMay ha mn mx) := by unfold EMay; infer_instance
/-- Tags may be. -/
def LMay (n : Nat) (t : Nat → Nat) : Prop := n ≤ 8 ∧ ∀ j, j + 1 < n → t j < t (j + 1)
/-- A dyad is 0, in its one form. -/
def Zd (d : Dy) : Prop := d.s = false ∧ d.x = 0 ∧ d.n = 0
/-- A mail's numbers may be. -/
def IMay (m : Md) : Prop := (0 ≤ m.fr ∧ m.fr < 8) ∧ (0 ≤ m.tu ∧ m.tu < 8) ∧ (0 ≤ m.ep ∧ m.ep ≤ 65535) ∧ (0 ≤ m.nu ∧ m.nu ≤ 1048575) ∧ (0 ≤ m.ab ∧ m.ab ≤ 1048575)
/-- A mail may be. -/
def PMay (m : Md) (l : List De) (t : Nat → Nat) : Prop :=
  (1 ≤ m.kd ∧ m.kd ≤ 6) ∧ IMay m ∧ (m.kd = 3 ∨ m.kd = 4 ∨ m.ab = 0) ∧ MMay m.D ∧ kchk l = 0 ∧ EMay m.ha m.mn m.mx ∧ LMay m.k t ∧
    (m.kd = 1 ∨ (Zd (m.D 0) ∧ Zd (m.D 1))) ∧ (m.kd = 2 ∨ m.kd = 3 ∨ (Zd (m.D 2) ∧ Zd (m.D 3))) ∧ (m.kd = 5 ∨ (m.wa = false ∧ m.n = 0)) ∧ (m.kd = 6 ∨ (m.ha = false ∧ m.k = 0))
theorem eqlE (a b : Bool) (c d e f : Int) (w : World) : Sem.run Try.prog (binOp .eql 29 (.agg #[.bool a, .int .i64 c, .int .i64 d]) (.agg #[.bool b, .int .i64 e, .int .i64 f])) w = .ok (.bool (decide (a = b ∧ c = e ∧ d = f))) w := by
  have u3 := Try.underlying3
  have a3 := Try.isAgg3
  have z3 := Try.sizeOf3
  have u4 := Try.underlying4
  have a4 := Try.isAgg4
  have z4 := Try.sizeOf4
  have hS : Try.prog.underlying 29 = some (.struct (Try.prog.fieldsOf 29)) := by kernel_rfl
  have hp : Try.prog.stoodInHeld 29 = false := by kernel_rfl
  rw [run_eql_struct, show (10000 : Nat) = 9999 + 1 from rfl, run_equalIn_agg w 9999 29 _ _ hS hp]
  simp only [Program.fieldsOf, Try.underlying29]
  go_simp
  by_cases h1 : a = b <;> by_cases h2 : c = e <;> by_cases h3 : d = f <;> simp [h1, h2, h3]
theorem grdE (op : BinOp) (x y : Operand) (xs ys : Array Value) (w : World) : Sem.run Try.prog (eqGuard op 29 x y (.agg xs) (.agg ys)) w = .ok () w := run_eqGuard_agg w op 29 x y xs ys (by kernel_rfl)
theorem pheap0 (w : World) (a b : Obj) : ((w.alloc a).alloc b).heap[w.heap.size]? = some a := (Below.heap_alloc _ _ _ (by simp)).trans (World.alloc_heap_new w _)
theorem pheap1 (w : World) (a b : Obj) : ((w.alloc a).alloc b).heap[w.heap.size + 1]? = some b := by
  have := World.alloc_heap_new (w.alloc a) b
  rwa [World.size_alloc] at this
/-- Two mails' numbers are the same. -/
def ISm (m o : Md) : Prop := m.kd = o.kd ∧ m.fr = o.fr ∧ m.tu = o.tu ∧ m.ep = o.ep ∧ m.nu = o.nu ∧ m.ab = o.ab
/-- All of two mails is the same. -/
def PSm (m o : Md) (l r : List De) (t u : Nat → Nat) : Prop :=
  ISm m o ∧ (∀ k, k < 4 → Dsm (m.D k) (o.D k)) ∧ m.wa = o.wa ∧ l = r ∧ (m.ha = o.ha ∧ m.mn = o.mn ∧ m.mx = o.mx) ∧ (m.k = o.k ∧ ∀ j, t j = u j)
end Go.Proofs.Ytbankbehfjogpaa


namespace Go.Proofs.Ytbankbehfjogpaa
open Go.RowKit Go.Shelf Go.Lib

def ddy (d : Dy) : Ddy := ⟨d.s, d.n, d.f, d.x.toNat⟩
/-- The mail that lies so. -/
def mlOf (m : Md) (l : List De) (t : Nat → Nat) : Ml := ⟨m.kd, m.fr, m.tu, m.ep, m.nu, m.ab, ddy (m.D 0), ddy (m.D 1), ddy (m.D 2), ddy (m.D 3), m.wa, l, m.ha, m.mn, m.mx, (List.range m.k).map t⟩
/-- What a kind doesn't use is zero. -/
def UseOk (M : Ml) : Prop := (M.kd = 3 ∨ M.kd = 4 ∨ M.ab = 0) ∧ (M.kd = 1 ∨ (M.S = d0z ∧ M.W = d0z)) ∧ (M.kd = 2 ∨ M.kd = 3 ∨ (M.C = d0z ∧ M.A = d0z)) ∧ (M.kd = 5 ∨ (M.wa = false ∧ M.ls = [])) ∧ (M.kd = 6 ∨ (M.ha = false ∧ M.mn = 0 ∧ M.mx = 0 ∧ M.le = []))
theorem dy_ext {D E : Ddy} (h1 : D.s = E.s) (h2 : D.n = E.n) (h3 : ∀ j, D.f j = E.f j) (h4 : D.x = E.x) : D = E := by
  obtain ⟨s, n, f, x⟩ := D
  obtain ⟨s', n', f', x'⟩ := E
  dsimp only at h1 h2 h3 h4
  subst h1 h2 h4
  obtain rfl : f = f' := funext h3
  rfl
theorem ddy_zero {w : World} {B : Nat} {d : Dy} (h : Rd w B d.A d.n d.c d.f) (hx : 0 ≤ d.x) : ddy d = d0z ↔ Zd d := by
  constructor
  · intro e
    have e1 := congrArg Ddy.s e
    have e2 := congrArg Ddy.n e
    have e3 := congrArg Ddy.x e
    simp only [ddy, d0z] at e1 e2 e3
    exact ⟨e1, by omega, e2⟩
  · rintro ⟨h1, h2, h3⟩
    exact dy_ext h1 h3 (fun j => h.out j (by rw [h3]; exact Nat.zero_le _)) (by show d.x.toNat = 0; omega)
theorem range_map_get (n : Nat) (t : Nat → Nat) (ht : ∀ j, n ≤ j → t j = 0) (j : Nat) : (((List.range n).map t)[j]?).getD 0 = t j := by
  rcases Nat.lt_or_ge j n with h | h
  · rw [List.getElem?_map, List.getElem?_range h]
    rfl
  · rw [List.getElem?_eq_none (by simpa using h), ht j h]
    rfl
/-- Which mails may be, of what lies. -/
theorem pmay_iff {w : World} {B : Nat} {m : Md} {l : List De} {t : Nat → Nat} (h : Prd w B m l t) : PMay m l t ↔
    (((1 ≤ m.kd ∧ m.kd ≤ 6) ∧ (0 ≤ m.fr ∧ m.fr ≤ 7) ∧ (0 ≤ m.tu ∧ m.tu ≤ 7) ∧ (0 ≤ m.ep ∧ m.ep ≤ 65535) ∧ (0 ≤ m.nu ∧ m.nu ≤ 1048575)) ∧ ((0 ≤ m.ab ∧ m.ab ≤ 1048575) ∧ MMay m.D ∧ kchk l = 0 ∧ EMay m.ha m.mn m.mx ∧ LMay m.k t)) ∧ UseOk (mlOf m l t) := by
  have key : MMay m.D → ∀ k, k < 4 → (ddy (m.D k) = d0z ↔ Zd (m.D k)) := fun hm k hk => ddy_zero (h.ms k hk) (hm k hk).2.1
  have hl : l = [] ↔ m.n = 0 := ⟨fun e => by rw [← h.ls.len, e]; rfl, fun e => List.length_eq_zero_iff.1 (h.ls.len.trans e)⟩
  have ht : (List.range m.k).map t = [] ↔ m.k = 0 := by simp
  constructor
  · rintro ⟨h1, ⟨h2, h3, h4, h5, h6⟩, h7, h8, h9, h10, h11, h12, h13, h14, h15⟩
    refine ⟨⟨⟨h1, by omega, by omega, by omega, by omega⟩, by omega, h8, h9, h10, h11⟩, h7, ?_, ?_, ?_, ?_⟩
    · exact h12.imp id fun ⟨a, b⟩ => ⟨(key h8 0 (by omega)).2 a, (key h8 1 (by omega)).2 b⟩
    · exact h13.imp id fun h13 => h13.imp id fun ⟨a, b⟩ => ⟨(key h8 2 (by omega)).2 a, (key h8 3 (by omega)).2 b⟩
    · exact h14.imp id fun ⟨a, b⟩ => ⟨a, hl.2 b⟩
    · refine h15.imp id fun ⟨a, b⟩ => ?_
      unfold EMay at h10
      rw [if_neg (by rw [a]; decide)] at h10
      exact ⟨a, h10.1, h10.2, ht.2 b⟩
  · rintro ⟨⟨⟨h1, h2, h3, h4, h5⟩, h6, h8, h9, h10, h11⟩, h7, h12, h13, h14, h15⟩
    refine ⟨h1, ⟨by omega, by omega, by omega, by omega, by omega⟩, h7, h8, h9, h10, h11, ?_, ?_, ?_, ?_⟩
    · exact h12.imp id fun ⟨a, b⟩ => ⟨(key h8 0 (by omega)).1 a, (key h8 1 (by omega)).1 b⟩
    · exact h13.imp id fun h13 => h13.imp id fun ⟨a, b⟩ => ⟨(key h8 2 (by omega)).1 a, (key h8 3 (by omega)).1 b⟩
    · exact h14.imp id fun ⟨a, b⟩ => ⟨a, hl.1 b⟩
    · exact h15.imp id fun ⟨a, _, _, b⟩ => ⟨a, ht.1 b⟩
end Go.Proofs.Ytbankbehfjogpaa

