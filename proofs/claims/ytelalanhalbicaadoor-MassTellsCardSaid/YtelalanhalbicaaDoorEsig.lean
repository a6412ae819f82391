/- The document's signed bits: words; Minus, In. -/
import Derived.Test.YtelalanhalbicaaDoorEmay
import Derived.Test.YtelalanhalbicaaDoorRshift
import Derived.Deep.RegionHeld3
import Derived.IntWalk
namespace Go.Proofs.YtelalanhalbicaaDoor
open Go.RowKit

set_option maxHeartbeats 1600000 in
theorem eminus_any (s : Bool) (A : Option Addr) (n c : Nat) (x : Int) (w : World) (_hm : n ≤ 140737488355328) :
    Calls Tryd.prog 50 #[.agg #[.bool s, .slice A n c, .int .i64 x]] w fun e w' => e = .returned (.agg #[.bool (if n = 0 then s else !s), .slice A n c, .int .i64 x]) ∧ Hid (Below w.heap.size w w') := by
  have B0 := hid (((Below.refl w.heap.size w).alloc (Nat.le_refl _) (.cells #[.bool s, .slice A n c, .int .i64 x] 24)).alloc (by simp) (.cells #[.bool false, .slice none 0 0, .int .i64 0] 24))
  have P1 : Hid (Dbox _ (w.heap.size + 1) false (.slice none 0 0) 0) := heap_alloc2_new w (.cells #[.bool s, .slice A n c, .int .i64 x] 24) (.cells #[.bool false, .slice none 0 0, .int .i64 0] 24)
  have P0 : Hid (Dbox _ w.heap.size s (.slice A n c) x) := (Below.heap_alloc _ (.cells #[.bool false, .slice none 0 0, .int .i64 0] 24) _ (by simp)).trans (heap_alloc_new w (.cells #[.bool s, .slice A n c, .int .i64 x] 24))
  obtain ⟨W, hW⟩ : ∃ W, W = (w.alloc (.cells #[.bool s, .slice A n c, .int .i64 x] 24)).alloc (.cells #[.bool false, .slice none 0 0, .int .i64 0] 24) := ⟨_, rfl⟩
  have HW := hid hW
  rw [← hW] at B0 P1 P0
  clear hW
  rcases Nat.eq_zero_or_pos n with h0 | h0
  · subst h0
    rw [if_pos rfl]
    go_enter Tryd.func50, Tryd.ntmps50
    go_upto_region 1 with fail
    rw [← HW.out]
    have a0 := P0.out.c0
    have a1 := P0.out.c1
    have a2 := P0.out.c2
    have g0 := P1.out.frozen 0
    have g1 := P1.out.frozen 1
    have g2 := P1.out.frozen 2
    have e0 := P1.out.c0
    have e1 := P1.out.c1
    have e2 := P1.out.c2
    go_wp2
    refine ret_one rfl rfl rfl (P1.out.store (t := s) (u := .slice A 0 c) (y := x)) ?_
    exact ⟨rfl, below_put3 B0.out (by omega)⟩
  · rw [if_neg (by omega)]
    have hp : (0 : Int) < (n : Int) := by omega
    have a0 := P0.out.c0
    have a1 := P0.out.c1
    have f0 := P0.out.frozen 0
    have Q0 := hid (P0.out.set0 (!s))
    have Q1 := hid (P1.out.far (k := w.heap.size) (by omega) 0 (.bool (!s)))
    have b0 := Q0.out.c0
    have b1 := Q0.out.c1
    have b2 := Q0.out.c2
    have g0 := Q1.out.frozen 0
    have g1 := Q1.out.frozen 1
    have g2 := Q1.out.frozen 2
    have e0 := Q1.out.c0
    have e1 := Q1.out.c1
    have e2 := Q1.out.c2
    go_enter Tryd.func50, Tryd.ntmps50
    go_upto_region 1 with fail
    rw [← HW.out]
    go_wp2
    refine ret_one rfl rfl rfl (Q1.out.store (t := !s) (u := .slice A n c) (y := x)) ?_
    exact ⟨rfl, below_put3 (B0.out.setCell (p := ⟨w.heap.size, 0, none⟩) (Nat.le_refl _) _) (by omega)⟩

/-- Block g is a number of signed bits. -/
def Sbox (w : World) (g : Nat) (s : Bool) (v : Value) : Prop := w.heap[g]? = some (.cells #[.bool s, v] 80 (0, 0))
section
variable {w w' : World} {g : Nat} {s : Bool} {v : Value}
theorem Sbox.lt (h : Sbox w g s v) : g < w.heap.size := lt_of_heap h
theorem Sbox.c0 (h : Sbox w g s v) : w.cell? ⟨g, 0, none⟩ = some (.bool s) := by rw [cell_of_row w g 0 _ _ (0, 0) h]; rfl
theorem Sbox.c1 (h : Sbox w g s v) : w.cell? ⟨g, 1, none⟩ = some v := by rw [cell_of_row w g 1 _ _ (0, 0) h]; rfl
theorem Sbox.frozen (h : Sbox w g s v) (j : Nat) : w.frozen? ⟨g, j, none⟩ = false := frozen_of_row w g j _ _ h
theorem Sbox.below {B : Nat} (h : Sbox w g s v) (hb : Below B w w') (hg : g < B) : Sbox w' g s v := (hb.block g hg).trans h
theorem Sbox.far {k : Nat} (h : Sbox w g s v) (hk : g ≠ k) (j : Nat) (u : Value) : Sbox (w.setCell ⟨k, j, none⟩ u) g s v := (Below.heap_setCell w ⟨k, j, none⟩ u g hk).trans h
theorem Sbox.alloc (h : Sbox w g s v) (o : Obj) : Sbox (w.alloc o) g s v := (Below.heap_alloc w o g h.lt).trans h
end
/-- The world behind signed bits that are stored into their box. -/
def put2 (w : World) (g : Nat) (s : Bool) (v : Value) : World := (w.setCell ⟨g, 0, none⟩ (.bool s)).setCell ⟨g, 1, none⟩ v
theorem Sbox.store {w : World} {g : Nat} {s t : Bool} {v u : Value} (h : Sbox w g s v) : Sbox (put2 w g t u) g t u := by
  have h0 := heap_setCell_same w g 0 _ _ (.bool t) h
  exact heap_setCell_same _ g 1 _ _ u h0
theorem below_put2 {B : Nat} {w w' : World} {g : Nat} {s : Bool} {v : Value} (h : Below B w w') (hg : B ≤ g) : Below B w (put2 w' g s v) :=
  (h.setCell (p := ⟨g, 0, none⟩) hg _).setCell (p := ⟨g, 1, none⟩) hg _
theorem sig_size : (Tryd.prog.info? 80).map (·.size) = some 2 := by kernel_rfl
theorem ret_sig {fn : Func} {R : Ending → World → Prop} {a : Act} {w : World} {p : Tmp} {g : Nat} {s : Bool} {v : Value} (h : fn.results = #[.cell p 80]) (hp : a.tmps.getD p undef = .pointer (some ⟨g, 0, none⟩))
    (hd : a.defers = []) (hg : Sbox w g s v) (hR : R (.returned (.agg #[.bool s, v])) w) : bodyPost Tryd.prog fn R .ret a w :=
  bodyPost_ret (cells_agg h a.tmps w g _ _ _ _ hp hg Tryd.underlying80 rfl sig_size) hd hR
/-- Bits stay when a number's block is written. -/
theorem Bt.stay {w : World} {B V g : Nat} {v u : Value} {s t : Bool} {D : Option Addr} {m d : Nat} (h : Bt w B V v) (hg : Sbox w g s (.slice D m d)) : Bt (put2 w g t u) B V v := by
  obtain ⟨A, n, c, rfl, hr, hl⟩ := h
  refine ⟨A, n, c, rfl, ⟨hr.cap, hr.max, hr.nil, hr.lt, fun hn => ?_⟩, hl⟩
  obtain ⟨b, off, rfl, hB, hc⟩ := hr.at_ hn
  have hne : b ≠ g := by
    rintro rfl
    have h0 := hc 0 hn
    rw [Nat.add_zero, cell_of_row w b off _ _ (0, 0) hg] at h0
    match off, h0 with
    | 0, h0 => simp at h0
    | 1, h0 => simp at h0
    | k + 2, h0 => simp at h0
  refine ⟨b, off, rfl, hB, fun j hj => ?_⟩
  rw [← hc j hj]
  exact World.cell?_of_block ((Below.heap_setCell _ ⟨g, 1, none⟩ u b hne).trans (Below.heap_setCell w ⟨g, 0, none⟩ (.bool t) b hne))
theorem put2_size (w : World) (g : Nat) (s : Bool) (v : Value) : (put2 w g s v).heap.size = w.heap.size := by simp [put2, World.setCell]

theorem Bt.dims {w : World} {B V n c : Nat} {A : Option Addr} (h : Bt w B V (.slice A n c)) : n ≤ c ∧ n ≤ 140737488355328 ∧ (n = 0 → V = 0) ∧ (0 < n → V ≠ 0) := by
  obtain ⟨A', n', c', hv, hr, hl⟩ := h
  injection hv with h1 h2 h3
  subst h1 h2 h3
  refine ⟨hr.cap, hr.max, fun h0 => ?_, fun h0 => ?_⟩
  · subst h0
    exact hr.zero
  · have := hl h0
    have := tw_pos (n - 1)
    omega
/-- Signed bits: the number M, of less than L digits. -/
def Sg (w : World) (L : Nat) (M : Int) (v : Value) : Prop := ∃ s A n c N, v = .agg #[.bool s, .slice A n c] ∧ Bt w w.heap.size N (.slice A n c) ∧ N < tw L ∧ num s N = M
theorem Sg.below {w w' : World} {L : Nat} {M : Int} {v : Value} (h : Sg w L M v) (hb : Below w.heap.size w w') : Sg w' L M v := by
  obtain ⟨s, A, n, c, N, hv, hbt, hN, hM⟩ := h
  exact ⟨s, A, n, c, N, hv, (hbt.below hb).mono hb.size, hN, hM⟩

set_option maxHeartbeats 3200000 in
theorem ein_any {X E k : Nat} {A : Option Addr} {n c : Nat} {f : Nat → Nat} {w : World} (h : Rd w w.heap.size A n c f) (hf : Fit n f) (hE : E = X + k) (hk : k ≤ 1280) (s : Bool) :
    Calls Tryd.prog 49 #[.agg #[.bool s, .slice A n c, .int .i64 (X : Int)], .int .i64 (E : Int)] w fun e w' => ∃ v, e = .returned v ∧ Hid (Sg w' 2560 (num s (vl f n * tw k)) v) ∧ Hid (Below w.heap.size w w') := by
  have hsub : IntKind.i64.wrap ((E : Int) - (X : Int)) = (k : Int) := by
    have h1 : (E : Int) - (X : Int) = (k : Int) := by omega
    rw [h1]
    exact IntWalk.i64_in _ (by omega)
  have B0 := hid (((Below.refl w.heap.size w).alloc (Nat.le_refl _) (.cells #[.bool s, .slice A n c, .int .i64 (X : Int)] 24)).alloc (by simp) (.cells #[.bool false, .slice none 0 0] 80))
  have P1 : Hid (Sbox _ (w.heap.size + 1) false (.slice none 0 0)) := heap_alloc2_new w (.cells #[.bool s, .slice A n c, .int .i64 (X : Int)] 24) (.cells #[.bool false, .slice none 0 0] 80)
  have P0 : Hid (Dbox _ w.heap.size s (.slice A n c) (X : Int)) := (Below.heap_alloc _ (.cells #[.bool false, .slice none 0 0] 80) _ (by simp)).trans (heap_alloc_new w (.cells #[.bool s, .slice A n c, .int .i64 (X : Int)] 24))
  have hV : vl f n < pw 40 := vl_pw40 h hf
  have CD := hid (fun (w' : World) (hb : Below w.heap.size w w') => Digits_any ((h.below hb).mono hb.size) (by have := hf.1; omega))
  have HV := hid hV
  have HVL : Hid (vl f n * tw k < tw 2560) := by
    have h1 : vl f n < tw 1280 := by rw [tw_pw] at hV; exact hV
    have h2 : tw 2560 = tw 1280 * tw 1280 := tw_add 1280 1280
    have h3 := tw_mono hk
    unfold Hid
    rw [h2]
    exact Nat.lt_of_lt_of_le (Nat.mul_lt_mul_of_pos_right h1 (tw_pos k)) (Nat.mul_le_mul_left _ h3)
  have hk0 := hk
  obtain ⟨W, hW⟩ : ∃ W, W = (w.alloc (.cells #[.bool s, .slice A n c, .int .i64 (X : Int)] 24)).alloc (.cells #[.bool false, .slice none 0 0] 80) := ⟨_, rfl⟩
  have HW := hid hW
  rw [← hW] at B0 P1 P0
  have LW := hid P1.out.lt
  have CF : Hid (∀ w', Below W.heap.size W w' → w'.cell? ⟨w.heap.size, 0, none⟩ = some (.bool s) ∧ w'.cell? ⟨w.heap.size, 1, none⟩ = some (.slice A n c) ∧ w'.cell? ⟨w.heap.size, 2, none⟩ = some (.int .i64 (X : Int))) :=
    fun w' hb => ⟨(P0.out.below hb P0.out.lt).c0, (P0.out.below hb P0.out.lt).c1, (P0.out.below hb P0.out.lt).c2⟩
  have CG : Hid (∀ w' u v, Below W.heap.size W w' → ((w'.setCell ⟨w.heap.size + 1, 0, none⟩ u).setCell ⟨w.heap.size + 1, 1, none⟩ v).cell? ⟨w.heap.size, 0, none⟩ = some (.bool s) ∧ ((w'.setCell ⟨w.heap.size + 1, 0, none⟩ u).setCell ⟨w.heap.size + 1, 1, none⟩ v).cell? ⟨w.heap.size, 1, none⟩ = some (.slice A n c) ∧ ((w'.setCell ⟨w.heap.size + 1, 0, none⟩ u).setCell ⟨w.heap.size + 1, 1, none⟩ v).cell? ⟨w.heap.size, 2, none⟩ = some (.int .i64 (X : Int))) := by
    intro w' u v hb
    have h := ((P0.out.below hb P0.out.lt).far (k := w.heap.size + 1) (by omega) 0 u).far (k := w.heap.size + 1) (by omega) 1 v
    exact ⟨h.c0, h.c1, h.c2⟩
  generalize vl f n = V at *
  clear h hf hW hE hV hk P0
  go_enter Tryd.func49, Tryd.ntmps49
  go_upto_region 1 with fail
  rw [← HW.out]
  have HBz := hid ((Below.refl W.heap.size W).drew)
  go_region_held3 (fun w' => w'.cell? ⟨w.heap.size, 0, none⟩ = some (.bool s) ∧ w'.cell? ⟨w.heap.size, 1, none⟩ = some (.slice A n c) ∧ w'.cell? ⟨w.heap.size, 2, none⟩ = some (.int .i64 (X : Int)))
    (first | exact CF.out _ HBz.out | exact CG.out _ _ _ HBz.out)
    (first
    | (go_at_call 74
       refine (CD.out _ (B0.out.trans (HBz.out.mono B0.out.size))).mono ?_
       rintro e wa ⟨v, rfl, Ba, A1, n1, c1, rfl, Bv, Bl⟩
       have HBt := hid (show Bt wa wa.heap.size V (.slice A1 n1 c1) from ⟨A1, n1, c1, rfl, Bv, Bl⟩)
       have HBz := hid (HBz.out.trans (Ba.mono HBz.out.size))
       clear Ba Bv Bl)
    | (go_at_call 73
       refine (Times2_any HBt.out HV.out k hk0).mono ?_
       rintro e wb ⟨v, rfl, Ba, A2, n2, c2, rfl, Bv, Bl⟩
       have HBt := hid (show Bt wb wb.heap.size (V * tw k) (.slice A2 n2 c2) from ⟨A2, n2, c2, rfl, Bv, Bl⟩)
       have HBz := hid (HBz.out.trans (Ba.mono HBz.out.size))
       have P1 := hid (P1.out.below HBz.out LW.out)
       have g0 := P1.out.frozen 0
       have g1 := P1.out.frozen 1
       have e0 := P1.out.c0
       have e1 := P1.out.c1
       clear Ba Bv Bl))
  all_goals
    clear g0 g1 e0 e1
    go_wp2
    refine ret_sig rfl rfl rfl (P1.out.store (t := s) (u := .slice A2 n2 c2)) ?_
    refine ⟨_, rfl, ⟨s, A2, n2, c2, _, rfl, ?_, HVL.out, rfl⟩, below_put2 (B0.out.trans (HBz.out.mono B0.out.size)) (by omega)⟩
    exact (HBt.out.stay P1.out).mono (Nat.le_of_eq (put2_size _ _ _ _).symm)

end Go.Proofs.YtelalanhalbicaaDoor
