/- A walk's whole numbers and values. -/
/- A walk's edges. -/
/- A walk's lists. -/
/- Lists of tags (uint32) in memory, and of a call's own; append onto one. -/
/- A walk's lists of tags. -/
import Derived.Test.YtbankbehfjogpaaGreatVai
import Derived.Test.YtbankbehfjogpaaGreatVae
namespace Go.Proofs.YtbankbehfjogpaaGreat
open Go.RowKit Go.Shelf Go.Lib
set_option maxRecDepth 100000
set_option maxHeartbeats 3200000 in
theorem whole_any {σ : Type} {W : Walker σ} {G : Nat → Prop} {Ba B : Nat} {I : σ → World → Prop} {Dv : World → Dy → Prop} {fn ff fd : Nat} {bd : Array Value} (K : Wlk W G Ba B I Dv fn ff fd bd)
    {s : σ} {w : World} (hs : I s w) (hB : B ≤ w.heap.size) (n z : Nat) (zi : Int) (hzi : (z : Int) = zi) (hn : n < 4294967296) (h1 : 1 ≤ z) (h4 : z ≤ 4) :
    Calls Tryz.prog 48 #[wkv fn ff fd bd, .int .i64 (n : Int), .int .i64 zi] w fun e w' =>
      ∃ U : Nat, e = .returned (.int .i64 (U : Int)) ∧ Hid (U = (W.nf s n z).1 ∧ U < 4294967296) ∧ Hid (I (W.nf s n z).2 w') ∧ Hid (Ex G w w') := by
  subst hzi
  obtain ⟨w1, hw1⟩ : ∃ w1, w1 = w.alloc (.cells #[.func (.func fn) bd #[], .func (.func ff) bd #[], .func (.func fd) bd #[]] 57) := ⟨_, rfl⟩
  have E0 := hid (show Ex G w w1 from hw1 ▸ (Ex.refl G w).alloc _)
  have I0 := K.inv s w w1 hs (hw1 ▸ Al.alloc _)
  have X0 : Hid (Wbx w1 w.heap.size fn ff fd bd) := hid (hw1 ▸ heap_alloc_new w _)
  have CN := hid (K.num s w1 n z I0 (Nat.le_trans hB E0.out.size) hn h1 h4)
  have HW := hid hw1
  have en := K.en
  have c0 := X0.out.c0
  have hc : IntKind.u64.wrap (n : Int) = (n : Int) := IntWalk.u64_in _ (by omega)
  clear hw1 hs I0
  go_enter Tryz.func48, Tryz.ntmps48
  go_upto_region 1 with fail
  rw [← HW.out]
  clear HW
  go_wp2_with fail
  refine CN.out.mono ?_
  rintro e w2 ⟨U, rfl, hU, hI, hE⟩
  have hU2 := hU.out.2
  go_wp2
  go_ret
  exact ⟨U, rfl, hU, hI, hid (E0.out.trans hE.out)⟩
set_option maxHeartbeats 3200000 in
theorem value_any {σ : Type} {W : Walker σ} {G : Nat → Prop} {Ba B : Nat} {I : σ → World → Prop} {Dv : World → Dy → Prop} {fn ff fd : Nat} {bd : Array Value} (K : Wlk W G Ba B I Dv fn ff fd bd)
    {s : σ} {w : World} (hs : I s w) (hB : B ≤ w.heap.size) (x : Int) (n : Nat) (hx : x + 2147483648 = (n : Int)) (hn : n < 4294967296) :
    Calls Tryz.prog 92 #[wkv fn ff fd bd, .int .i64 x] w fun e w' =>
      ∃ y : Int, e = .returned (.int .i64 y) ∧ Hid (∃ U : Nat, U = (W.nf s n 4).1 ∧ U < 4294967296 ∧ y = (U : Int) - 2147483648) ∧ Hid (I (W.nf s n 4).2 w') ∧ Hid (Ex G w w') := by
  obtain ⟨w1, hw1⟩ : ∃ w1, w1 = w.alloc (.cells #[.func (.func fn) bd #[], .func (.func ff) bd #[], .func (.func fd) bd #[]] 57) := ⟨_, rfl⟩
  have E0 := hid (show Ex G w w1 from hw1 ▸ (Ex.refl G w).alloc _)
  have I0 := K.inv s w w1 hs (hw1 ▸ Al.alloc _)
  have X0 : Hid (Wbx w1 w.heap.size fn ff fd bd) := hid (hw1 ▸ heap_alloc_new w _)
  have CN := hid (K.num s w1 n 4 I0 (Nat.le_trans hB E0.out.size) hn (by omega) (by omega))
  have HW := hid hw1
  have en := K.en
  have c0 := X0.out.c0
  have hc0 : IntKind.i64.wrap (x + 2147483648) = (n : Int) := by rw [hx]; exact IntWalk.i64_in _ (by omega)
  have hc : IntKind.u64.wrap (n : Int) = (n : Int) := IntWalk.u64_in _ (by omega)
  have hlo : -2147483648 ≤ x := by omega
  have hhi : x < 2147483648 := by omega
  have HX := hid hx
  clear hw1 hs I0 hx
  go_enter Tryz.func92, Tryz.ntmps92
  go_upto_region 1 with fail
  rw [← HW.out]
  clear HW
  go_wp2_with fail
  rw [show ((n : Int)) = ((n : Nat) : Int) from rfl]
  refine CN.out.mono ?_
  rintro e w2 ⟨U, rfl, hU, hI, hE⟩
  have hU2 := hU.out.2
  go_wp2
  go_ret
  exact ⟨(U : Int) - 2147483648, rfl, hid ⟨U, hU.out.1, hU.out.2, rfl⟩, hI, hid (E0.out.trans hE.out)⟩
set_option maxHeartbeats 3200000 in
theorem tag_any {σ : Type} {W : Walker σ} {G : Nat → Prop} {Ba B : Nat} {I : σ → World → Prop} {Dv : World → Dy → Prop} {fn ff fd : Nat} {bd : Array Value} (K : Wlk W G Ba B I Dv fn ff fd bd)
    {s : σ} {w : World} (hs : I s w) (hB : B ≤ w.heap.size) (n : Nat) (hn : n < 4294967296) :
    Calls Tryz.prog 53 #[wkv fn ff fd bd, .int .u32 (n : Int)] w fun e w' =>
      ∃ U : Nat, e = .returned (.int .u32 (U : Int)) ∧ Hid (U = (W.nf s n 4).1 ∧ U < 4294967296) ∧ Hid (I (W.nf s n 4).2 w') ∧ Hid (Ex G w w') := by
  obtain ⟨w1, hw1⟩ : ∃ w1, w1 = w.alloc (.cells #[.func (.func fn) bd #[], .func (.func ff) bd #[], .func (.func fd) bd #[]] 57) := ⟨_, rfl⟩
  have E0 := hid (show Ex G w w1 from hw1 ▸ (Ex.refl G w).alloc _)
  have I0 := K.inv s w w1 hs (hw1 ▸ Al.alloc _)
  have X0 : Hid (Wbx w1 w.heap.size fn ff fd bd) := hid (hw1 ▸ heap_alloc_new w _)
  have CN := hid (K.num s w1 n 4 I0 (Nat.le_trans hB E0.out.size) hn (by omega) (by omega))
  have HW := hid hw1
  have en := K.en
  have c0 := X0.out.c0
  have hc : IntKind.u64.wrap (n : Int) = (n : Int) := IntWalk.u64_in _ (by omega)
  clear hw1 hs I0
  go_enter Tryz.func53, Tryz.ntmps53
  go_upto_region 1 with fail
  rw [← HW.out]
  clear HW
  go_wp2_with fail
  refine CN.out.mono ?_
  rintro e w2 ⟨U, rfl, hU, hI, hE⟩
  have hU2 := hU.out.2
  have hc2 : IntKind.u32.wrap (U : Int) = (U : Int) := by rw [IntKind.wrap_u32]; omega
  go_wp2
  go_ret
  exact ⟨U, rfl, hU, hI, hid (E0.out.trans hE.out)⟩
set_option maxHeartbeats 6400000 in
theorem wdesc_any {σ : Type} {W : Walker σ} {G : Nat → Prop} {Ba B : Nat} {I : σ → World → Prop} {Dv : World → Dy → Prop} {fn ff fd : Nat} {bd : Array Value} (K : Wlk W G Ba B I Dv fn ff fd bd)
    {s : σ} {w : World} (hs : I s w) (hB : B ≤ w.heap.size) (n z : Nat) (hn : n < 4294967296) (hz : z < 4294967296) :
    Calls Tryz.prog 50 #[wkv fn ff fd bd, .agg #[.int .i64 (n : Int), .int .i64 (z : Int)]] w fun e w' =>
      ∃ U V : Nat, e = .returned (.agg #[.int .i64 (U : Int), .int .i64 (V : Int)]) ∧ Hid (U = (W.nf s n 1).1 ∧ U < 4294967296 ∧ V = (W.nf (W.nf s n 1).2 z 4).1 ∧ V < 4294967296) ∧ Hid (I (W.nf (W.nf s n 1).2 z 4).2 w') ∧ Hid (Ex G w w') := by
  obtain ⟨w1, hw1⟩ : ∃ w1, w1 = ((w.alloc (.cells #[.func (.func fn) bd #[], .func (.func ff) bd #[], .func (.func fd) bd #[]] 57)).alloc (.cells #[.int .i64 (n : Int), .int .i64 (z : Int)] 73)).alloc (.cells #[.int .i64 0, .int .i64 0] 73) := ⟨_, rfl⟩
  have E0 := hid (show Ex G w w1 from hw1 ▸ ex3 G w _ _ _)
  have S0 := hid (show w1.heap.size = w.heap.size + 3 from hw1 ▸ size3 w _ _ _)
  have I0 := hid (K.inv s w w1 hs (hw1 ▸ al3 w _ _ _))
  have X0 := hid (show Wbx w1 w.heap.size fn ff fd bd from hw1 ▸ new30 w _ _ _)
  have X1 := hid (show w1.heap[w.heap.size + 1]? = some (.cells #[.int .i64 (n : Int), .int .i64 (z : Int)] 73 (0, 0)) from hw1 ▸ new31 w _ _ _)
  have X2 := hid (show w1.heap[w.heap.size + 1 + 1]? = some (.cells #[.int .i64 0, .int .i64 0] 73 (0, 0)) from hw1 ▸ new32 w _ _ _)
  have gl : ∀ b, w.heap.size ≤ b → ¬ G b := fun b hb hg => by have := (K.gB b hg).2; omega
  have CX := hid (fun X (hX : Hid (I s X)) (hE : Hid (Ex G w1 X)) => whole_any K hX.out (Nat.le_trans hB (Nat.le_trans E0.out.size hE.out.size)) n 1 1 rfl hn (by omega) (by omega))
  have CY := hid (fun X (hX : Hid (I (W.nf s n 1).2 X)) (hE : Hid (Ex G w1 X)) => whole_any K hX.out (Nat.le_trans hB (Nat.le_trans E0.out.size hE.out.size)) z 4 4 rfl hz (by omega) (by omega))
  have HW := hid hw1
  have CF : Hid (∀ X : World, X.heap[w.heap.size]? = w1.heap[w.heap.size]? → X.heap[w.heap.size + 1]? = w1.heap[w.heap.size + 1]? → X.cell? ⟨w.heap.size, 0, none⟩ = some (.func (.func fn) bd #[]) ∧ X.cell? ⟨w.heap.size, 1, none⟩ = some (.func (.func ff) bd #[]) ∧ X.cell? ⟨w.heap.size, 2, none⟩ = some (.func (.func fd) bd #[]) ∧ X.cell? ⟨w.heap.size + 1, 0, none⟩ = some (.int .i64 (n : Int)) ∧ X.cell? ⟨w.heap.size + 1, 1, none⟩ = some (.int .i64 (z : Int))) := hid fun X hX hY =>
    have a := hX.trans X0.out
    have b := hY.trans X1.out
    ⟨row_c a 0, row_c a 1, row_c a 2, row_c b 0, row_c b 1⟩
  have B1 := hid (show ∀ X, Ex G w1 X → X.heap[w.heap.size]? = w1.heap[w.heap.size]? ∧ X.heap[w.heap.size + 1]? = w1.heap[w.heap.size + 1]? from fun X hX => ⟨hX.block _ (by rw [S0.out]; omega) (gl _ (Nat.le_refl _)), hX.block _ (by rw [S0.out]; omega) (gl _ (by omega))⟩)
  have HI := hid (K.inv s w1 w1.drew I0.out (Al.refl Wtu B w1).drew)
  have HBz := hid (show Ex G w1 w1.drew from (Ex.refl G w1).drew)
  have HG := hid gl
  clear hw1 hs I0 gl
  go_enter Tryz.func50, Tryz.ntmps50
  go_upto_region 1 with fail
  rw [← HW.out]
  clear HW
  go_region_held3 (fun X => X.cell? ⟨w.heap.size, 0, none⟩ = some (.func (.func fn) bd #[]) ∧ X.cell? ⟨w.heap.size, 1, none⟩ = some (.func (.func ff) bd #[]) ∧ X.cell? ⟨w.heap.size, 2, none⟩ = some (.func (.func fd) bd #[]) ∧ X.cell? ⟨w.heap.size + 1, 0, none⟩ = some (.int .i64 (n : Int)) ∧ X.cell? ⟨w.heap.size + 1, 1, none⟩ = some (.int .i64 (z : Int)))
    (first
     | exact CF.out _ (B1.out _ HBz.out).1 (B1.out _ HBz.out).2
     | exact CF.out _ ((oth2 (b := w.heap.size) (g := w.heap.size + 1 + 1) (by omega) _ _ _ _).trans (B1.out _ HBz.out).1) ((oth2 (b := w.heap.size + 1) (g := w.heap.size + 1 + 1) (by omega) _ _ _ _).trans (B1.out _ HBz.out).2))
    (first
    | (go_at_call 48
       with_reducible refine (CX.out _ HI HBz).mono ?_
       rintro e w2 ⟨U, rfl, hU, hI2, hE2⟩
       have HI1 := hI2
       have HBz := hid (HBz.out.trans hE2.out))
    | (go_at_call 48
       with_reducible refine (CY.out _ HI1 HBz).mono ?_
       rintro e w3 ⟨V, rfl, hV, hI3, hE3⟩
       have HI2 := hI3
       have HBz := hid (HBz.out.trans hE3.out)
       have HY := hid (HBz.out.heap X2.out (HG.out _ (by omega)))
       have f0 := row_f HY.out 0
       have f1 := row_f HY.out 1
       have y0 := row_c HY.out 0
       have y1 := row_c HY.out 1)
    | fail)
  all_goals
    have RR := hid (put_two HY.out (.int .i64 (U : Int)) (.int .i64 (V : Int)))
    have A1 := hid (K.inv _ _ _ HI2.out (al_put2 (B := B) HY.out (by omega) (.inl (.inr (.inl rfl))) (.int .i64 (U : Int)) (.int .i64 (V : Int))))
    have EE := hid (ex_put2 (E0.out.trans HBz.out) (g := w.heap.size + 1 + 1) (by omega) 0 1 (.int .i64 (U : Int)) (.int .i64 (V : Int)))
    generalize ((w3.setCell ⟨w.heap.size + 1 + 1, 0, none⟩ (.int .i64 (U : Int))).setCell ⟨w.heap.size + 1 + 1, 1, none⟩ (.int .i64 (V : Int))) = w4 at *
    go_wp2
    exact ret_desc1 rfl rfl rfl RR.out ⟨U, V, rfl, hid ⟨hU.out.1, hU.out.2, hV.out.1, hV.out.2⟩, A1, EE⟩
open Go.RowKit Go.Shelf Go.Lib
set_option maxRecDepth 100000
def edgP {σ : Type} (W : Walker σ) (s : σ) (b : Bool) (n m : Nat) : (Bool × Nat × Nat) × σ :=
  let f := W.ff s b
  let p := W.nf f.2 n 4
  let q := W.nf p.2 m 4
  ((f.1, p.1, q.1), q.2)
set_option maxHeartbeats 12800000 in
theorem wedge_any {σ : Type} {W : Walker σ} {G : Nat → Prop} {Ba B : Nat} {I : σ → World → Prop} {Dv : World → Dy → Prop} {fn ff fd : Nat} {bd : Array Value} (K : Wlk W G Ba B I Dv fn ff fd bd)
    {s : σ} {w : World} (hs : I s w) (hB : B ≤ w.heap.size) (b : Bool) (x y : Int) (n m : Nat) (hx : x + 2147483648 = (n : Int)) (hy : y + 2147483648 = (m : Int)) (hn : n < 4294967296) (hm : m < 4294967296) :
    Calls Tryz.prog 51 #[wkv fn ff fd bd, .agg #[.bool b, .int .i64 x, .int .i64 y]] w fun e w' =>
      ∃ (r : Bool) (u v : Int), e = .returned (.agg #[.bool r, .int .i64 u, .int .i64 v]) ∧ Hid (∃ U V : Nat, (r, U, V) = (edgP W s b n m).1 ∧ U < 4294967296 ∧ V < 4294967296 ∧ u = (U : Int) - 2147483648 ∧ v = (V : Int) - 2147483648) ∧ Hid (I (edgP W s b n m).2 w') ∧ Hid (Ex G w w') := by
  obtain ⟨w1, hw1⟩ : ∃ w1, w1 = ((w.alloc (.cells #[.func (.func fn) bd #[], .func (.func ff) bd #[], .func (.func fd) bd #[]] 57)).alloc (.cells #[.bool b, .int .i64 x, .int .i64 y] 29)).alloc (.cells #[.bool false, .int .i64 0, .int .i64 0] 29) := ⟨_, rfl⟩
  have E0 := hid (show Ex G w w1 from hw1 ▸ ex3 G w _ _ _)
  have S0 := hid (show w1.heap.size = w.heap.size + 3 from hw1 ▸ size3 w _ _ _)
  have I0 := hid (K.inv s w w1 hs (hw1 ▸ al3 w _ _ _))
  have X0 := hid (show Wbx w1 w.heap.size fn ff fd bd from hw1 ▸ new30 w _ _ _)
  have X1 := hid (show w1.heap[w.heap.size + 1]? = some (.cells #[.bool b, .int .i64 x, .int .i64 y] 29 (0, 0)) from hw1 ▸ new31 w _ _ _)
  have X2 := hid (show w1.heap[w.heap.size + 1 + 1]? = some (.cells #[.bool false, .int .i64 0, .int .i64 0] 29 (0, 0)) from hw1 ▸ new32 w _ _ _)
  have gl : ∀ b, w.heap.size ≤ b → ¬ G b := fun b hb hg => by have := (K.gB b hg).2; omega
  have CA := hid (fun X (hX : Hid (I s X)) (hE : Hid (Ex G w1 X)) => K.flag s X b hX.out (Nat.le_trans hB (Nat.le_trans E0.out.size hE.out.size)))
  have CX := hid (fun X (hX : Hid (I (W.ff s b).2 X)) (hE : Hid (Ex G w1 X)) => value_any K hX.out (Nat.le_trans hB (Nat.le_trans E0.out.size hE.out.size)) x n hx hn)
  have CY := hid (fun X (hX : Hid (I (W.nf (W.ff s b).2 n 4).2 X)) (hE : Hid (Ex G w1 X)) => value_any K hX.out (Nat.le_trans hB (Nat.le_trans E0.out.size hE.out.size)) y m hy hm)
  have HW := hid hw1
  have CF : Hid (∀ X : World, X.heap[w.heap.size]? = w1.heap[w.heap.size]? → X.heap[w.heap.size + 1]? = w1.heap[w.heap.size + 1]? → X.cell? ⟨w.heap.size, 0, none⟩ = some (.func (.func fn) bd #[]) ∧ X.cell? ⟨w.heap.size, 1, none⟩ = some (.func (.func ff) bd #[]) ∧ X.cell? ⟨w.heap.size, 2, none⟩ = some (.func (.func fd) bd #[]) ∧ X.cell? ⟨w.heap.size + 1, 0, none⟩ = some (.bool b) ∧ X.cell? ⟨w.heap.size + 1, 1, none⟩ = some (.int .i64 x) ∧ X.cell? ⟨w.heap.size + 1, 2, none⟩ = some (.int .i64 y)) := hid fun X hX hY =>
    have a := hX.trans X0.out
    have b := hY.trans X1.out
    ⟨row_c a 0, row_c a 1, row_c a 2, row_c b 0, row_c b 1, row_c b 2⟩
  have B1 := hid (show ∀ X, Ex G w1 X → X.heap[w.heap.size]? = w1.heap[w.heap.size]? ∧ X.heap[w.heap.size + 1]? = w1.heap[w.heap.size + 1]? from fun X hX => ⟨hX.block _ (by rw [S0.out]; omega) (gl _ (Nat.le_refl _)), hX.block _ (by rw [S0.out]; omega) (gl _ (by omega))⟩)
  have HI := hid (K.inv s w1 w1.drew I0.out (Al.refl Wtu B w1).drew)
  have HBz := hid (show Ex G w1 w1.drew from (Ex.refl G w1).drew)
  have HG := hid gl
  have HX := hid hx
  have HY' := hid hy
  have ef := K.ef
  clear hw1 hs I0 gl hx hy
  go_enter Tryz.func51, Tryz.ntmps51
  go_upto_region 1 with fail
  rw [← HW.out]
  clear HW
  go_region_held3 (fun X => X.cell? ⟨w.heap.size, 0, none⟩ = some (.func (.func fn) bd #[]) ∧ X.cell? ⟨w.heap.size, 1, none⟩ = some (.func (.func ff) bd #[]) ∧ X.cell? ⟨w.heap.size, 2, none⟩ = some (.func (.func fd) bd #[]) ∧ X.cell? ⟨w.heap.size + 1, 0, none⟩ = some (.bool b) ∧ X.cell? ⟨w.heap.size + 1, 1, none⟩ = some (.int .i64 x) ∧ X.cell? ⟨w.heap.size + 1, 2, none⟩ = some (.int .i64 y))
    (first
     | exact CF.out _ (B1.out _ HBz.out).1 (B1.out _ HBz.out).2
     | exact CF.out _ ((oth3 (b := w.heap.size) (g := w.heap.size + 1 + 1) (by omega) _ _ _ _ _ _).trans (B1.out _ HBz.out).1) ((oth3 (b := w.heap.size + 1) (g := w.heap.size + 1 + 1) (by omega) _ _ _ _ _ _).trans (B1.out _ HBz.out).2))
    (first
    | (with_reducible refine (CA.out _ HI HBz).mono ?_
       rintro e w2 ⟨r, rfl, hr, hI1, hE1⟩
       have HI1 := hI1
       have HBz := hid (HBz.out.trans hE1.out))
    | (go_at_call 92
       with_reducible refine (CX.out _ HI1 HBz).mono ?_
       rintro e w3 ⟨u, rfl, hu, hI2, hE2⟩
       have HI2 := hI2
       have HBz := hid (HBz.out.trans hE2.out))
    | (go_at_call 92
       with_reducible refine (CY.out _ HI2 HBz).mono ?_
       rintro e w4 ⟨v, rfl, hv, hI3, hE3⟩
       have HI3 := hI3
       have HBz := hid (HBz.out.trans hE3.out)
       have HY := hid (HBz.out.heap X2.out (HG.out _ (by omega)))
       have f0 := row_f HY.out 0
       have f1 := row_f HY.out 1
       have f2 := row_f HY.out 2
       have y0 := row_c HY.out 0
       have y1 := row_c HY.out 1
       have y2 := row_c HY.out 2)
    | fail)
  all_goals
    have RR := hid (put_three HY.out (.bool r) (.int .i64 u) (.int .i64 v))
    have A1 := hid (K.inv _ _ _ HI3.out (al_put3 (B := B) HY.out (by omega) (.inl (.inr (.inr rfl))) (.bool r) (.int .i64 u) (.int .i64 v)))
    have EE := hid (ex_put3 (E0.out.trans HBz.out) (g := w.heap.size + 1 + 1) (by omega) 0 1 2 (.bool r) (.int .i64 u) (.int .i64 v))
    obtain ⟨U, hU, hU2, hu3⟩ := hu.out
    obtain ⟨V, hV, hV2, hv3⟩ := hv.out
    have PP := hid (show ∃ U V : Nat, (r, U, V) = (edgP W s b n m).1 ∧ U < 4294967296 ∧ V < 4294967296 ∧ u = (U : Int) - 2147483648 ∧ v = (V : Int) - 2147483648 from ⟨U, V, by rw [hr.out, hU, hV]; rfl, hU2, hV2, hu3, hv3⟩)
    clear hU hU2 hu3 hV hV2 hv3 hu hv hr
    generalize (((w4.setCell ⟨w.heap.size + 1 + 1, 0, none⟩ (.bool r)).setCell ⟨w.heap.size + 1 + 1, 1, none⟩ (.int .i64 u)).setCell ⟨w.heap.size + 1 + 1, 2, none⟩ (.int .i64 v)) = w5 at *
    go_wp2
    exact ret_edge1 rfl rfl rfl RR.out ⟨r, u, v, rfl, PP, A1, EE⟩
open Go.RowKit Go.Shelf Go.Lib
set_option maxRecDepth 100000
def dscP {σ : Type} (W : Walker σ) (s : σ) (d : De) : De × σ := ((((W.nf s d.1.toNat 1).1 : Nat), ((W.nf (W.nf s d.1.toNat 1).2 d.2.toNat 4).1 : Nat)), (W.nf (W.nf s d.1.toNat 1).2 d.2.toNat 4).2)
def lisP {σ : Type} (W : Walker σ) (l : List De) (s : σ) : Nat → List De × σ
  | 0 => ([], s)
  | k + 1 => ((lisP W l s k).1 ++ [(dscP W (lisP W l s k).2 ((l[k]?).getD (0, 0))).1], (dscP W (lisP W l s k).2 ((l[k]?).getD (0, 0))).2)
def tgsP {σ : Type} (W : Walker σ) (l : List Nat) (s : σ) : Nat → List Nat × σ
  | 0 => ([], s)
  | k + 1 => ((tgsP W l s k).1 ++ [(W.nf (tgsP W l s k).2 ((l[k]?).getD 0) 4).1], (W.nf (tgsP W l s k).2 ((l[k]?).getD 0) 4).2)
theorem lisP_length {σ : Type} (W : Walker σ) (l : List De) (s : σ) : ∀ k, (lisP W l s k).1.length = k
  | 0 => rfl
  | k + 1 => by
    show ((lisP W l s k).1 ++ [_]).length = k + 1
    rw [List.length_append, lisP_length W l s k]
    rfl
theorem tgsP_length {σ : Type} (W : Walker σ) (l : List Nat) (s : σ) : ∀ k, (tgsP W l s k).1.length = k
  | 0 => rfl
  | k + 1 => by
    show ((tgsP W l s k).1 ++ [_]).length = k + 1
    rw [List.length_append, tgsP_length W l s k]
    rfl
theorem Od.ex {G : Nat → Prop} {w w' : World} {B : Nat} {v : Value} {l : List De} (h : Od w B v l) (hx : Ex G w w') (hG : ∀ b, G b → b < B) : Od w' B v l := by
  refine ⟨⟨h.own.1, ?_⟩, h.max⟩
  rcases h.own.2 with h0 | ⟨g, cap, cur, e, hg, hh, hr⟩
  · exact .inl h0
  · exact .inr ⟨g, cap, cur, e, hg, hx.heap hh (fun hb => by have := hG g hb; omega), hr⟩
theorem Turned.al {B B' : Nat} {w w' : World} {v v' : Value} {l r : List De} (h : Turned w w' B' v v' l) (ho : Od w B' v r) (hB : B ≤ B') : Al Wtu B w w' := by
  refine ⟨h.grown.size, fun b hb hn => h.grown.block b hb fun e => ?_⟩
  rcases ho.own.2 with ⟨rfl, _⟩ | ⟨g, cap, cur, rfl, hg, hh, _⟩
  · simp [Value.ownBlock] at e
  · simp [Value.ownBlock] at e
    subst e
    rcases hn with hn | hn
    · omega
    · exact hn _ _ (.inl (.inr (.inl rfl))) hh
theorem Turned.ex {G : Nat → Prop} {B' : Nat} {W w w' : World} {v v' : Value} {l r : List De} (h : Turned w w' B' v v' l) (ho : Od w B' v r) (hB : W.heap.size ≤ B') (hx : Ex G W w) : Ex G W w' := by
  refine ⟨h.grown.os.trans hx.os, h.grown.tape.trans hx.tape, h.grown.output.trans hx.output, Nat.le_trans hx.size h.grown.size, fun b hb hg => (h.grown.block b (Nat.lt_of_lt_of_le hb hx.size) fun e => ?_).trans (hx.block b hb hg)⟩
  rcases ho.own.2 with ⟨rfl, _⟩ | ⟨g, cap, cur, rfl, hg', hh, _⟩
  · simp [Value.ownBlock] at e
  · simp [Value.ownBlock] at e
    omega
theorem round_d {σ : Type} {W : Walker σ} {G : Nat → Prop} {Ba B : Nat} {I : σ → World → Prop} {Dv : World → Dy → Prop} {fn ff fd : Nat} {bd : Array Value} (K : Wlk W G Ba B I Dv fn ff fd bd) {w w3 w4 : World} (hB : B ≤ w.heap.size)
    {s : σ} {v v' : Value} {out : List De} {V1 V2 : Nat} (hO : Od (w3.alloc (.cells #[.int .i64 (V1 : Int), .int .i64 (V2 : Int)] 73)) w.heap.size v out) (hI : I s w3) (hX : Ex G w w3)
    (hT : Turned (w3.alloc (.cells #[.int .i64 (V1 : Int), .int .i64 (V2 : Int)] 73)) w4 w.heap.size v v' (out ++ [((V1 : Int), (V2 : Int))])) : Od w4 w.heap.size v' (out ++ [((V1 : Int), (V2 : Int))]) ∧ I s w4 ∧ Ex G w w4 :=
  ⟨hT.own, K.inv _ _ _ hI ((Al.alloc _).trans (hT.al hO hB)), hT.ex hO (Nat.le_refl _) (hX.alloc _)⟩
set_option maxHeartbeats 12800000 in
theorem weachD_any {σ : Type} {W : Walker σ} {G : Nat → Prop} {Ba B : Nat} {I : σ → World → Prop} {Dv : World → Dy → Prop} {fn ff fd : Nat} {bd : Array Value} (K : Wlk W G Ba B I Dv fn ff fd bd)
    {s : σ} {w : World} (hs : I s w) (hB : B ≤ w.heap.size) {A : Option Addr} {n c N : Nat} {l : List De} (hl : Ds w Ba A n c l) (hf : ∀ d ∈ l, 0 ≤ d.1 ∧ d.1 < 4294967296 ∧ 0 ≤ d.2 ∧ d.2 < 4294967296) (hn : n ≤ 1000) (hN : N = (W.nf s n 1).1) (hN2 : N ≤ 1000) :
    Calls Tryz.prog 49 #[wkv fn ff fd bd, .slice A n c, .func (.func 50) #[wkv fn ff fd bd] #[]] w fun e w' =>
      ∃ v, e = .returned v ∧ Hid (Od w' w.heap.size v (lisP W l (W.nf s n 1).2 N).1) ∧ Hid (I (lisP W l (W.nf s n 1).2 N).2 w') ∧ Hid (Ex G w w') := by
  obtain ⟨w1, hw1⟩ : ∃ w1, w1 = w.alloc (.cells #[.func (.func fn) bd #[], .func (.func ff) bd #[], .func (.func fd) bd #[]] 57) := ⟨_, rfl⟩
  have E0 := hid (show Ex G w w1 from hw1 ▸ (Ex.refl G w).alloc _)
  have I0 := K.inv s w w1 hs (hw1 ▸ Al.alloc _)
  have X0 : Hid (Wbx w1 w.heap.size fn ff fd bd) := hid (hw1 ▸ heap_alloc_new w _)
  have hlen := hl.len
  have hcap := hl.cap
  have CN := hid (K.num s w1 n 1 I0 (Nat.le_trans hB E0.out.size) (by omega) (by omega) (by omega))
  have HW := hid hw1
  have HL := hid hl
  have HLen := hid hlen
  have HN := hid hN
  have HF := hid hf
  have en := K.en
  have c0 := X0.out.c0
  have hc : IntKind.u64.wrap (n : Int) = (n : Int) := IntWalk.u64_in _ (by omega)
  have hGB : ∀ b, G b → Ba ≤ b := fun b hb => (K.gB b hb).1
  have HGB := hid hGB
  have HG := hid (show ∀ b, G b → b < w.heap.size from fun b hb => Nat.lt_of_lt_of_le (K.gB b hb).2 hB)
  have hBa : Ba ≤ w.heap.size := Nat.le_trans K.ab hB
  clear hw1 hs I0 hl hlen hN hf hGB
  generalize (W.nf s n 1).2 = s1 at CN ⊢
  go_enter Tryz.func49, Tryz.ntmps49
  go_upto_region 1 with fail
  rw [← HW.out]
  clear HW
  go_wp2_with fail
  refine CN.out.mono ?_
  rintro e w2 ⟨U, rfl, hU, hI, hE⟩
  have hU2 := hU.out.2
  obtain rfl : U = N := hU.out.1.trans HN.out.symm
  have EE := hid (E0.out.trans hE.out)
  clear CN c0 X0
  go_wp2
  go_loopg [7, 16] U (fun gg s7 s16 wr => ∃ k : Nat, k ≤ U ∧ U - k ≤ gg ∧ s16 = .int .u64 (k : Int) ∧ Hid (Od wr w.heap.size s7 (lisP W l s1 k).1) ∧ Hid (I (lisP W l s1 k).2 wr) ∧ Hid (Ex G w wr))
  case atStart => exact ⟨0, Nat.zero_le _, by omega, rfl, hid (Od.nil _ _), hI, EE⟩
  case round =>
    obtain ⟨k, hk, hg, rfl, HO, HI, HX⟩ := hrel
    by_cases hlt : k < U
    · have hltz : decide ((k : Int) < (U : Int)) = true := decide_eq_true (by omega)
      have hw16 : IntKind.u64.wrap ((k : Int) + 1) = (k : Int) + 1 := IntWalk.u64_in _ (by omega)
      have hsz := HX.out.size
      obtain ⟨out, hout⟩ : ∃ out, out = (lisP W l s1 k).1 := ⟨_, rfl⟩
      obtain ⟨sk, hsk⟩ : ∃ sk, sk = (lisP W l s1 k).2 := ⟨_, rfl⟩
      have HS1 := hid (show lisP W l s1 (k + 1) = (out ++ [(dscP W sk ((l[k]?).getD (0, 0))).1], (dscP W sk ((l[k]?).getD (0, 0))).2) from by rw [hout, hsk]; rfl)
      have hol : out.length = k := by rw [hout]; exact lisP_length W l s1 k
      rw [← hout] at HO
      rw [← hsk] at HI
      have HOL := hid hol
      clear hout hsk hol
      have key : ∃ p q : Nat, (l[k]?).getD (0, 0) = ((p : Int), (q : Int)) ∧ p < 4294967296 ∧ q < 4294967296 := by
        cases hd : l[k]? with
        | none => exact ⟨0, 0, rfl, by omega, by omega⟩
        | some d =>
          obtain ⟨h1, h2, h3, h4⟩ := HF.out d (List.mem_of_getElem? hd)
          exact ⟨d.1.toNat, d.2.toNat, by show d = _; exact Prod.ext (by show d.1 = _; omega) (by show d.2 = _; omega), by omega, by omega⟩
      obtain ⟨p, q, hpq, hp, hq⟩ := key
      have HPQ := hid hpq
      have CD := hid (fun X (hX : Hid (I sk X)) (hE : Hid (Ex G w X)) => wdesc_any K hX.out (Nat.le_trans hB hE.out.size) p q hp hq)
      have IA := hid (fun o => K.inv sk wr (wr.alloc o) HI.out (Al.alloc o))
      have XA := hid (fun o => HX.out.alloc o)
      by_cases hin : k < n
      · have hinz : decide ((k : Int) < (n : Int)) = true := decide_eq_true (by omega)
        obtain ⟨d, hd⟩ := HL.out.get hin
        have hdd : d = ((p : Int), (q : Int)) := by rw [← hpq, hd]; rfl
        subst hdd
        obtain ⟨b, off, rfl, hbB, hcc⟩ := HL.out.at_ (by omega)
        obtain ⟨c1, c2⟩ := hcc k _ hd
        have HBL := hid (HX.out.below hBa HGB.out)
        have d1 := (HBL.out.cell (p := ⟨b, off + k * 2, none⟩) hbB).trans c1
        have d2 := (HBL.out.cell (p := ⟨b, off + k * 2 + 1, none⟩) hbB).trans c2
        change wr.cell? ⟨b, off + k * 2, none⟩ = some (.int .i64 (p : Int)) at d1
        change wr.cell? ⟨b, off + k * 2 + 1, none⟩ = some (.int .i64 (q : Int)) at d2
        have hbw : b < wr.heap.size := by omega
        clear hcc hd c1 c2 hpq
        go_wp2_with fail
        refine (CD.out _ (hid (IA.out _)) (hid (XA.out _))).mono ?_
        rintro e w3 ⟨V1, V2, rfl, hV, hI3, hE3⟩
        have HX3 := hid ((XA.out _).trans hE3.out)
        have HO3 := hid (((HO.out.ex (Ex.of_below ((Below.refl _ wr).alloc (Nat.le_refl _) (.cells #[.int .i64 (p : Int), .int .i64 (q : Int)] 73))) HG.out).ex hE3.out HG.out).ex (Ex.of_below ((Below.refl _ w3).alloc (Nat.le_refl _) (.cells #[.int .i64 (V1 : Int), .int .i64 (V2 : Int)] 73))) HG.out)
        have hs3 := HX3.out.size
        go_wp2_with (at_builtin; refine list_appD rfl (.tmp 28) (.tmp 32) rfl (v := u7) (B := w.heap.size) (l := out) (r := [((V1 : Int), (V2 : Int))]) rfl rfl HO3.out (ds_at (heap_alloc_new w3 _)) (by have := HOL.out; omega) (by simp; omega) ?_; intro v4 w4 HT)
        have HR := hid (round_d K hB HO3.out hI3.out HX3.out HT.out)
        have HP := hid (show lisP W l s1 (k + 1) = (out ++ [((V1 : Int), (V2 : Int))], (dscP W sk ((p : Int), (q : Int))).2) from by rw [HS1.out, HPQ.out]; exact congrArg (fun d : De => (out ++ [d], _)) (by rw [hV.out.1, hV.out.2.2.1]; rfl))
        go_roundg (U - (k + 1))
        case measure => omega
        case rel => exact ⟨k + 1, by omega, by omega, by go_num, hid (by rw [HP.out]; exact HR.out.1), hid (by rw [HP.out]; exact HR.out.2.1), hid HR.out.2.2⟩
      · have hinz : decide ((k : Int) < (n : Int)) = false := decide_eq_false (by omega)
        have hn0 : l[k]? = none := List.getElem?_eq_none (by rw [HLen.out]; omega)
        have hpz : p = 0 ∧ q = 0 := by rw [hn0] at hpq; have := congrArg Prod.fst hpq; have := congrArg Prod.snd hpq; simp at *; omega
        obtain ⟨rfl, rfl⟩ := hpz
        clear hpq hn0
        go_wp2_with fail
        refine (CD.out _ (hid (IA.out _)) (hid (XA.out _))).mono ?_
        rintro e w3 ⟨V1, V2, rfl, hV, hI3, hE3⟩
        have HX3 := hid ((XA.out _).trans hE3.out)
        have HO3 := hid (((HO.out.ex (Ex.of_below ((Below.refl _ wr).alloc (Nat.le_refl _) (.cells #[.int .i64 ((0 : Nat) : Int), .int .i64 ((0 : Nat) : Int)] 73))) HG.out).ex hE3.out HG.out).ex (Ex.of_below ((Below.refl _ w3).alloc (Nat.le_refl _) (.cells #[.int .i64 (V1 : Int), .int .i64 (V2 : Int)] 73))) HG.out)
        have hs3 := HX3.out.size
        go_wp2_with (at_builtin; refine list_appD rfl (.tmp 28) (.tmp 32) rfl (v := u7) (B := w.heap.size) (l := out) (r := [((V1 : Int), (V2 : Int))]) rfl rfl HO3.out (ds_at (heap_alloc_new w3 _)) (by have := HOL.out; omega) (by simp; omega) ?_; intro v4 w4 HT)
        have HR := hid (round_d K hB HO3.out hI3.out HX3.out HT.out)
        have HP := hid (show lisP W l s1 (k + 1) = (out ++ [((V1 : Int), (V2 : Int))], (dscP W sk (((0 : Nat) : Int), ((0 : Nat) : Int))).2) from by rw [HS1.out, HPQ.out]; exact congrArg (fun d : De => (out ++ [d], _)) (by rw [hV.out.1, hV.out.2.2.1]; rfl))
        go_roundg (U - (k + 1))
        case measure => omega
        case rel => exact ⟨k + 1, by omega, by omega, by go_num, hid (by rw [HP.out]; exact HR.out.1), hid (by rw [HP.out]; exact HR.out.2.1), hid HR.out.2.2⟩
    · have hltz : decide ((k : Int) < (U : Int)) = false := decide_eq_false (by omega)
      obtain rfl : k = U := by omega
      go_wp2
      go_ret
      exact ⟨_, rfl, HO, HI, HX⟩
open Go.RowKit Go.Shelf Go.Lib
set_option maxRecDepth 100000
structure Ut (w : World) (B : Nat) (A : Option Addr) (n c : Nat) (l : List Nat) : Prop where
  len : l.length = n
  cap : n ≤ c
  max : n ≤ 140737488355328
  nil : A = none → n = 0 ∧ c = 0
  fit : ∀ d, d ∈ l → d < 4294967296
  at_ : 0 < n → ∃ b off, A = some ⟨b, off, none⟩ ∧ b < B ∧ ∀ (j : Nat) (d : Nat), l[j]? = some d → w.cell? ⟨b, off + j, none⟩ = some (.int .u32 (d : Int))
section
variable {w w' : World} {B n c : Nat} {A : Option Addr} {l : List Nat}
theorem Ut.nil' (w : World) (B : Nat) : Ut w B none 0 0 [] := ⟨rfl, Nat.le_refl _, by omega, fun _ => ⟨rfl, rfl⟩, by simp, fun h => absurd h (by omega)⟩
end
def cellsT (l : List Nat) : List Value := l.map fun (d : Nat) => .int .u32 (d : Int)
theorem cellsT_length (l : List Nat) : (cellsT l).length = l.length := by unfold cellsT; exact List.length_map _
theorem cellsT_append (l m : List Nat) : cellsT (l ++ m) = cellsT l ++ cellsT m := by unfold cellsT; exact List.map_append
theorem cellsT_get {l : List Nat} {j d : Nat} (h : l[j]? = some d) : (cellsT l)[j]? = some (.int .u32 (d : Int)) := by
  unfold cellsT
  rw [List.getElem?_map, h]
  rfl
theorem cellsT_one_cell (l : List Nat) : ∀ v ∈ cellsT l, v.oneCell' = true := by
  intro v hv
  obtain ⟨d, _, rfl⟩ := List.mem_map.1 hv
  rfl
structure Ot (w : World) (B : Nat) (v : Value) (l : List Nat) : Prop where
  own : w.ownsRow B 75 1 v l.length (cellsT l)
  max : l.length ≤ 100000
  fit : ∀ d, d ∈ l → d < 4294967296
theorem Ot.nil (w : World) (B : Nat) : Ot w B (.slice none 0 0) [] := ⟨World.ownsRow_nil w B _ _, by simp, by simp⟩
theorem Ot.kept {w w' : World} {B : Nat} {v : Value} {l : List Nat} {row : Option Nat} (h : Ot w B v l) (hg : w.grownBy w' row) (hne : v.ownBlock = none ∨ v.ownBlock ≠ row) : Ot w' B v l := ⟨h.own.kept hg hne, h.max, h.fit⟩
theorem Ot.below {w w' : World} {B : Nat} {v : Value} {l : List Nat} (h : Ot w B v l) (hb : Below w.heap.size w w') : Ot w' B v l := h.kept (below_grown hb) (by cases v.ownBlock <;> simp)
theorem Ot.mono {w : World} {B C : Nat} {v : Value} {l : List Nat} (h : Ot w B v l) (hC : C ≤ B) : Ot w C v l := by
  obtain ⟨⟨hl, hor⟩, hm, hf⟩ := h
  refine ⟨⟨hl, ?_⟩, hm, hf⟩
  rcases hor with h | ⟨g, cap, cur, h1, h2, h3⟩
  · exact .inl h
  · exact .inr ⟨g, cap, cur, h1, Nat.le_trans hC h2, h3⟩
theorem Ot.form {w : World} {B : Nat} {v : Value} {l : List Nat} (h : Ot w B v l) : ∃ A n c, v = .slice A n c ∧ Ot w B (.slice A n c) l ∧ Ut w w.heap.size A n c l ∧ c ≤ maxLen ∧ ∀ a, A = some a → B ≤ a.block := by
  have h0 := h
  obtain ⟨⟨hl, hor⟩, hm, hf⟩ := h
  rcases hor with ⟨rfl, h1⟩ | ⟨g, cap, cur, rfl, hB, hg, hn, hc, hs, ht⟩
  · obtain rfl := List.length_eq_zero_iff.1 h1
    exact ⟨none, 0, 0, rfl, h0, Ut.nil' w _, by unfold maxLen; omega, fun a e => (by cases e)⟩
  · refine ⟨some ⟨g, 0, none⟩, l.length, cap, rfl, h0, ⟨rfl, hn, by omega, fun e => (by cases e), hf, fun _ => ⟨g, 0, rfl, lt_of_heap hg, fun j d hj => ?_⟩⟩, hc, fun a e => ?_⟩
    · have hj2 := (List.getElem?_eq_some_iff.1 hj).1
      have e1 := cellsT_get hj
      rw [← ht, List.getElem?_take, if_pos (by omega)] at e1
      rw [cell_of_row w g _ cur _ (0, 0) hg, Nat.zero_add]
      simpa using e1
    · injection e with e
      rw [← e]
      exact hB
theorem ot_lt {w : World} {B : Nat} {v : Value} {l : List Nat} (h : Ot w B v l) : ∀ k, v.ownBlock = some k → B ≤ k ∧ k < w.heap.size := h.own.lt
structure TurnT (w w' : World) (B : Nat) (v v' : Value) (l : List Nat) : Prop where
  own : Ot w' B v' l
  grown : w.grownBy w' v.ownBlock
  at_ : v'.ownBlock = v.ownBlock ∨ v'.ownBlock = some w.heap.size
theorem TurnT.below {w w' : World} {B : Nat} {v v' : Value} {l m : List Nat} (h : TurnT w w' B v v' l) (hO : Ot w B v m) (hB : B ≤ w.heap.size) : Below B w w' :=
  ⟨h.grown.os, h.grown.tape, h.grown.output, h.grown.size, fun k hk => h.grown.block k (by omega) (fun e => by have := (ot_lt hO k e.symm).1; omega)⟩
theorem infoT : (Tryz.prog.info? 75).map (fun i => (i.zero, i.size, i.bytes)) = some (some (.int .u32 0), 1, 4) := by kernel_rfl
theorem run_appT {w : World} {B C m c : Nat} {v : Value} {A : Option Addr} {l r : List Nat} (ty : TypeId) (hO : Ot w B v l) (hD : Ut w C A m c r) (hn : l.length + m ≤ 100000) (hB : B ≤ w.heap.size) :
    ∃ v' w', (Builtin.append_ #[22, 22] ty #[v, .slice A m c]).run Tryz.prog w = .ok v' w' ∧ TurnT w w' B v v' (l ++ r) := by
  obtain ⟨i0, hi0, hz0, hzs, hzb⟩ := info_parts infoT
  rcases Nat.eq_zero_or_pos m with h0 | h0
  · subst h0
    obtain rfl := List.length_eq_zero_iff.1 hD.len
    refine ⟨v, w, ?_, ⟨by rw [List.append_nil]; exact hO, ⟨rfl, rfl, rfl, Nat.le_refl _, fun _ _ _ => rfl⟩, .inl rfl⟩⟩
    obtain ⟨D, e, d, rfl, _, hF, _⟩ := hO.form
    have hc := hF.cap
    cases D with
    | none =>
      obtain ⟨e1, e2⟩ := hF.nil rfl
      rw [e1, e2]
      cases A <;> simp [Builtin.append_, run_underlying Tryz.underlying22, sizeOf, typeInfo, hi0, Builtin.lenOf, Builtin.firstCells, loadCells, loadCellsFrom]
    | some a =>
      cases A <;> simp [Builtin.append_, run_underlying Tryz.underlying22, sizeOf, typeInfo, hi0, Builtin.lenOf, Builtin.firstCells, loadCells, loadCellsFrom, storeCells, hc]
  · obtain ⟨b, off, rfl, _, hcc⟩ := hD.at_ h0
    obtain ⟨v', w', hr, h2, h3, _, h5⟩ := run_append_own_at (P := Tryz.prog) w B 22 ty 75 i0 _ 1 4 Tryz.underlying22 hi0 hz0 hzs hzb rfl (by decide) v l.length _ hO.own ⟨b, off, none⟩ m c (cellsT r) (by rw [cellsT_length, hD.len]; omega) (fun j u hj => by
      have hjl := (List.getElem?_eq_some_iff.1 hj).1
      rw [cellsT_length] at hjl
      have hd : r[j]? = some (r[j]'hjl) := List.getElem?_eq_getElem hjl
      rw [cellsT_get hd] at hj
      injection hj with hj
      rw [Addr.add_lit, ← hj]
      exact hcc j _ hd) (cellsT_one_cell r) (by unfold maxLen; omega) (by omega) hB
    refine ⟨v', w', hr, ⟨⟨?_, by rw [List.length_append, hD.len]; exact hn, fun d hd => ?_⟩, h3, h5⟩⟩
    · rw [List.length_append, hD.len, cellsT_append]
      exact h2
    · rcases List.mem_append.1 hd with hd | hd
      · exact hO.fit d hd
      · exact hD.fit d hd
theorem list_appT {w : World} {ops : Array Oper} {rest : List Oper} {o : Oper} {a : Act} {Q : Exit → Act → World → Prop} (hgd : o.guard = none) (s x : Operand)
    (ho : o.op = .call { callee := .builtin .append, args := #[s, x], argTypes := #[22, 22] }) {B C m c : Nat} {v : Value} {A : Option Addr} {l r : List Nat} (hs : a.eval s = v) (hx : a.eval x = .slice A m c)
    (hO : Ot w B v l) (hD : Ut w C A m c r) (hn : l.length + m ≤ 100000) (hB : B ≤ w.heap.size)
    (h : ∀ v' w', Hid (TurnT w w' B v v' (l ++ r)) → wpList Tryz.prog ops Q rest (a.put o.dst v') w') : wpList Tryz.prog ops Q (o :: rest) a w := by
  obtain ⟨v', w', hr, hT⟩ := run_appT o.type hO hD hn hB
  exact Lib.wpList_append_run w hgd s x _ _ ho _ _ hs hx v' w' hr (h v' w' (hid hT))
theorem ut_row {X : World} {N : Nat} {l : List Nat} (h : X.heap[N]? = some (.cells (cellsT l).toArray 75 (0, 0))) (hl : l.length ≤ 1000) (hf : ∀ d, d ∈ l → d < 4294967296) : Ut X X.heap.size (some ⟨N, 0, none⟩) l.length l.length l :=
  ⟨rfl, Nat.le_refl _, by omega, fun e => (by cases e), hf, fun _ => ⟨N, 0, rfl, lt_of_heap h, fun j d hj => by
    have g1 := cellsT_get hj
    rw [cell_of_row X N _ _ _ (0, 0) h, Nat.zero_add]
    simpa using g1⟩⟩
open Go.RowKit Go.Shelf Go.Lib
set_option maxRecDepth 100000
theorem Ot.ex {G : Nat → Prop} {w w' : World} {B : Nat} {v : Value} {l : List Nat} (h : Ot w B v l) (hx : Ex G w w') (hG : ∀ b, G b → b < B) : Ot w' B v l := by
  refine ⟨⟨h.own.1, ?_⟩, h.max, h.fit⟩
  rcases h.own.2 with h0 | ⟨g, cap, cur, e, hg, hh, hr⟩
  · exact .inl h0
  · exact .inr ⟨g, cap, cur, e, hg, hx.heap hh (fun hb => by have := hG g hb; omega), hr⟩
theorem TurnT.ex {G : Nat → Prop} {B' : Nat} {W w w' : World} {v v' : Value} {l r : List Nat} (h : TurnT w w' B' v v' l) (ho : Ot w B' v r) (hB : W.heap.size ≤ B') (hx : Ex G W w) : Ex G W w' := by
  refine ⟨h.grown.os.trans hx.os, h.grown.tape.trans hx.tape, h.grown.output.trans hx.output, Nat.le_trans hx.size h.grown.size, fun b hb hg => (h.grown.block b (Nat.lt_of_lt_of_le hb hx.size) fun e => ?_).trans (hx.block b hb hg)⟩
  have := (ot_lt ho b e.symm).1
  omega
theorem TurnT.al {B B' : Nat} {w w' : World} {v v' : Value} {l r : List Nat} (h : TurnT w w' B' v v' l) (ho : Ot w B' v r) (hB : B ≤ B') : Al Wtu B w w' := by
  refine ⟨h.grown.size, fun b hb hn => h.grown.block b hb fun e => ?_⟩
  rcases ho.own.2 with ⟨rfl, _⟩ | ⟨g, cap, cur, rfl, hg, hh, _⟩
  · simp [Value.ownBlock] at e
  · simp [Value.ownBlock] at e
    subst e
    rcases hn with hn | hn
    · omega
    · exact hn _ _ (.inr rfl) hh
theorem round_t {σ : Type} {W : Walker σ} {G : Nat → Prop} {Ba B : Nat} {I : σ → World → Prop} {Dv : World → Dy → Prop} {fn ff fd : Nat} {bd : Array Value} (K : Wlk W G Ba B I Dv fn ff fd bd) {w w3 w4 : World} (hB : B ≤ w.heap.size)
    {s : σ} {v v' : Value} {out : List Nat} {V : Nat} (hO : Ot (w3.alloc (.cells #[.int .u32 (V : Int)] 75)) w.heap.size v out) (hI : I s w3) (hX : Ex G w w3)
    (hT : TurnT (w3.alloc (.cells #[.int .u32 (V : Int)] 75)) w4 w.heap.size v v' (out ++ [V])) : Ot w4 w.heap.size v' (out ++ [V]) ∧ I s w4 ∧ Ex G w w4 :=
  ⟨hT.own, K.inv _ _ _ hI ((Al.alloc _).trans (hT.al hO hB)), hT.ex hO (Nat.le_refl _) (hX.alloc _)⟩
set_option maxHeartbeats 12800000 in
theorem weachT_any {σ : Type} {W : Walker σ} {G : Nat → Prop} {Ba B : Nat} {I : σ → World → Prop} {Dv : World → Dy → Prop} {fn ff fd : Nat} {bd : Array Value} (K : Wlk W G Ba B I Dv fn ff fd bd)
    {s : σ} {w : World} (hs : I s w) (hB : B ≤ w.heap.size) {A : Option Addr} {n c N : Nat} {l : List Nat} {t : Nat → Nat} (hl : Rd w Ba A n c t) (hlen : l.length = n) (ht : ∀ j, t j = (l[j]?).getD 0) (hn : n ≤ 1000) (hN : N = (W.nf s n 1).1) (hN2 : N ≤ 1000) :
    Calls Tryz.prog 52 #[wkv fn ff fd bd, .slice A n c, .func (.func 53) #[wkv fn ff fd bd] #[]] w fun e w' =>
      ∃ v, e = .returned v ∧ Hid (Ot w' w.heap.size v (tgsP W l (W.nf s n 1).2 N).1) ∧ Hid (I (tgsP W l (W.nf s n 1).2 N).2 w') ∧ Hid (Ex G w w') := by
  obtain ⟨w1, hw1⟩ : ∃ w1, w1 = w.alloc (.cells #[.func (.func fn) bd #[], .func (.func ff) bd #[], .func (.func fd) bd #[]] 57) := ⟨_, rfl⟩
  have E0 := hid (show Ex G w w1 from hw1 ▸ (Ex.refl G w).alloc _)
  have I0 := K.inv s w w1 hs (hw1 ▸ Al.alloc _)
  have X0 : Hid (Wbx w1 w.heap.size fn ff fd bd) := hid (hw1 ▸ heap_alloc_new w _)
  have hcap := hl.cap
  have CN := hid (K.num s w1 n 1 I0 (Nat.le_trans hB E0.out.size) (by omega) (by omega) (by omega))
  have HW := hid hw1
  have HL := hid hl
  have HLen := hid hlen
  have HN := hid hN
  have HT := hid ht
  have en := K.en
  have c0 := X0.out.c0
  have hc : IntKind.u64.wrap (n : Int) = (n : Int) := IntWalk.u64_in _ (by omega)
  have hGB : ∀ b, G b → Ba ≤ b := fun b hb => (K.gB b hb).1
  have HGB := hid hGB
  have HG := hid (show ∀ b, G b → b < w.heap.size from fun b hb => Nat.lt_of_lt_of_le (K.gB b hb).2 hB)
  have hBa : Ba ≤ w.heap.size := Nat.le_trans K.ab hB
  clear hw1 hs I0 hl hlen hN ht hGB
  generalize (W.nf s n 1).2 = s1 at CN ⊢
  go_enter Tryz.func52, Tryz.ntmps52
  go_upto_region 1 with fail
  rw [← HW.out]
  clear HW
  go_wp2_with fail
  refine CN.out.mono ?_
  rintro e w2 ⟨U, rfl, hU, hI, hE⟩
  have hU2 := hU.out.2
  obtain rfl : U = N := hU.out.1.trans HN.out.symm
  have EE := hid (E0.out.trans hE.out)
  clear CN c0 X0
  go_wp2
  go_loopg [7, 16] U (fun gg s7 s16 wr => ∃ k : Nat, k ≤ U ∧ U - k ≤ gg ∧ s16 = .int .u64 (k : Int) ∧ Hid (Ot wr w.heap.size s7 (tgsP W l s1 k).1) ∧ Hid (I (tgsP W l s1 k).2 wr) ∧ Hid (Ex G w wr))
  case atStart => exact ⟨0, Nat.zero_le _, by omega, rfl, hid (Ot.nil _ _), hI, EE⟩
  case round =>
    obtain ⟨k, hk, hg, rfl, HO, HI, HX⟩ := hrel
    by_cases hlt : k < U
    · have hltz : decide ((k : Int) < (U : Int)) = true := decide_eq_true (by omega)
      have hw16 : IntKind.u64.wrap ((k : Int) + 1) = (k : Int) + 1 := IntWalk.u64_in _ (by omega)
      have hsz := HX.out.size
      obtain ⟨out, hout⟩ : ∃ out, out = (tgsP W l s1 k).1 := ⟨_, rfl⟩
      obtain ⟨sk, hsk⟩ : ∃ sk, sk = (tgsP W l s1 k).2 := ⟨_, rfl⟩
      have HS1 := hid (show tgsP W l s1 (k + 1) = (out ++ [(W.nf sk (t k) 4).1], (W.nf sk (t k) 4).2) from by rw [hout, hsk, HT.out k]; rfl)
      have hol : out.length = k := by rw [hout]; exact tgsP_length W l s1 k
      rw [← hout] at HO
      rw [← hsk] at HI
      have HOL := hid hol
      clear hout hsk hol
      have hp := HL.out.lt k
      have CD := hid (fun X (hX : Hid (I sk X)) (hE : Hid (Ex G w X)) => tag_any K hX.out (Nat.le_trans hB hE.out.size) (t k) hp)
      by_cases hin : k < n
      · have hinz : decide ((k : Int) < (n : Int)) = true := decide_eq_true (by omega)
        obtain ⟨b, off, rfl, hbB, hcc⟩ := HL.out.at_ (by omega)
        have HBL := hid (HX.out.below hBa HGB.out)
        have d1 := (HBL.out.cell (p := ⟨b, off + k, none⟩) hbB).trans (hcc k hin)
        generalize t k = p at *
        have hbw : b < wr.heap.size := by omega
        clear hcc
        go_wp2_with fail
        refine (CD.out _ HI HX).mono ?_
        rintro e w3 ⟨V1, rfl, hV, hI3, hE3⟩
        have HX3 := hid (HX.out.trans hE3.out)
        have HO3 := hid ((HO.out.ex hE3.out HG.out).ex (Ex.of_below ((Below.refl _ w3).alloc (Nat.le_refl _) (.cells #[.int .u32 (V1 : Int)] 75))) HG.out)
        have hs3 := HX3.out.size
        have hfit : ∀ d, d ∈ [V1] → d < 4294967296 := by intro d hd; simp at hd; rw [hd]; exact hV.out.2
        have HF1 := hid hfit
        clear hfit
        go_wp2_with (at_builtin; refine list_appT rfl (.tmp 28) (.tmp 32) rfl (v := u7) (B := w.heap.size) (l := out) (r := [V1]) rfl rfl HO3.out (ut_row (heap_alloc_new w3 _) (by simp) HF1.out) (by have := HOL.out; omega) (by simp; omega) ?_; intro v4 w4 HT4)
        have HR := hid (round_t K hB HO3.out hI3.out HX3.out HT4.out)
        have HP := hid (show tgsP W l s1 (k + 1) = (out ++ [V1], (W.nf sk p 4).2) from by rw [HS1.out, ← hV.out.1])
        go_roundg (U - (k + 1))
        case measure => omega
        case rel => exact ⟨k + 1, by omega, by omega, by go_num, hid (by rw [HP.out]; exact HR.out.1), hid (by rw [HP.out]; exact HR.out.2.1), hid HR.out.2.2⟩
      · have hinz : decide ((k : Int) < (n : Int)) = false := decide_eq_false (by omega)
        have hz := HL.out.out k (by omega)
        rw [hz] at CD HS1
        clear hz hp
        go_wp2_with fail
        refine (CD.out _ HI HX).mono ?_
        rintro e w3 ⟨V1, rfl, hV, hI3, hE3⟩
        have HX3 := hid (HX.out.trans hE3.out)
        have HO3 := hid ((HO.out.ex hE3.out HG.out).ex (Ex.of_below ((Below.refl _ w3).alloc (Nat.le_refl _) (.cells #[.int .u32 (V1 : Int)] 75))) HG.out)
        have hs3 := HX3.out.size
        have hfit : ∀ d, d ∈ [V1] → d < 4294967296 := by intro d hd; simp at hd; rw [hd]; exact hV.out.2
        have HF1 := hid hfit
        clear hfit
        go_wp2_with (at_builtin; refine list_appT rfl (.tmp 28) (.tmp 32) rfl (v := u7) (B := w.heap.size) (l := out) (r := [V1]) rfl rfl HO3.out (ut_row (heap_alloc_new w3 _) (by simp) HF1.out) (by have := HOL.out; omega) (by simp; omega) ?_; intro v4 w4 HT4)
        have HR := hid (round_t K hB HO3.out hI3.out HX3.out HT4.out)
        have HP := hid (show tgsP W l s1 (k + 1) = (out ++ [V1], (W.nf sk 0 4).2) from by rw [HS1.out, ← hV.out.1])
        go_roundg (U - (k + 1))
        case measure => omega
        case rel => exact ⟨k + 1, by omega, by omega, by go_num, hid (by rw [HP.out]; exact HR.out.1), hid (by rw [HP.out]; exact HR.out.2.1), hid HR.out.2.2⟩
    · have hltz : decide ((k : Int) < (U : Int)) = false := decide_eq_false (by omega)
      obtain rfl : k = U := by omega
      go_wp2
      go_ret
      exact ⟨_, rfl, HO, HI, HX⟩
end Go.Proofs.YtbankbehfjogpaaGreat
