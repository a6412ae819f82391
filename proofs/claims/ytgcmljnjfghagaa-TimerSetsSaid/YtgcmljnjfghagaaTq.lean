/- The queue: its row's methods. -/
import Derived.Test.YtgcmljnjfghagaaTcd
import Derived.Deep.RegionHeld3
import Derived.Deep.DeepBigQuietO
import Derived.StillTailTactics
namespace Go.Proofs.Ytgcmljnjfghagaa.Tm
open Go.RowKit Go.Shelf Go.Lib
set_option maxRecDepth 100000

theorem Od.drew {w : World} {B : Nat} {v : Value} {l : List De} (h : Od w B v l) : Od w.drew B v l := h.below (Below.refl _ w).drew
theorem len_any {w : World} {A : Option Addr} {n c : Nat} :
    Calls Try.prog 49 #[.slice A n c] w fun e w' => e = .returned (.int .i64 n) ∧ w = w' := by
  go_enter Try.func49, Try.ntmps49
  go_wp2
  go_ret
  exact ⟨rfl, rfl⟩

set_option maxHeartbeats 1600000 in
theorem less_any {w : World} {B n c i j : Nat} {A : Option Addr} {l : List De} {x y : De} (h : Ds w B A n c l) (hB : B ≤ w.heap.size) (hx : l[i]? = some x) (hy : l[j]? = some y) :
    Calls Try.prog 70 #[.slice A n c, .int .i64 i, .int .i64 j] w (Tel w (ah x y)) := by
  have HC := hid (fun w => ahead_any x y w)
  have hi := (List.getElem?_eq_some_iff.1 hx).1
  have hj := (List.getElem?_eq_some_iff.1 hy).1
  rw [h.len] at hi hj
  have hcap := h.cap
  have hm := h.max
  obtain ⟨b, off, rfl, hb, hc⟩ := h.at_ (by omega)
  obtain ⟨c1, c2⟩ := hc i x hx
  obtain ⟨c3, c4⟩ := hc j y hy
  obtain ⟨x1, x2⟩ := x
  obtain ⟨y1, y2⟩ := y
  change w.cell? ⟨b, off + i * 2, none⟩ = some (.int .i64 x1) at c1
  change w.cell? ⟨b, off + i * 2 + 1, none⟩ = some (.int .i64 x2) at c2
  change w.cell? ⟨b, off + j * 2, none⟩ = some (.int .i64 y1) at c3
  change w.cell? ⟨b, off + j * 2 + 1, none⟩ = some (.int .i64 y2) at c4
  generalize ah (x1, x2) (y1, y2) = r at HC ⊢
  have hin : (i : Int) < (n : Int) := by omega
  have hjn : (j : Int) < (n : Int) := by omega
  unfold Tel at HC
  unfold dv at HC
  clear h hc hx hy hi hj
  have mixed : Try.prog.follows .mixedOrders = true := by kernel_rfl
  have hbw : b < w.heap.size := Nat.lt_of_lt_of_le hb hB
  have CF : Hid (∀ X, Below w.heap.size w X → X.cell? ⟨b, off + i * 2, none⟩ = some (.int .i64 x1) ∧ X.cell? ⟨b, off + i * 2 + 1, none⟩ = some (.int .i64 x2) ∧ X.cell? ⟨b, off + j * 2, none⟩ = some (.int .i64 y1) ∧ X.cell? ⟨b, off + j * 2 + 1, none⟩ = some (.int .i64 y2)) := hid fun X hb =>
    ⟨(hb.cell (p := ⟨b, off + i * 2, none⟩) hbw).trans c1, (hb.cell (p := ⟨b, off + i * 2 + 1, none⟩) hbw).trans c2, (hb.cell (p := ⟨b, off + j * 2, none⟩) hbw).trans c3, (hb.cell (p := ⟨b, off + j * 2 + 1, none⟩) hbw).trans c4⟩
  have HBz : Hid (Below w.heap.size w w.drew) := hid (Below.refl _ w).drew
  clear hb hB hbw
  go_enter Try.func70, Try.ntmps70
  go_wp2_with fail
  go_region_held3 (fun X => X.cell? ⟨b, off + i * 2, none⟩ = some (.int .i64 x1) ∧ X.cell? ⟨b, off + i * 2 + 1, none⟩ = some (.int .i64 x2) ∧ X.cell? ⟨b, off + j * 2, none⟩ = some (.int .i64 y1) ∧ X.cell? ⟨b, off + j * 2 + 1, none⟩ = some (.int .i64 y2))
    (exact CF.out _ HBz.out)
    (first
    | (go_at_call 40
       with_reducible refine (HC.out _).mono ?_
       rintro e' w' ⟨rfl, hb⟩
       have HBz := hid (HBz.out.trans (hb.out.mono HBz.out.size))))
  all_goals
    go_wp2
    go_ret
    exact ⟨rfl, HBz⟩

theorem put_el {o : Oper} {a : Act} {w : World} {K : Act → World → Prop} {Q : Exit → Act → World → Prop} (x y : Operand) (ho : o.op = .store 23 x y) {B : Nat} {l : List De} (g i n c : Nat) (d : De)
    (hx : a.eval x = .pointer (some ⟨g, i * 2, none⟩)) (hy : a.eval y = .agg #[.int .i64 d.1, .int .i64 d.2]) (hO : Od w B (.slice (some ⟨g, 0, none⟩) n c) l) (hi : i < n)
    (h : ∀ w', Od w' B (.slice (some ⟨g, 0, none⟩) n c) (l.set i d) → w.grownBy w' (some g) → K (a.put o.dst undef) w') : o.wp Try.prog a w K Q := by
  have hr := hO.row
  have hp := Od.put hO i d
  refine wp_store_mid 23 x y ho g (i * 2) #[.int .i64 d.1, .int .i64 d.2] hx hy (fun j hj => ?_) (by kernel_rfl) (by simp [Value.oneCell']) (h _ hp.1 hp.2)
  have hj : j < 2 := hj
  obtain ⟨e, he⟩ : ∃ e, l[i]? = some e := ⟨_, List.getElem?_eq_getElem (by rw [hr.1]; exact hi)⟩
  obtain ⟨c1, c2⟩ := hr.2.2.2.2.2 i e he
  refine ⟨?_, hr.2.2.2.2.1 _⟩
  match j, hj with
  | 0, _ => rw [Nat.add_zero, c1]; rfl
  | 1, _ => rw [c2]; rfl

theorem wpl_put_el {ops : Array Oper} {rest : List Oper} {o : Oper} {a : Act} {w : World} {Q : Exit → Act → World → Prop} (hgd : o.guard = none) (x y : Operand) (ho : o.op = .store 23 x y) {B : Nat} {l : List De} (g i n c : Nat) (d : De)
    (hx : a.eval x = .pointer (some ⟨g, i * 2, none⟩)) (hy : a.eval y = .agg #[.int .i64 d.1, .int .i64 d.2]) (hO : Od w B (.slice (some ⟨g, 0, none⟩) n c) l) (hi : i < n)
    (h : ∀ w', Od w' B (.slice (some ⟨g, 0, none⟩) n c) (l.set i d) → w.grownBy w' (some g) → wpList Try.prog ops Q rest (a.put o.dst undef) w') : wpList Try.prog ops Q (o :: rest) a w := by
  have hr := hO.row
  have hp := Od.put hO i d
  refine wpList_store_mid hgd 23 x y ho g (i * 2) #[.int .i64 d.1, .int .i64 d.2] hx hy (fun j hj => ?_) (by kernel_rfl) (by simp [Value.oneCell']) (h _ hp.1 hp.2)
  have hj : j < 2 := hj
  obtain ⟨e, he⟩ : ∃ e, l[i]? = some e := ⟨_, List.getElem?_eq_getElem (by rw [hr.1]; exact hi)⟩
  obtain ⟨c1, c2⟩ := hr.2.2.2.2.2 i e he
  refine ⟨?_, hr.2.2.2.2.1 _⟩
  match j, hj with
  | 0, _ => rw [Nat.add_zero, c1]; rfl
  | 1, _ => rw [c2]; rfl

set_option maxHeartbeats 1600000 in
theorem swap_any {w : World} {B n c i j : Nat} {A : Option Addr} {l : List De} {x y : De} (h : Od w B (.slice A n c) l) (hx : l[i]? = some x) (hy : l[j]? = some y) :
    Calls Try.prog 72 #[.slice A n c, .int .i64 i, .int .i64 j] w fun e w' => e = .returned (.tuple #[]) ∧ Hid (Od w' B (.slice A n c) (sw l i j x y) ∧ w.grownBy w' (Value.slice A n c).ownBlock) := by
  obtain ⟨g, rfl⟩ : ∃ g, A = some ⟨g, 0, none⟩ := by
    rcases h.own.2 with ⟨e, h0⟩ | ⟨g, cap, cur, e, _⟩
    · have := (List.getElem?_eq_some_iff.1 hx).1
      omega
    · injection e with e1 _ _
      exact ⟨g, e1⟩
  have hi := (List.getElem?_eq_some_iff.1 hx).1
  have hj := (List.getElem?_eq_some_iff.1 hy).1
  obtain ⟨hn, hBg, hgw, hcap, hfz, hcells⟩ := h.row
  rw [hn] at hi hj
  obtain ⟨c1, c2⟩ := hcells i x hx
  obtain ⟨c3, c4⟩ := hcells j y hy
  have HO := hid h
  have H1 := hid (h.drew.put i y)
  have H2 := hid (H1.out.1.put j x)
  obtain ⟨x1, x2⟩ := x
  obtain ⟨y1, y2⟩ := y
  change w.cell? ⟨g, i * 2, none⟩ = some (.int .i64 x1) at c1
  change w.cell? ⟨g, i * 2 + 1, none⟩ = some (.int .i64 x2) at c2
  change w.cell? ⟨g, j * 2, none⟩ = some (.int .i64 y1) at c3
  change w.cell? ⟨g, j * 2 + 1, none⟩ = some (.int .i64 y2) at c4
  have hin : (i : Int) < (n : Int) := by omega
  have hjn : (j : Int) < (n : Int) := by omega
  have hm : n ≤ 100000 := by rw [← hn]; exact h.max
  clear h hcells hx hy hi hj
  have mixed : Try.prog.follows .mixedOrders = true := by kernel_rfl
  have CW : Hid (Od w.drew B (.slice (some ⟨g, 0, none⟩) n c) l) := hid HO.out.drew
  have CF : w.drew.cell? ⟨g, i * 2, none⟩ = some (.int .i64 x1) ∧ w.drew.cell? ⟨g, i * 2 + 1, none⟩ = some (.int .i64 x2) ∧ w.drew.cell? ⟨g, j * 2, none⟩ = some (.int .i64 y1) ∧ w.drew.cell? ⟨g, j * 2 + 1, none⟩ = some (.int .i64 y2) := ⟨c1, c2, c3, c4⟩
  have hil : i < n := by omega
  have hjl : j < n := by omega
  have GW : Hid (w.grownBy w.drew (some g)) := hid ⟨rfl, rfl, rfl, Nat.le_refl _, fun _ _ _ => rfl⟩
  clear c1 c2 c3 c4 H1 H2 HO hfz
  go_enter Try.func72, Try.ntmps72
  go_upto_region 0 with fail
  have mixed : Try.prog.follows .mixedOrders = true := by kernel_rfl
  refine wp_region_held_drew (S := fun _ => True) (by kernel_rfl) trivial (fun hHeld => ?_)
  generalize w.drew = V at *
  refine wpAnyH_take (i := 0) (v := ?va1) rfl (by kernel_rfl) (by kernel_rfl) (by kernel_rfl) (fun _ _ _ h => h) (Or.inl ⟨by rfl, ?ya1⟩) (by assumption) ?ra1
  case ya1 => (intro w0 hSw; (try dsimp only at hSw); (try simp only [List.getElem_toArray, List.getElem_cons_zero]); go_simp; try with_reducible rfl)
  (try simp only [Act.put, List.setIfInBounds_toArray, List.set_cons_zero, List.set_cons_succ, List.getElem_toArray, List.getElem_cons_zero])
  refine wpAnyH_take (i := 1) (v := ?va2) rfl (by kernel_rfl) (by kernel_rfl) (by kernel_rfl) (fun _ _ _ h => h) (Or.inl ⟨by rfl, ?ya2⟩) (by assumption) ?ra2
  case ya2 => (intro w0 hSw; (try dsimp only at hSw); (try simp only [List.getElem_toArray, List.getElem_cons_succ, List.getElem_cons_zero]); go_simp; try with_reducible rfl)
  (try simp only [Act.put, List.setIfInBounds_toArray, List.set_cons_zero, List.set_cons_succ, List.getElem_toArray, List.getElem_cons_succ, List.getElem_cons_zero])
  refine wpAnyH_take (i := 2) (v := ?va3) rfl (by kernel_rfl) (by kernel_rfl) (by kernel_rfl) (fun _ _ _ h => h) (Or.inl ⟨by rfl, ?ya3⟩) (by assumption) ?ra3
  case ya3 => (intro w0 hSw; (try dsimp only at hSw); (try simp only [List.getElem_toArray, List.getElem_cons_succ, List.getElem_cons_zero]); go_simp; try with_reducible rfl)
  (try simp only [Act.put, List.setIfInBounds_toArray, List.set_cons_zero, List.set_cons_succ, List.getElem_toArray, List.getElem_cons_succ, List.getElem_cons_zero])
  refine wpAnyH_take (i := 3) (v := ?va4) rfl (by kernel_rfl) (by kernel_rfl) (by kernel_rfl) (fun _ _ _ h => h) (Or.inl ⟨by rfl, ?ya4⟩) (by assumption) ?ra4
  case ya4 => (intro w0 hSw; (try dsimp only at hSw); (try simp only [List.getElem_toArray, List.getElem_cons_succ, List.getElem_cons_zero]); go_simp; try with_reducible rfl)
  (try simp only [Act.put, List.setIfInBounds_toArray, List.set_cons_zero, List.set_cons_succ, List.getElem_toArray, List.getElem_cons_succ, List.getElem_cons_zero])
  refine wpAnyH_take (i := 4) (v := ?va5) rfl (by kernel_rfl) (by kernel_rfl) (by kernel_rfl) (fun _ _ _ h => h) (Or.inl ⟨by rfl, ?ya5⟩) (by assumption) ?ra5
  case ya5 => (intro w0 hSw; (try dsimp only at hSw); (try simp only [List.getElem_toArray, List.getElem_cons_succ, List.getElem_cons_zero]); go_simp; try with_reducible rfl)
  (try simp only [Act.put, List.setIfInBounds_toArray, List.set_cons_zero, List.set_cons_succ, List.getElem_toArray, List.getElem_cons_succ, List.getElem_cons_zero])
  refine wpAnyH_take (i := 5) (v := ?va6) rfl (by kernel_rfl) (by kernel_rfl) (by kernel_rfl) (fun _ _ _ h => h) (Or.inl ⟨by rfl, ?ya6⟩) (by assumption) ?ra6
  case ya6 => (intro w0 hSw; (try dsimp only at hSw); (try simp only [List.getElem_toArray, List.getElem_cons_succ, List.getElem_cons_zero]); go_simp; try with_reducible rfl)
  (try simp only [Act.put, List.setIfInBounds_toArray, List.set_cons_zero, List.set_cons_succ, List.getElem_toArray, List.getElem_cons_succ, List.getElem_cons_zero])
  refine wpAnyH_take (i := 6) (v := ?va7) rfl (by kernel_rfl) (by kernel_rfl) (by kernel_rfl) (fun _ _ _ h => h) (Or.inl ⟨by rfl, ?ya7⟩) (by assumption) ?ra7
  case ya7 => (intro w0 hSw; (try dsimp only at hSw); (try simp only [List.getElem_toArray, List.getElem_cons_succ, List.getElem_cons_zero]); go_simp; try with_reducible rfl)
  (try simp only [Act.put, List.setIfInBounds_toArray, List.set_cons_zero, List.set_cons_succ, List.getElem_toArray, List.getElem_cons_succ, List.getElem_cons_zero])
  refine wpAnyH_take (i := 8) (v := ?va8) rfl (by kernel_rfl) (by kernel_rfl) (by kernel_rfl) (fun _ _ _ h => h) (Or.inl ⟨by rfl, ?ya8⟩) (by assumption) ?ra8
  case ya8 => (intro w0 hSw; (try dsimp only at hSw); (try simp only [List.getElem_toArray, List.getElem_cons_succ, List.getElem_cons_zero]); go_simp; try with_reducible rfl)
  (try simp only [Act.put, List.setIfInBounds_toArray, List.set_cons_zero, List.set_cons_succ, List.getElem_toArray, List.getElem_cons_succ, List.getElem_cons_zero])
  refine wpAnyH_take (i := 9) (v := ?va9) rfl (by kernel_rfl) (by kernel_rfl) (by kernel_rfl) (fun _ _ _ h => h) (Or.inl ⟨by rfl, ?ya9⟩) (by assumption) ?ra9
  case ya9 => (intro w0 hSw; (try dsimp only at hSw); (try simp only [List.getElem_toArray, List.getElem_cons_succ, List.getElem_cons_zero]); go_simp; try with_reducible rfl)
  (try simp only [Act.put, List.setIfInBounds_toArray, List.set_cons_zero, List.set_cons_succ, List.getElem_toArray, List.getElem_cons_succ, List.getElem_cons_zero])
  refine wpAnyH_take (i := 10) (v := ?va10) rfl (by kernel_rfl) (by kernel_rfl) (by kernel_rfl) (fun _ _ _ h => h) (Or.inl ⟨by rfl, ?ya10⟩) (by assumption) ?ra10
  case ya10 => (intro w0 hSw; (try dsimp only at hSw); (try simp only [List.getElem_toArray, List.getElem_cons_succ, List.getElem_cons_zero]); go_simp; try with_reducible rfl)
  (try simp only [Act.put, List.setIfInBounds_toArray, List.set_cons_zero, List.set_cons_succ, List.getElem_toArray, List.getElem_cons_succ, List.getElem_cons_zero])
  refine wpAnyH_ready (rs := [7, 11]) (by kernel_rfl) (by simp) ?_
  refine AllReadyH.cons rfl (fun K' hK => ?_) (AllReadyH.cons rfl (fun K' hK => ?_) AllReadyH.nil)
  · (try simp only [Act.put, List.setIfInBounds_toArray, List.set_cons_zero, List.set_cons_succ, List.getElem_toArray, List.getElem_cons_succ, List.getElem_cons_zero])
    go_simp
    
    try dsimp only
    refine hK.out _ _ (trivial) (fun hHeld => ?_)
    clear hK K'
    (try simp only [Act.put, List.setIfInBounds_toArray, List.set_cons_zero, List.set_cons_succ, List.getElem_toArray, List.getElem_cons_succ, List.getElem_cons_zero])
    refine wpAnyH_ready (rs := [11]) (by kernel_rfl) (by simp) ?_
    refine AllReadyH.cons rfl (fun K' hK => ?_) AllReadyH.nil
    (try simp only [Act.put, List.setIfInBounds_toArray, List.set_cons_zero, List.set_cons_succ, List.getElem_toArray, List.getElem_cons_succ, List.getElem_cons_zero])
    go_simp
    
    try dsimp only
    refine hK.out _ _ (trivial) (fun hHeld => ?_)
    clear hK K'
    (try simp only [Act.put, List.setIfInBounds_toArray, List.set_cons_zero, List.set_cons_succ, List.getElem_toArray, List.getElem_cons_succ, List.getElem_cons_zero])
    refine wpAnyH_take (i := 12) (v := ?vb1) rfl (by kernel_rfl) (by kernel_rfl) (by kernel_rfl) (fun _ _ _ h => h) (Or.inl ⟨by rfl, ?yb1⟩) (by assumption) ?rb1
    case yb1 => (intro w0 hSw; (try dsimp only at hSw); (try simp only [List.getElem_toArray, List.getElem_cons_succ, List.getElem_cons_zero]); go_simp; try with_reducible rfl)
    (try simp only [Act.put, List.setIfInBounds_toArray, List.set_cons_zero, List.set_cons_succ, List.getElem_toArray, List.getElem_cons_succ, List.getElem_cons_zero])
    refine wpAnyH_ready (rs := [13]) (by kernel_rfl) (by simp) ?_
    refine AllReadyH.cons rfl (fun K' hK => ?_) AllReadyH.nil
    (try simp only [Act.put, List.getElem_toArray, List.getElem_cons_succ, List.getElem_cons_zero])
    rw [if_pos (by rfl)]
    refine put_el (.tmp 18) (.tmp 13) rfl g i n c (y1, y2) rfl rfl CW.out hil ?_
    intro w2 O2 G2
    try dsimp only
    refine hK.out _ _ (trivial) (fun hHeld => ?_)
    clear hK K'
    (try simp only [Act.put])
    refine wpAnyH_take (i := 14) (v := ?vb2) rfl (by kernel_rfl) (by kernel_rfl) (by kernel_rfl) (fun _ _ _ h => h) (Or.inl ⟨by rfl, ?yb2⟩) (by assumption) ?rb2
    case yb2 => (intro w0 hSw; (try dsimp only at hSw); (try simp only [List.getElem_toArray, List.getElem_cons_succ, List.getElem_cons_zero]); go_simp; try with_reducible rfl)
    (try simp only [Act.put, List.setIfInBounds_toArray, List.set_cons_zero, List.set_cons_succ, List.getElem_toArray, List.getElem_cons_succ, List.getElem_cons_zero])
    refine wpAnyH_ready (rs := [15]) (by kernel_rfl) (by simp) ?_
    refine AllReadyH.cons rfl (fun K' hK => ?_) AllReadyH.nil
    (try simp only [Act.put, List.getElem_toArray, List.getElem_cons_succ, List.getElem_cons_zero])
    rw [if_pos (by rfl)]
    refine put_el (.tmp 19) (.tmp 17) rfl g j n c (x1, x2) rfl rfl O2 hjl ?_
    intro w3 O3 G3
    try dsimp only
    refine hK.out _ _ (trivial) (fun hHeld => ?_)
    clear hK K'
    (try simp only [Act.put])
    refine wpAnyH_done (by kernel_rfl) ?_ _
    go_wp2
    go_end0
    exact ⟨rfl, hid ⟨O3, grown_on (grown_on GW.out G2) G3⟩⟩
  · (try simp only [Act.put, List.setIfInBounds_toArray, List.set_cons_zero, List.set_cons_succ, List.getElem_toArray, List.getElem_cons_succ, List.getElem_cons_zero])
    go_simp
    
    try dsimp only
    refine hK.out _ _ (trivial) (fun hHeld => ?_)
    clear hK K'
    (try simp only [Act.put, List.setIfInBounds_toArray, List.set_cons_zero, List.set_cons_succ, List.getElem_toArray, List.getElem_cons_succ, List.getElem_cons_zero])
    refine wpAnyH_ready (rs := [7]) (by kernel_rfl) (by simp) ?_
    refine AllReadyH.cons rfl (fun K' hK => ?_) AllReadyH.nil
    (try simp only [Act.put, List.setIfInBounds_toArray, List.set_cons_zero, List.set_cons_succ, List.getElem_toArray, List.getElem_cons_succ, List.getElem_cons_zero])
    go_simp
    
    try dsimp only
    refine hK.out _ _ (trivial) (fun hHeld => ?_)
    clear hK K'
    (try simp only [Act.put, List.setIfInBounds_toArray, List.set_cons_zero, List.set_cons_succ, List.getElem_toArray, List.getElem_cons_succ, List.getElem_cons_zero])
    refine wpAnyH_take (i := 12) (v := ?vc1) rfl (by kernel_rfl) (by kernel_rfl) (by kernel_rfl) (fun _ _ _ h => h) (Or.inl ⟨by rfl, ?yc1⟩) (by assumption) ?rc1
    case yc1 => (intro w0 hSw; (try dsimp only at hSw); (try simp only [List.getElem_toArray, List.getElem_cons_succ, List.getElem_cons_zero]); go_simp; try with_reducible rfl)
    (try simp only [Act.put, List.setIfInBounds_toArray, List.set_cons_zero, List.set_cons_succ, List.getElem_toArray, List.getElem_cons_succ, List.getElem_cons_zero])
    refine wpAnyH_ready (rs := [13]) (by kernel_rfl) (by simp) ?_
    refine AllReadyH.cons rfl (fun K' hK => ?_) AllReadyH.nil
    (try simp only [Act.put, List.getElem_toArray, List.getElem_cons_succ, List.getElem_cons_zero])
    rw [if_pos (by rfl)]
    refine put_el (.tmp 18) (.tmp 13) rfl g i n c (y1, y2) rfl rfl CW.out hil ?_
    intro w2 O2 G2
    try dsimp only
    refine hK.out _ _ (trivial) (fun hHeld => ?_)
    clear hK K'
    (try simp only [Act.put])
    refine wpAnyH_take (i := 14) (v := ?vc2) rfl (by kernel_rfl) (by kernel_rfl) (by kernel_rfl) (fun _ _ _ h => h) (Or.inl ⟨by rfl, ?yc2⟩) (by assumption) ?rc2
    case yc2 => (intro w0 hSw; (try dsimp only at hSw); (try simp only [List.getElem_toArray, List.getElem_cons_succ, List.getElem_cons_zero]); go_simp; try with_reducible rfl)
    (try simp only [Act.put, List.setIfInBounds_toArray, List.set_cons_zero, List.set_cons_succ, List.getElem_toArray, List.getElem_cons_succ, List.getElem_cons_zero])
    refine wpAnyH_ready (rs := [15]) (by kernel_rfl) (by simp) ?_
    refine AllReadyH.cons rfl (fun K' hK => ?_) AllReadyH.nil
    (try simp only [Act.put, List.getElem_toArray, List.getElem_cons_succ, List.getElem_cons_zero])
    rw [if_pos (by rfl)]
    refine put_el (.tmp 19) (.tmp 17) rfl g j n c (x1, x2) rfl rfl O2 hjl ?_
    intro w3 O3 G3
    try dsimp only
    refine hK.out _ _ (trivial) (fun hHeld => ?_)
    clear hK K'
    (try simp only [Act.put])
    refine wpAnyH_done (by kernel_rfl) ?_ _
    go_wp2
    go_end0
    exact ⟨rfl, hid ⟨O3, grown_on (grown_on GW.out G2) G3⟩⟩
end Go.Proofs.Ytgcmljnjfghagaa.Tm
