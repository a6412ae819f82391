/- The program's Due and Off. -/
import Derived.Test.YtgcmljnjfghagaaTzc
namespace Go.Proofs.Ytgcmljnjfghagaa.Tm
open Go.RowKit Go.Shelf Go.Lib
set_option maxRecDepth 100000

noncomputable def duE (l : List De) (now : Int) : Int := if chk l ≠ 0 then chk l else if 0 ≤ now ∧ now ≤ 2147483647 then 0 else 2
noncomputable def duA (l : List De) (now : Int) : List De := if duE l now = 0 then l.filter (fun t => decide (t.1 ≤ now)) else []
noncomputable def duB (l : List De) (now : Int) : List De := if duE l now = 0 then l.filter (fun t => decide (t.1 > now)) else []
theorem du_chk {l : List De} {now : Int} (h : chk l ≠ 0) : duE l now = chk l ∧ duA l now = [] ∧ duB l now = [] := by
  have : duE l now = chk l := if_pos h
  exact ⟨this, by unfold duA; rw [this, if_neg h], by unfold duB; rw [this, if_neg h]⟩
theorem du_arg {l : List De} {now : Int} (h : chk l = 0) (k : ¬ (0 ≤ now ∧ now ≤ 2147483647)) : duE l now = 2 ∧ duA l now = [] ∧ duB l now = [] := by
  have : duE l now = 2 := by unfold duE; rw [if_neg (by simp [h]), if_neg k]
  exact ⟨this, by unfold duA; rw [this, if_neg (by decide)], by unfold duB; rw [this, if_neg (by decide)]⟩
theorem du_ok {l : List De} {now : Int} (h : chk l = 0) (k : 0 ≤ now ∧ now ≤ 2147483647) : duE l now = 0 ∧ duA l now = l.filter (fun t => decide (t.1 ≤ now)) ∧ duB l now = l.filter (fun t => decide (t.1 > now)) := by
  have : duE l now = 0 := by unfold duE; rw [if_neg (by simp [h]), if_pos k]
  exact ⟨this, by unfold duA; rw [this, if_pos rfl], by unfold duB; rw [this, if_pos rfl]⟩
noncomputable def ofE (l : List De) (n : Int) : Int := if chk l ≠ 0 then chk l else if 0 ≤ n ∧ n ≤ 1048575 then 0 else 2
noncomputable def ofL (l : List De) (n : Int) : List De := if ofE l n = 0 then l.filter (fun t => !(t.2 == n)) else []
theorem of_chk {l : List De} {n : Int} (h : chk l ≠ 0) : ofE l n = chk l ∧ ofL l n = [] := by
  have : ofE l n = chk l := if_pos h
  exact ⟨this, by unfold ofL; rw [this, if_neg h]⟩
theorem of_arg {l : List De} {n : Int} (h : chk l = 0) (k : ¬ (0 ≤ n ∧ n ≤ 1048575)) : ofE l n = 2 ∧ ofL l n = [] := by
  have : ofE l n = 2 := by unfold ofE; rw [if_neg (by simp [h]), if_neg k]
  exact ⟨this, by unfold ofL; rw [this, if_neg (by decide)]⟩
theorem of_ok {l : List De} {n : Int} (h : chk l = 0) (k : 0 ≤ n ∧ n ≤ 1048575) : ofE l n = 0 ∧ ofL l n = l.filter (fun t => !(t.2 == n)) := by
  have : ofE l n = 0 := by unfold ofE; rw [if_neg (by simp [h]), if_pos k]
  exact ⟨this, by unfold ofL; rw [this, if_pos rfl]⟩
theorem split_mono {p : De → Bool} : ∀ {l : List De}, l.Pairwise (fun a b => p a = true → p b = true) → l.take (l.findIdx p) = l.filter (fun x => !p x) ∧ l.drop (l.findIdx p) = l.filter p
  | [], _ => ⟨rfl, rfl⟩
  | x :: l, h => by
    rw [List.pairwise_cons] at h
    rw [List.findIdx_cons]
    cases hx : p x with
    | true =>
      have hall : ∀ y ∈ l, p y = true := fun y hy => h.1 y hy hx
      refine ⟨?_, ?_⟩
      · rw [List.filter_cons_of_neg (by simp [hx])]
        simp only [cond_true, List.take_zero]
        exact (List.filter_eq_nil_iff.2 fun y hy => by simp [hall y hy]).symm
      · rw [List.filter_cons_of_pos hx]
        simp only [cond_true, List.drop_zero]
        rw [List.filter_eq_self.2 hall]
    | false =>
      obtain ⟨h1, h2⟩ := split_mono h.2
      rw [List.filter_cons_of_pos (by simp [hx]), List.filter_cons_of_neg (by simp [hx])]
      simp only [cond_false, List.take_succ_cons, List.drop_succ_cons]
      exact ⟨by rw [h1], h2⟩
theorem split_due {l : List De} (h : Okl l) (now : Int) : l.take (l.findIdx fun t => decide (t.1 > now)) = l.filter (fun t => decide (t.1 ≤ now)) ∧ l.drop (l.findIdx fun t => decide (t.1 > now)) = l.filter (fun t => decide (t.1 > now)) := by
  have h2 : l.Pairwise (fun a b => decide (a.1 > now) = true → decide (b.1 > now) = true) := List.Pairwise.imp (fun {a b} hab ha => by
    rw [ah_iff] at hab
    rw [decide_eq_true_eq] at ha ⊢
    omega) h.2
  obtain ⟨h3, h4⟩ := split_mono h2
  refine ⟨?_, h4⟩
  rw [h3]
  congr 1
  funext t
  rw [← decide_not]
  congr 1
  exact propext (by omega)

/-- Two that share nothing. -/
def Far2 (u v : Value) : Prop := ∀ b, u.ownBlock = some b → v.ownBlock ≠ some b
/-- Two lists of the call's own that share nothing, and an error. -/
def TwoE (w : World) (L M : List De) (er : Int) (e : Ending) (w' : World) : Prop := ∃ u v, e = .returned (.tuple #[u, v, .int .i64 er]) ∧ Hid (Od w' w.heap.size u L ∧ Od w' w.heap.size v M ∧ Far2 u v ∧ Below w.heap.size w w')
theorem TwoE.none' {w w' : World} {er : Int} (h : Below w.heap.size w w') : TwoE w [] [] er (.returned (.tuple #[.slice none 0 0, .slice none 0 0, .int .i64 er])) w' := ⟨_, _, rfl, hid ⟨Od.nil _ _, Od.nil _ _, fun b hb => by simp [Value.ownBlock] at hb, h⟩⟩

set_option maxHeartbeats 3200000 in
theorem poff_any {w : World} {B n c : Nat} {A : Option Addr} {l : List De} (x : Int) (h : Ds w B A n c l) (hB : B ≤ w.heap.size) :
    Calls Try.prog 12 #[.slice A n c, .int .i64 x] w (LstE w (ofL l x) (ofE l x)) := by
  have HL := hid h.len
  obtain ⟨W, hW⟩ : ∃ W, W = w.alloc (.cells #[.int .i64 x] 3) := ⟨_, rfl⟩
  have B0 : Hid (Below w.heap.size w W) := hid (hW ▸ (Below.refl _ w).alloc (Nat.le_refl _) _)
  have X0 : Hid (W.heap[w.heap.size]? = some (.cells #[.int .i64 x] 3 (0, 0))) := hid (hW ▸ heap_alloc_new w _)
  have HX : Hid (∀ X, Below W.heap.size W X → X.cell? ⟨w.heap.size, 0, none⟩ = some (.int .i64 x)) := hid fun X hb => (cell_of_row X _ 0 _ _ (0, 0) ((hb.block _ (lt_of_heap X0.out)).trans X0.out)).trans rfl
  have HW := hid hW
  have HD := hid ((h.mono hB).below B0.out)
  have C1 := hid (pcheck_any HD.out B0.out.size)
  clear hW h
  by_cases hk : chk l = 0
  case neg =>
    obtain ⟨e1, e2⟩ := of_chk (n := x) hk
    rw [e1, e2]
    generalize chk l = q at hk C1 ⊢
    clear e1 e2
    go_enter Try.func12, Try.ntmps12
    go_upto_region 1 with fail
    rw [← HW.out]
    go_wp2_with (first
      | (go_at_call 15; with_reducible refine C1.out.mono ?_; rintro e w1 ⟨rfl, hb1⟩)
      | fail)
    go_ret2
    exact LstE.none' (B0.out.trans (hb1.out.mono B0.out.size))
  obtain ⟨hl, ho⟩ := chk_zero hk
  have HK := hid hk
  rw [hk] at C1
  have CM := hid (fun X => within_any X x 1048575)
  by_cases hx : 0 ≤ x ∧ x ≤ 1048575
  case neg =>
    obtain ⟨e1, e2⟩ := of_arg HK.out hx
    rw [e1, e2]
    have hr : (decide (0 ≤ x) && decide (x ≤ 1048575)) = false := by simp; omega
    rw [hr] at CM
    clear e1 e2 hk ho hx hr
    go_enter Try.func12, Try.ntmps12
    go_upto_region 1 with fail
    rw [← HW.out]
    go_wp2_with (first
      | (go_at_call 15; with_reducible refine C1.out.mono ?_; rintro e w1 ⟨rfl, hb1⟩; have y0 := HX.out _ hb1.out)
      | (go_at_call 31; with_reducible refine (CM.out _).mono ?_; rintro e w2 ⟨rfl, rfl⟩)
      | fail)
    go_ret2
    exact LstE.none' (B0.out.trans (hb1.out.mono B0.out.size))
  obtain ⟨e1, e2⟩ := of_ok HK.out hx
  rw [e1, e2]
  have hr : (decide (0 ≤ x) && decide (x ≤ 1048575)) = true := by simp; omega
  rw [hr] at CM
  have CC : Hid (∀ X, Below W.heap.size W X → Calls Try.prog 34 #[.slice A n c] X fun e w' => ∃ v, e = .returned v ∧ Hid (Od w' X.heap.size v l ∧ Below X.heap.size X w')) := hid fun X hb => clone_any (HD.out.below (hb.mono B0.out.size)) (Nat.le_trans B0.out.size hb.size) (by rw [← HL.out]; omega)
  clear e1 e2 hk ho hx hr
  go_enter Try.func12, Try.ntmps12
  go_upto_region 1 with fail
  rw [← HW.out]
  go_wp2_with (first
    | (go_at_call 15; with_reducible refine C1.out.mono ?_; rintro e w1 ⟨rfl, hb1⟩; have y0 := HX.out _ hb1.out; have CC2 := hid (CC.out w1 hb1.out))
    | (go_at_call 31; with_reducible refine (CM.out _).mono ?_; rintro e w2 ⟨rfl, rfl⟩)
    | (go_at_call 34; with_reducible refine CC2.out.mono ?_; rintro e w3 ⟨v3, rfl, H3⟩
       have BZ := hid (hb1.out.trans (H3.out.2.mono hb1.out.size))
       have hle : Hid (W.heap.size ≤ w1.heap.size) := hid hb1.out.size
       have CD := hid (delete_any (fun t : De => t.2 == x) 36 #[.pointer (some ⟨w.heap.size, 0, none⟩)] (enters_of Try.func36 (by kernel_rfl) rfl) H3.out.1 (fun X t hg => off1_any t (by
         have hx3 := (BZ.out.block _ (lt_of_heap X0.out)).trans X0.out
         have hlt := lt_of_heap X0.out
         have hx4 := (hg.block w.heap.size (Nat.lt_of_lt_of_le hlt BZ.out.size) (fun e => by have := (own_lt H3.out.1 _ e.symm).1; have := hle.out; omega)).trans hx3
         exact (cell_of_row X _ 0 _ _ (0, 0) hx4).trans rfl))))
    | (go_at_call 35; with_reducible refine CD.out.mono ?_; rintro e w4 ⟨v4, rfl, H4⟩)
    | fail)
  go_ret2
  have B1 : Below w.heap.size w w1 := B0.out.trans (hb1.out.mono B0.out.size)
  have B3 : Below w.heap.size w w3 := B1.trans (H3.out.2.mono B1.size)
  have hdi : Below w.heap.size w3 w4 := ⟨H4.out.grown.os, H4.out.grown.tape, H4.out.grown.output, H4.out.grown.size, fun k hk => H4.out.grown.block k (Nat.lt_of_lt_of_le hk B3.size) (fun e => by have := (own_lt H3.out.1 k e.symm).1; have := B1.size; omega)⟩
  exact ⟨v4, rfl, hid ⟨H4.out.own.mono B1.size, B3.trans hdi⟩⟩

/-- A slice from p on. -/
theorem Ds.from {w : World} {B n c b off : Nat} {l : List De} (h : Ds w B (some ⟨b, off, none⟩) n c l) {p : Nat} (hp : p ≤ n) : Ds w B (some ⟨b, off + p * 2, none⟩) (n - p) (c - p) (l.drop p) := by
  have hl := h.len
  have hcap := h.cap
  refine ⟨by rw [List.length_drop]; omega, by omega, Nat.le_trans (by omega) h.max, fun hA => (by cases hA), fun h0 => ?_⟩
  obtain ⟨b', off', e, hB, hc⟩ := h.at_ (by omega)
  injection e with e
  injection e with e1 e2
  subst e1
  subst e2
  refine ⟨b, off + p * 2, rfl, hB, fun j d hj => ?_⟩
  rw [List.getElem?_drop] at hj
  have := hc _ d hj
  rw [show off + (p + j) * 2 = off + p * 2 + j * 2 by omega] at this
  exact this

set_option maxHeartbeats 6400000 in
theorem pdue_any {w : World} {B n c : Nat} {A : Option Addr} {l : List De} (now : Int) (h : Ds w B A n c l) (hB : B ≤ w.heap.size) :
    Calls Try.prog 11 #[.slice A n c, .int .i64 now] w (TwoE w (duA l now) (duB l now) (duE l now)) := by
  have HL := hid h.len
  have hcap := h.cap
  have hm := h.max
  have hnil := hid h.nil
  have mixed : Try.prog.follows .mixedOrders = true := by kernel_rfl
  obtain ⟨W, hW⟩ : ∃ W, W = w.alloc (.cells #[.int .i64 now] 3) := ⟨_, rfl⟩
  have B0 : Hid (Below w.heap.size w W) := hid (hW ▸ (Below.refl _ w).alloc (Nat.le_refl _) _)
  have X0 : Hid (W.heap[w.heap.size]? = some (.cells #[.int .i64 now] 3 (0, 0))) := hid (hW ▸ heap_alloc_new w _)
  have HX : Hid (∀ X, Below W.heap.size W X → X.cell? ⟨w.heap.size, 0, none⟩ = some (.int .i64 now)) := hid fun X hb => (cell_of_row X _ 0 _ _ (0, 0) ((hb.block _ (lt_of_heap X0.out)).trans X0.out)).trans rfl
  have HW := hid hW
  have HD := hid ((h.mono hB).below B0.out)
  have C1 := hid (pcheck_any HD.out B0.out.size)
  clear hW h
  by_cases hk : chk l = 0
  case neg =>
    obtain ⟨e1, e2, e3⟩ := du_chk (now := now) hk
    rw [e1, e2, e3]
    generalize chk l = q at hk C1 ⊢
    clear e1 e2 e3 hnil
    go_enter Try.func11, Try.ntmps11
    go_upto_region 1 with fail
    rw [← HW.out]
    go_wp2_with (first
      | (go_at_call 15; with_reducible refine C1.out.mono ?_; rintro e w1 ⟨rfl, hb1⟩)
      | fail)
    go_ret3
    exact TwoE.none' (B0.out.trans (hb1.out.mono B0.out.size))
  obtain ⟨hl, ho⟩ := chk_zero hk
  have HK := hid hk
  rw [hk] at C1
  have CM := hid (fun X => within_any X now 2147483647)
  by_cases hx : 0 ≤ now ∧ now ≤ 2147483647
  case neg =>
    obtain ⟨e1, e2, e3⟩ := du_arg HK.out hx
    rw [e1, e2, e3]
    have hr : (decide (0 ≤ now) && decide (now ≤ 2147483647)) = false := by simp; omega
    rw [hr] at CM
    clear e1 e2 e3 hk ho hx hr
    go_enter Try.func11, Try.ntmps11
    go_upto_region 1 with fail
    rw [← HW.out]
    go_wp2_with (first
      | (go_at_call 15; with_reducible refine C1.out.mono ?_; rintro e w1 ⟨rfl, hb1⟩; have y0 := HX.out _ hb1.out)
      | (go_at_call 31; with_reducible refine (CM.out _).mono ?_; rintro e w2 ⟨rfl, rfl⟩)
      | fail)
    go_ret3
    exact TwoE.none' (B0.out.trans (hb1.out.mono B0.out.size))
  obtain ⟨e1, e2, e3⟩ := du_ok HK.out hx
  rw [e1, e2, e3]
  have hr : (decide (0 ≤ now) && decide (now ≤ 2147483647)) = true := by simp; omega
  rw [hr] at CM
  obtain ⟨s1, s2⟩ := split_due ho now
  rw [← s1, ← s2]
  obtain ⟨e, he⟩ : ∃ e, e = l.findIdx fun t => decide (t.1 > now) := ⟨_, rfl⟩
  have hen : e ≤ n := by rw [he, ← HL.out]; exact List.findIdx_le_length
  have CI : Hid (∀ X, Below W.heap.size W X → Calls Try.prog 32 #[.slice A n c, .func (.func 33) #[] #[.pointer (some ⟨w.heap.size, 0, none⟩)]] X fun e w' => e = .returned (.int .i64 (idx (fun t => decide (t.1 > now)) l)) ∧ Hid (Below X.heap.size X w')) := hid fun X hb =>
    index_any (fun t : De => decide (t.1 > now)) 33 #[.pointer (some ⟨w.heap.size, 0, none⟩)] (enters_of Try.func33 (by kernel_rfl) rfl) (HD.out.below (hb.mono B0.out.size)) (Nat.le_trans B0.out.size hb.size) (fun Y t hY => due1_any t (HX.out Y (hb.trans (hY.mono hb.size))))
  have HI : Hid (idx (fun t => decide (t.1 > now)) l = if e < n then (e : Int) else -1) := hid (by unfold idx; rw [← he, HL.out])
  rw [← he]
  rw [HI.out] at CI
  have HLn := hid (show n ≤ 1024 by rw [← HL.out]; exact hl)
  clear e1 e2 e3 hk ho hx hr s1 s2 he
  have hn1024 := HLn.out
  cases A with
  | none =>
    obtain ⟨rfl, rfl⟩ := hnil.out rfl
    obtain rfl : e = 0 := by omega
    obtain rfl := List.length_eq_zero_iff.1 HL.out
    rw [if_neg (Nat.lt_irrefl 0)] at CI
    have CL1 : Hid (∀ X, Below W.heap.size W X → Calls Try.prog 34 #[.slice none 0 0] X fun e' w' => ∃ v, e' = .returned v ∧ Hid (Od w' X.heap.size v (([] : List De).take 0) ∧ Below X.heap.size X w')) := hid fun X hb => clone_any (Ds.nil' _ w.heap.size) (Nat.le_trans B0.out.size hb.size) (by omega)
    have CL2 : Hid (∀ X, Below W.heap.size W X → Calls Try.prog 34 #[.slice none 0 0] X fun e' w' => ∃ v, e' = .returned v ∧ Hid (Od w' X.heap.size v (([] : List De).drop 0) ∧ Below X.heap.size X w')) := hid fun X hb => clone_any (Ds.nil' _ w.heap.size) (Nat.le_trans B0.out.size hb.size) (by omega)
    go_enter Try.func11, Try.ntmps11
    go_upto_region 1 with fail
    rw [← HW.out]
    go_upto_region 9 with (first
      | (go_at_call 15; with_reducible refine C1.out.mono ?_; rintro e w1 ⟨rfl, hb1⟩; have y0 := HX.out _ hb1.out; have CI2 := hid (CI.out w1 hb1.out))
      | (go_at_call 31; with_reducible refine (CM.out _).mono ?_; rintro e w2 ⟨rfl, rfl⟩)
      | (go_at_call 32; with_reducible refine CI2.out.mono ?_; rintro e w3 ⟨rfl, hb3⟩)
      | fail)
    have B3 := hid (hb1.out.trans (hb3.out.mono hb1.out.size))
    have BV : Hid (Below W.heap.size W w3.drew) := hid B3.out.drew
    clear CI CI2 C1 CM
    have mixed : Try.prog.follows .mixedOrders = true := by kernel_rfl
    refine wp_region_held_drew (S := fun _ => True) (by kernel_rfl) trivial (fun hHeld => ?_)
    generalize w3.drew = V at *
    have CK := hid (CL1.out V BV.out)
    refine wpAnyH_take (i := 0) (v := ?vzzb1) rfl (by kernel_rfl) (by kernel_rfl) (by kernel_rfl) (fun _ _ _ h => h) (Or.inl ⟨by rfl, ?yzzb1⟩) (by assumption) ?rzzb1
    case yzzb1 => (intro w0 hSw; (try dsimp only at hSw); (try simp only [List.getElem_toArray, List.getElem_cons_zero]); go_simp; try with_reducible rfl)
    (try simp only [Act.put, List.setIfInBounds_toArray, List.set_cons_zero, List.set_cons_succ, List.getElem_toArray, List.getElem_cons_zero])
    refine wpAnyH_take (i := 1) (v := ?vzzb2) rfl (by kernel_rfl) (by kernel_rfl) (by kernel_rfl) (fun _ _ _ h => h) (Or.inl ⟨by rfl, ?yzzb2⟩) (by assumption) ?rzzb2
    case yzzb2 => (intro w0 hSw; (try dsimp only at hSw); (try simp only [List.getElem_toArray, List.getElem_cons_succ, List.getElem_cons_zero]); go_simp; try with_reducible rfl)
    (try simp only [Act.put, List.setIfInBounds_toArray, List.set_cons_zero, List.set_cons_succ, List.getElem_toArray, List.getElem_cons_succ, List.getElem_cons_zero])
    refine wpAnyH_take (i := 2) (v := ?vzzb3) rfl (by kernel_rfl) (by kernel_rfl) (by kernel_rfl) (fun _ _ _ h => h) (Or.inl ⟨by rfl, ?yzzb3⟩) (by assumption) ?rzzb3
    case yzzb3 => (intro w0 hSw; (try dsimp only at hSw); (try simp only [List.getElem_toArray, List.getElem_cons_succ, List.getElem_cons_zero]); go_simp; try with_reducible rfl)
    (try simp only [Act.put, List.setIfInBounds_toArray, List.set_cons_zero, List.set_cons_succ, List.getElem_toArray, List.getElem_cons_succ, List.getElem_cons_zero])
    refine wpAnyH_take (i := 4) (v := ?vzzb4) rfl (by kernel_rfl) (by kernel_rfl) (by kernel_rfl) (fun _ _ _ h => h) (Or.inl ⟨by rfl, ?yzzb4⟩) (by assumption) ?rzzb4
    case yzzb4 => (intro w0 hSw; (try dsimp only at hSw); (try simp only [List.getElem_toArray, List.getElem_cons_succ, List.getElem_cons_zero]); go_simp; try with_reducible rfl)
    (try simp only [Act.put, List.setIfInBounds_toArray, List.set_cons_zero, List.set_cons_succ, List.getElem_toArray, List.getElem_cons_succ, List.getElem_cons_zero])
    refine wpAnyH_take (i := 5) (v := ?vzzb5) rfl (by kernel_rfl) (by kernel_rfl) (by kernel_rfl) (fun _ _ _ h => h) (Or.inl ⟨by rfl, ?yzzb5⟩) (by assumption) ?rzzb5
    case yzzb5 => (intro w0 hSw; (try dsimp only at hSw); (try simp only [List.getElem_toArray, List.getElem_cons_succ, List.getElem_cons_zero]); go_simp; try with_reducible rfl)
    (try simp only [Act.put, List.setIfInBounds_toArray, List.set_cons_zero, List.set_cons_succ, List.getElem_toArray, List.getElem_cons_succ, List.getElem_cons_zero])
    refine wpAnyH_take (i := 6) (v := ?vzzb6) rfl (by kernel_rfl) (by kernel_rfl) (by kernel_rfl) (fun _ _ _ h => h) (Or.inl ⟨by rfl, ?yzzb6⟩) (by assumption) ?rzzb6
    case yzzb6 => (intro w0 hSw; (try dsimp only at hSw); (try simp only [List.getElem_toArray, List.getElem_cons_succ, List.getElem_cons_zero]); go_simp; try with_reducible rfl)
    (try simp only [Act.put, List.setIfInBounds_toArray, List.set_cons_zero, List.set_cons_succ, List.getElem_toArray, List.getElem_cons_succ, List.getElem_cons_zero])
    refine wpAnyH_ready (rs := [3]) (by kernel_rfl) (by simp) ?_
    refine AllReadyH.cons rfl (fun K' hK => ?_) AllReadyH.nil
    (try simp only [Act.put, List.setIfInBounds_toArray, List.set_cons_zero, List.set_cons_succ, List.getElem_toArray, List.getElem_cons_succ, List.getElem_cons_zero])
    go_simp
    with_reducible refine CK.out.mono ?_
    rintro e w4 ⟨u4, rfl, H4⟩
    have B4 := hid (BV.out.trans (H4.out.2.mono BV.out.size))
    have CK2 := hid (CL2.out w4 B4.out)
    try dsimp only
    refine hK.out _ _ (trivial) (fun hHeld => ?_)
    clear hK K'
    (try simp only [Act.put, List.setIfInBounds_toArray, List.set_cons_zero, List.set_cons_succ, List.getElem_toArray, List.getElem_cons_succ, List.getElem_cons_zero])
    refine wpAnyH_ready (rs := [7]) (by kernel_rfl) (by simp) ?_
    refine AllReadyH.cons rfl (fun K' hK => ?_) AllReadyH.nil
    (try simp only [Act.put, List.setIfInBounds_toArray, List.set_cons_zero, List.set_cons_succ, List.getElem_toArray, List.getElem_cons_succ, List.getElem_cons_zero])
    go_simp
    with_reducible refine CK2.out.mono ?_
    rintro e w5 ⟨u5, rfl, H5⟩
    try dsimp only
    refine hK.out _ _ (trivial) (fun hHeld => ?_)
    clear hK K'
    (try simp only [Act.put, List.setIfInBounds_toArray, List.set_cons_zero, List.set_cons_succ, List.getElem_toArray, List.getElem_cons_succ, List.getElem_cons_zero])
    refine wpAnyH_take (i := 8) (v := ?vzzb7) rfl (by kernel_rfl) (by kernel_rfl) (by kernel_rfl) (fun _ _ _ h => h) (Or.inl ⟨by rfl, ?yzzb7⟩) (by assumption) ?rzzb7
    case yzzb7 => (intro w0 hSw; (try dsimp only at hSw); (try simp only [List.getElem_toArray, List.getElem_cons_succ, List.getElem_cons_zero]); go_simp; try with_reducible rfl)
    (try simp only [Act.put, List.setIfInBounds_toArray, List.set_cons_zero, List.set_cons_succ, List.getElem_toArray, List.getElem_cons_succ, List.getElem_cons_zero])
    refine wpAnyH_take (i := 9) (v := ?vzzb8) rfl (by kernel_rfl) (by kernel_rfl) (by kernel_rfl) (fun _ _ _ h => h) (Or.inl ⟨by rfl, ?yzzb8⟩) (by assumption) ?rzzb8
    case yzzb8 => (intro w0 hSw; (try dsimp only at hSw); (try simp only [List.getElem_toArray, List.getElem_cons_succ, List.getElem_cons_zero]); go_simp; try with_reducible rfl)
    (try simp only [Act.put, List.setIfInBounds_toArray, List.set_cons_zero, List.set_cons_succ, List.getElem_toArray, List.getElem_cons_succ, List.getElem_cons_zero])
    refine wpAnyH_take (i := 10) (v := ?vzzb9) rfl (by kernel_rfl) (by kernel_rfl) (by kernel_rfl) (fun _ _ _ h => h) (Or.inl ⟨by rfl, ?yzzb9⟩) (by assumption) ?rzzb9
    case yzzb9 => (intro w0 hSw; (try dsimp only at hSw); (try simp only [List.getElem_toArray, List.getElem_cons_succ, List.getElem_cons_zero]); go_simp; try with_reducible rfl)
    (try simp only [Act.put, List.setIfInBounds_toArray, List.set_cons_zero, List.set_cons_succ, List.getElem_toArray, List.getElem_cons_succ, List.getElem_cons_zero])
    refine wpAnyH_done (by kernel_rfl) ?_ _
    go_wp2
    all_goals
      go_ret3
      have BW4 : Below w.heap.size w w4 := B0.out.trans (B4.out.mono B0.out.size)
      refine ⟨u4, u5, rfl, hid ⟨(H4.out.1.below H5.out.2).mono (Nat.le_trans B0.out.size BV.out.size), H5.out.1.mono BW4.size, fun b hb hb2 => ?_, BW4.trans (H5.out.2.mono BW4.size)⟩⟩
      have h1 := (own_lt H4.out.1 b hb).2
      have h2 := (own_lt H5.out.1 b hb2).1
      omega
  | some a =>
    have hec : e ≤ c := by omega
    by_cases hlt : e < n
    case pos =>
      rw [if_pos hlt] at CI
      have hce : ¬ c = e := by omega
      obtain ⟨b, off, ha, _, _⟩ := HD.out.at_ (by omega)
      injection ha with ha
      subst ha
      have CL1 : Hid (∀ X, Below W.heap.size W X → Calls Try.prog 34 #[.slice (some ⟨b, off, none⟩) e c] X fun e' w' => ∃ v, e' = .returned v ∧ Hid (Od w' X.heap.size v (l.take e) ∧ Below X.heap.size X w')) := hid fun X hb => clone_any ((HD.out.below (hb.mono B0.out.size)).first hen) (Nat.le_trans B0.out.size hb.size) (by omega)
      have CL2 : Hid (∀ X, Below W.heap.size W X → Calls Try.prog 34 #[.slice (some ⟨b, off + e * 2, none⟩) (n - e) (c - e)] X fun e' w' => ∃ v, e' = .returned v ∧ Hid (Od w' X.heap.size v (l.drop e) ∧ Below X.heap.size X w')) := hid fun X hb => clone_any ((HD.out.below (hb.mono B0.out.size)).from hen) (Nat.le_trans B0.out.size hb.size) (by omega)
      go_enter Try.func11, Try.ntmps11
      go_upto_region 1 with fail
      rw [← HW.out]
      go_upto_region 9 with (first
        | (go_at_call 15; with_reducible refine C1.out.mono ?_; rintro e w1 ⟨rfl, hb1⟩; have y0 := HX.out _ hb1.out; have CI2 := hid (CI.out w1 hb1.out))
        | (go_at_call 31; with_reducible refine (CM.out _).mono ?_; rintro e w2 ⟨rfl, rfl⟩)
        | (go_at_call 32; with_reducible refine CI2.out.mono ?_; rintro e w3 ⟨rfl, hb3⟩)
        | fail)
      have B3 := hid (hb1.out.trans (hb3.out.mono hb1.out.size))
      have BV : Hid (Below W.heap.size W w3.drew) := hid B3.out.drew
      clear CI CI2 C1 CM
      have mixed : Try.prog.follows .mixedOrders = true := by kernel_rfl
      refine wp_region_held_drew (S := fun _ => True) (by kernel_rfl) trivial (fun hHeld => ?_)
      generalize w3.drew = V at *
      have CK := hid (CL1.out V BV.out)
      refine wpAnyH_take (i := 0) (v := ?vzzc1) rfl (by kernel_rfl) (by kernel_rfl) (by kernel_rfl) (fun _ _ _ h => h) (Or.inl ⟨by rfl, ?yzzc1⟩) (by assumption) ?rzzc1
      case yzzc1 => (intro w0 hSw; (try dsimp only at hSw); (try simp only [List.getElem_toArray, List.getElem_cons_zero]); go_simp; try with_reducible rfl)
      (try simp only [Act.put, List.setIfInBounds_toArray, List.set_cons_zero, List.set_cons_succ, List.getElem_toArray, List.getElem_cons_zero])
      refine wpAnyH_take (i := 1) (v := ?vzzc2) rfl (by kernel_rfl) (by kernel_rfl) (by kernel_rfl) (fun _ _ _ h => h) (Or.inl ⟨by rfl, ?yzzc2⟩) (by assumption) ?rzzc2
      case yzzc2 => (intro w0 hSw; (try dsimp only at hSw); (try simp only [List.getElem_toArray, List.getElem_cons_succ, List.getElem_cons_zero]); go_simp; try with_reducible rfl)
      (try simp only [Act.put, List.setIfInBounds_toArray, List.set_cons_zero, List.set_cons_succ, List.getElem_toArray, List.getElem_cons_succ, List.getElem_cons_zero])
      refine wpAnyH_take (i := 2) (v := ?vzzc3) rfl (by kernel_rfl) (by kernel_rfl) (by kernel_rfl) (fun _ _ _ h => h) (Or.inl ⟨by rfl, ?yzzc3⟩) (by assumption) ?rzzc3
      case yzzc3 => (intro w0 hSw; (try dsimp only at hSw); (try simp only [List.getElem_toArray, List.getElem_cons_succ, List.getElem_cons_zero]); go_simp; try with_reducible rfl)
      (try simp only [Act.put, List.setIfInBounds_toArray, List.set_cons_zero, List.set_cons_succ, List.getElem_toArray, List.getElem_cons_succ, List.getElem_cons_zero])
      refine wpAnyH_take (i := 4) (v := ?vzzc4) rfl (by kernel_rfl) (by kernel_rfl) (by kernel_rfl) (fun _ _ _ h => h) (Or.inl ⟨by rfl, ?yzzc4⟩) (by assumption) ?rzzc4
      case yzzc4 => (intro w0 hSw; (try dsimp only at hSw); (try simp only [List.getElem_toArray, List.getElem_cons_succ, List.getElem_cons_zero]); go_simp; try with_reducible rfl)
      (try simp only [Act.put, List.setIfInBounds_toArray, List.set_cons_zero, List.set_cons_succ, List.getElem_toArray, List.getElem_cons_succ, List.getElem_cons_zero])
      refine wpAnyH_take (i := 5) (v := ?vzzc5) rfl (by kernel_rfl) (by kernel_rfl) (by kernel_rfl) (fun _ _ _ h => h) (Or.inl ⟨by rfl, ?yzzc5⟩) (by assumption) ?rzzc5
      case yzzc5 => (intro w0 hSw; (try dsimp only at hSw); (try simp only [List.getElem_toArray, List.getElem_cons_succ, List.getElem_cons_zero]); go_simp; try with_reducible rfl)
      (try simp only [Act.put, List.setIfInBounds_toArray, List.set_cons_zero, List.set_cons_succ, List.getElem_toArray, List.getElem_cons_succ, List.getElem_cons_zero])
      refine wpAnyH_take (i := 6) (v := ?vzzc6) rfl (by kernel_rfl) (by kernel_rfl) (by kernel_rfl) (fun _ _ _ h => h) (Or.inl ⟨by rfl, ?yzzc6⟩) (by assumption) ?rzzc6
      case yzzc6 => (intro w0 hSw; (try dsimp only at hSw); (try simp only [List.getElem_toArray, List.getElem_cons_succ, List.getElem_cons_zero]); go_simp; try with_reducible rfl)
      (try simp only [Act.put, List.setIfInBounds_toArray, List.set_cons_zero, List.set_cons_succ, List.getElem_toArray, List.getElem_cons_succ, List.getElem_cons_zero])
      refine wpAnyH_ready (rs := [3]) (by kernel_rfl) (by simp) ?_
      refine AllReadyH.cons rfl (fun K' hK => ?_) AllReadyH.nil
      (try simp only [Act.put, List.setIfInBounds_toArray, List.set_cons_zero, List.set_cons_succ, List.getElem_toArray, List.getElem_cons_succ, List.getElem_cons_zero])
      go_simp
      with_reducible refine CK.out.mono ?_
      rintro e w4 ⟨u4, rfl, H4⟩
      have B4 := hid (BV.out.trans (H4.out.2.mono BV.out.size))
      have CK2 := hid (CL2.out w4 B4.out)
      try dsimp only
      refine hK.out _ _ (trivial) (fun hHeld => ?_)
      clear hK K'
      (try simp only [Act.put, List.setIfInBounds_toArray, List.set_cons_zero, List.set_cons_succ, List.getElem_toArray, List.getElem_cons_succ, List.getElem_cons_zero])
      refine wpAnyH_ready (rs := [7]) (by kernel_rfl) (by simp) ?_
      refine AllReadyH.cons rfl (fun K' hK => ?_) AllReadyH.nil
      (try simp only [Act.put, List.setIfInBounds_toArray, List.set_cons_zero, List.set_cons_succ, List.getElem_toArray, List.getElem_cons_succ, List.getElem_cons_zero])
      go_simp
      with_reducible refine CK2.out.mono ?_
      rintro e w5 ⟨u5, rfl, H5⟩
      try dsimp only
      refine hK.out _ _ (trivial) (fun hHeld => ?_)
      clear hK K'
      (try simp only [Act.put, List.setIfInBounds_toArray, List.set_cons_zero, List.set_cons_succ, List.getElem_toArray, List.getElem_cons_succ, List.getElem_cons_zero])
      refine wpAnyH_take (i := 8) (v := ?vzzc7) rfl (by kernel_rfl) (by kernel_rfl) (by kernel_rfl) (fun _ _ _ h => h) (Or.inl ⟨by rfl, ?yzzc7⟩) (by assumption) ?rzzc7
      case yzzc7 => (intro w0 hSw; (try dsimp only at hSw); (try simp only [List.getElem_toArray, List.getElem_cons_succ, List.getElem_cons_zero]); go_simp; try with_reducible rfl)
      (try simp only [Act.put, List.setIfInBounds_toArray, List.set_cons_zero, List.set_cons_succ, List.getElem_toArray, List.getElem_cons_succ, List.getElem_cons_zero])
      refine wpAnyH_take (i := 9) (v := ?vzzc8) rfl (by kernel_rfl) (by kernel_rfl) (by kernel_rfl) (fun _ _ _ h => h) (Or.inl ⟨by rfl, ?yzzc8⟩) (by assumption) ?rzzc8
      case yzzc8 => (intro w0 hSw; (try dsimp only at hSw); (try simp only [List.getElem_toArray, List.getElem_cons_succ, List.getElem_cons_zero]); go_simp; try with_reducible rfl)
      (try simp only [Act.put, List.setIfInBounds_toArray, List.set_cons_zero, List.set_cons_succ, List.getElem_toArray, List.getElem_cons_succ, List.getElem_cons_zero])
      refine wpAnyH_take (i := 10) (v := ?vzzc9) rfl (by kernel_rfl) (by kernel_rfl) (by kernel_rfl) (fun _ _ _ h => h) (Or.inl ⟨by rfl, ?yzzc9⟩) (by assumption) ?rzzc9
      case yzzc9 => (intro w0 hSw; (try dsimp only at hSw); (try simp only [List.getElem_toArray, List.getElem_cons_succ, List.getElem_cons_zero]); go_simp; try with_reducible rfl)
      (try simp only [Act.put, List.setIfInBounds_toArray, List.set_cons_zero, List.set_cons_succ, List.getElem_toArray, List.getElem_cons_succ, List.getElem_cons_zero])
      refine wpAnyH_done (by kernel_rfl) ?_ _
      go_wp2
      all_goals
        go_ret3
        have BW4 : Below w.heap.size w w4 := B0.out.trans (B4.out.mono B0.out.size)
        refine ⟨u4, u5, rfl, hid ⟨(H4.out.1.below H5.out.2).mono (Nat.le_trans B0.out.size BV.out.size), H5.out.1.mono BW4.size, fun b hb hb2 => ?_, BW4.trans (H5.out.2.mono BW4.size)⟩⟩
        have h1 := (own_lt H4.out.1 b hb).2
        have h2 := (own_lt H5.out.1 b hb2).1
        omega
    case neg =>
      obtain rfl : e = n := by omega
      rw [if_neg hlt] at CI
      have hd0 := hid (show l.drop e = [] from List.drop_of_length_le (by rw [HL.out]; exact Nat.le_refl _))
      have CL1 : Hid (∀ X, Below W.heap.size W X → Calls Try.prog 34 #[.slice (some a) e c] X fun e' w' => ∃ v, e' = .returned v ∧ Hid (Od w' X.heap.size v (l.take e) ∧ Below X.heap.size X w')) := hid fun X hb => clone_any ((HD.out.below (hb.mono B0.out.size)).first hen) (Nat.le_trans B0.out.size hb.size) (by omega)
      have CL2 : Hid (∀ X, Below W.heap.size W X → Calls Try.prog 34 #[.slice (if c = e then some a else some (a.add (e * 2))) 0 (c - e)] X fun e' w' => ∃ v, e' = .returned v ∧ Hid (Od w' X.heap.size v (l.drop e) ∧ Below X.heap.size X w')) := hid fun X hb => clone_any (B := w.heap.size) (by rw [hd0.out]; split <;> exact Ds.none' _ _ _ _) (Nat.le_trans B0.out.size hb.size) (by omega)
      go_enter Try.func11, Try.ntmps11
      go_upto_region 1 with fail
      rw [← HW.out]
      go_upto_region 9 with (first
        | (go_at_call 15; with_reducible refine C1.out.mono ?_; rintro e w1 ⟨rfl, hb1⟩; have y0 := HX.out _ hb1.out; have CI2 := hid (CI.out w1 hb1.out))
        | (go_at_call 31; with_reducible refine (CM.out _).mono ?_; rintro e w2 ⟨rfl, rfl⟩)
        | (go_at_call 32; with_reducible refine CI2.out.mono ?_; rintro e w3 ⟨rfl, hb3⟩)
        | fail)
      have B3 := hid (hb1.out.trans (hb3.out.mono hb1.out.size))
      have BV : Hid (Below W.heap.size W w3.drew) := hid B3.out.drew
      clear CI CI2 C1 CM
      have mixed : Try.prog.follows .mixedOrders = true := by kernel_rfl
      refine wp_region_held_drew (S := fun _ => True) (by kernel_rfl) trivial (fun hHeld => ?_)
      generalize w3.drew = V at *
      have CK := hid (CL1.out V BV.out)
      refine wpAnyH_take (i := 0) (v := ?vzzd1) rfl (by kernel_rfl) (by kernel_rfl) (by kernel_rfl) (fun _ _ _ h => h) (Or.inl ⟨by rfl, ?yzzd1⟩) (by assumption) ?rzzd1
      case yzzd1 => (intro w0 hSw; (try dsimp only at hSw); (try simp only [List.getElem_toArray, List.getElem_cons_zero]); go_simp; try with_reducible rfl)
      (try simp only [Act.put, List.setIfInBounds_toArray, List.set_cons_zero, List.set_cons_succ, List.getElem_toArray, List.getElem_cons_zero])
      refine wpAnyH_take (i := 1) (v := ?vzzd2) rfl (by kernel_rfl) (by kernel_rfl) (by kernel_rfl) (fun _ _ _ h => h) (Or.inl ⟨by rfl, ?yzzd2⟩) (by assumption) ?rzzd2
      case yzzd2 => (intro w0 hSw; (try dsimp only at hSw); (try simp only [List.getElem_toArray, List.getElem_cons_succ, List.getElem_cons_zero]); go_simp; try with_reducible rfl)
      (try simp only [Act.put, List.setIfInBounds_toArray, List.set_cons_zero, List.set_cons_succ, List.getElem_toArray, List.getElem_cons_succ, List.getElem_cons_zero])
      refine wpAnyH_take (i := 2) (v := ?vzzd3) rfl (by kernel_rfl) (by kernel_rfl) (by kernel_rfl) (fun _ _ _ h => h) (Or.inl ⟨by rfl, ?yzzd3⟩) (by assumption) ?rzzd3
      case yzzd3 => (intro w0 hSw; (try dsimp only at hSw); (try simp only [List.getElem_toArray, List.getElem_cons_succ, List.getElem_cons_zero]); go_simp; try with_reducible rfl)
      (try simp only [Act.put, List.setIfInBounds_toArray, List.set_cons_zero, List.set_cons_succ, List.getElem_toArray, List.getElem_cons_succ, List.getElem_cons_zero])
      refine wpAnyH_take (i := 4) (v := ?vzzd4) rfl (by kernel_rfl) (by kernel_rfl) (by kernel_rfl) (fun _ _ _ h => h) (Or.inl ⟨by rfl, ?yzzd4⟩) (by assumption) ?rzzd4
      case yzzd4 => (intro w0 hSw; (try dsimp only at hSw); (try simp only [List.getElem_toArray, List.getElem_cons_succ, List.getElem_cons_zero]); go_simp; try with_reducible rfl)
      (try simp only [Act.put, List.setIfInBounds_toArray, List.set_cons_zero, List.set_cons_succ, List.getElem_toArray, List.getElem_cons_succ, List.getElem_cons_zero])
      refine wpAnyH_take (i := 5) (v := ?vzzd5) rfl (by kernel_rfl) (by kernel_rfl) (by kernel_rfl) (fun _ _ _ h => h) (Or.inl ⟨by rfl, ?yzzd5⟩) (by assumption) ?rzzd5
      case yzzd5 => (intro w0 hSw; (try dsimp only at hSw); (try simp only [List.getElem_toArray, List.getElem_cons_succ, List.getElem_cons_zero]); go_simp; try with_reducible rfl)
      (try simp only [Act.put, List.setIfInBounds_toArray, List.set_cons_zero, List.set_cons_succ, List.getElem_toArray, List.getElem_cons_succ, List.getElem_cons_zero])
      refine wpAnyH_take (i := 6) (v := ?vzzd6) rfl (by kernel_rfl) (by kernel_rfl) (by kernel_rfl) (fun _ _ _ h => h) (Or.inl ⟨by rfl, ?yzzd6⟩) (by assumption) ?rzzd6
      case yzzd6 => (intro w0 hSw; (try dsimp only at hSw); (try simp only [List.getElem_toArray, List.getElem_cons_succ, List.getElem_cons_zero]); go_simp; try with_reducible rfl)
      (try simp only [Act.put, List.setIfInBounds_toArray, List.set_cons_zero, List.set_cons_succ, List.getElem_toArray, List.getElem_cons_succ, List.getElem_cons_zero])
      refine wpAnyH_ready (rs := [3]) (by kernel_rfl) (by simp) ?_
      refine AllReadyH.cons rfl (fun K' hK => ?_) AllReadyH.nil
      (try simp only [Act.put, List.setIfInBounds_toArray, List.set_cons_zero, List.set_cons_succ, List.getElem_toArray, List.getElem_cons_succ, List.getElem_cons_zero])
      go_simp
      with_reducible refine CK.out.mono ?_
      rintro e w4 ⟨u4, rfl, H4⟩
      have B4 := hid (BV.out.trans (H4.out.2.mono BV.out.size))
      have CK2 := hid (CL2.out w4 B4.out)
      try dsimp only
      refine hK.out _ _ (trivial) (fun hHeld => ?_)
      clear hK K'
      (try simp only [Act.put, List.setIfInBounds_toArray, List.set_cons_zero, List.set_cons_succ, List.getElem_toArray, List.getElem_cons_succ, List.getElem_cons_zero])
      refine wpAnyH_ready (rs := [7]) (by kernel_rfl) (by simp) ?_
      refine AllReadyH.cons rfl (fun K' hK => ?_) AllReadyH.nil
      (try simp only [Act.put, List.setIfInBounds_toArray, List.set_cons_zero, List.set_cons_succ, List.getElem_toArray, List.getElem_cons_succ, List.getElem_cons_zero])
      go_simp
      with_reducible refine CK2.out.mono ?_
      rintro e w5 ⟨u5, rfl, H5⟩
      try dsimp only
      refine hK.out _ _ (trivial) (fun hHeld => ?_)
      clear hK K'
      (try simp only [Act.put, List.setIfInBounds_toArray, List.set_cons_zero, List.set_cons_succ, List.getElem_toArray, List.getElem_cons_succ, List.getElem_cons_zero])
      refine wpAnyH_take (i := 8) (v := ?vzzd7) rfl (by kernel_rfl) (by kernel_rfl) (by kernel_rfl) (fun _ _ _ h => h) (Or.inl ⟨by rfl, ?yzzd7⟩) (by assumption) ?rzzd7
      case yzzd7 => (intro w0 hSw; (try dsimp only at hSw); (try simp only [List.getElem_toArray, List.getElem_cons_succ, List.getElem_cons_zero]); go_simp; try with_reducible rfl)
      (try simp only [Act.put, List.setIfInBounds_toArray, List.set_cons_zero, List.set_cons_succ, List.getElem_toArray, List.getElem_cons_succ, List.getElem_cons_zero])
      refine wpAnyH_take (i := 9) (v := ?vzzd8) rfl (by kernel_rfl) (by kernel_rfl) (by kernel_rfl) (fun _ _ _ h => h) (Or.inl ⟨by rfl, ?yzzd8⟩) (by assumption) ?rzzd8
      case yzzd8 => (intro w0 hSw; (try dsimp only at hSw); (try simp only [List.getElem_toArray, List.getElem_cons_succ, List.getElem_cons_zero]); go_simp; try with_reducible rfl)
      (try simp only [Act.put, List.setIfInBounds_toArray, List.set_cons_zero, List.set_cons_succ, List.getElem_toArray, List.getElem_cons_succ, List.getElem_cons_zero])
      refine wpAnyH_take (i := 10) (v := ?vzzd9) rfl (by kernel_rfl) (by kernel_rfl) (by kernel_rfl) (fun _ _ _ h => h) (Or.inl ⟨by rfl, ?yzzd9⟩) (by assumption) ?rzzd9
      case yzzd9 => (intro w0 hSw; (try dsimp only at hSw); (try simp only [List.getElem_toArray, List.getElem_cons_succ, List.getElem_cons_zero]); go_simp; try with_reducible rfl)
      (try simp only [Act.put, List.setIfInBounds_toArray, List.set_cons_zero, List.set_cons_succ, List.getElem_toArray, List.getElem_cons_succ, List.getElem_cons_zero])
      refine wpAnyH_done (by kernel_rfl) ?_ _
      go_wp2
      all_goals
        go_ret3
        have BW4 : Below w.heap.size w w4 := B0.out.trans (B4.out.mono B0.out.size)
        refine ⟨u4, u5, rfl, hid ⟨(H4.out.1.below H5.out.2).mono (Nat.le_trans B0.out.size BV.out.size), H5.out.1.mono BW4.size, fun b hb hb2 => ?_, BW4.trans (H5.out.2.mono BW4.size)⟩⟩
        have h1 := (own_lt H4.out.1 b hb).2
        have h2 := (own_lt H5.out.1 b hb2).1
        omega
end Go.Proofs.Ytgcmljnjfghagaa.Tm
