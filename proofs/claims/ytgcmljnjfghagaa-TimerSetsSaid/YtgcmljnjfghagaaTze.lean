/- The document's In and With; lists that grow by one. -/
import Derived.Test.YtgcmljnjfghagaaTzd
namespace Go.Proofs.Ytgcmljnjfghagaa.Tm
open Go.RowKit Go.Shelf Go.Lib
set_option maxRecDepth 100000

/-- What an append of one timer leaves. -/
structure App (X Y : World) (N : Nat) (u : Value) (v : Value) (l : List De) : Prop where
  own : Od Y N v l
  grown : X.grownBy Y u.ownBlock
  at_ : ∀ b, v.ownBlock = some b → u.ownBlock = some b ∨ X.heap.size ≤ b
theorem App.bel {W X Y : World} {N : Nat} {u v : Value} {l s : List De} (h : App X Y N u v l) (hO : Od X N u s) (hX : Below N W X) (hN : N ≤ X.heap.size) : Below N W Y := hX.trans (spoil_below h.grown hO (Nat.le_refl _) hN)
theorem list_app1 {X : World} {ops : Array Oper} {rest : List Oper} {o : Oper} {a : Act} {Q : Exit → Act → World → Prop} (hgd : o.guard = none) (s x : Operand)
    (ho : o.op = .call { callee := .builtin .append, args := #[s, x], argTypes := #[27, 27] }) {N : Nat} {u : Value} {l : List De} {d1 d2 : Int} (hs : a.eval s = u) (hx : a.eval x = .slice (some ⟨X.heap.size, 0, none⟩) 1 1)
    (hO : Od X N u l) (hn : l.length < 100000) (hB : N ≤ X.heap.size)
    (h : ∀ A n c Y, Hid (App X Y N u (.slice A n c) (l ++ [(d1, d2)])) → wpList Try.prog ops Q rest (a.put o.dst (.slice A n c)) Y) : wpList Try.prog ops Q (o :: rest) a (X.alloc (.cells #[.int .i64 d1, .int .i64 d2] 23)) := by
  have b1 := box1 X d1 d2
  refine list_appD hgd s x ho hs hx (hO.below b1) (ds_at (heap_alloc_new X _)) (by omega) (Nat.le_trans hB b1.size) ?_
  intro v' w' HT
  obtain ⟨A, n, c, rfl, _, _⟩ := od_letter HT.out.own
  refine h A n c w' (hid ⟨HT.out.own, grown_on (below_grow _ b1) HT.out.grown, fun b hb => ?_⟩)
  rcases HT.out.at_ with e | e
  · exact .inl (by rw [← e]; exact hb)
  · rw [e] at hb
    injection hb with hb
    right
    rw [← hb]
    exact b1.size
theorem wi_snoc {t x : De} : ∀ {a : List De}, (∃ y ∈ a, ah t y = true) → wi t (a ++ [x]) = wi t a ++ [x]
  | [], h => by obtain ⟨y, hy, _⟩ := h; cases hy
  | z :: a, h => by
    rw [List.cons_append, wi, wi]
    split
    · rfl
    · next hz =>
      obtain ⟨y, hy, hy2⟩ := h
      rcases List.mem_cons.1 hy with rfl | hy
      · exact absurd hy2 hz
      · rw [wi_snoc ⟨y, hy, hy2⟩]; rfl

set_option maxHeartbeats 6400000 in
theorem rin_any {w : World} {B n c : Nat} {A : Option Addr} {l : List De} (d : De) (h : Ds w B A n c l) (hB : B ≤ w.heap.size) :
    Calls Try.prog 42 #[.slice A n c, dv d] w (Tel w (decide (d ∈ l))) := by
  obtain ⟨d1, d2⟩ := d
  obtain ⟨W, hW⟩ : ∃ W, W = w.alloc (.cells #[.int .i64 d1, .int .i64 d2] 23) := ⟨_, rfl⟩
  have B0 : Hid (Below w.heap.size w W) := hid (hW ▸ box1 w d1 d2)
  have X0 : Hid (W.heap[w.heap.size]? = some (.cells #[.int .i64 d1, .int .i64 d2] 23 (0, 0))) := hid (hW ▸ heap_alloc_new w _)
  have HX : Hid (∀ X, Below W.heap.size W X → X.cell? ⟨w.heap.size, 0, none⟩ = some (.int .i64 d1) ∧ X.cell? ⟨w.heap.size, 1, none⟩ = some (.int .i64 d2)) := hid fun X hb => by
    have hx := (hb.block _ (lt_of_heap X0.out)).trans X0.out
    exact ⟨(cell_of_row X _ 0 _ _ (0, 0) hx).trans rfl, (cell_of_row X _ 1 _ _ (0, 0) hx).trans rfl⟩
  have HW := hid hW
  have HD := hid ((h.mono hB).below B0.out)
  have HL := hid h.len
  have hcap := h.cap
  have hm := h.max
  clear hW h
  have mixed : Try.prog.follows .mixedOrders = true := by kernel_rfl
  obtain ⟨r, hr⟩ : ∃ r, r = decide ((d1, d2) ∈ l) := ⟨_, rfl⟩
  have HR := hid hr
  rw [← hr]
  clear hr
  show Calls Try.prog 42 #[.slice A n c, .agg #[.int .i64 d1, .int .i64 d2]] w _
  go_enter Try.func42, Try.ntmps42
  go_upto_region 1 with fail
  rw [← HW.out]
  go_wp2
  go_loopg [5] n (fun gg s5 wr => ∃ kk : Nat, s5 = .int .i64 kk ∧ kk ≤ n ∧ n - kk ≤ gg ∧ Hid (Below W.heap.size W wr) ∧ Hid (∀ j e, j < kk → l[j]? = some e → (d1, d2) ≠ e))
  case atStart => exact ⟨0, rfl, Nat.zero_le _, by omega, hid (Below.refl _ W), hid (fun j _ hj => absurd hj (Nat.not_lt_zero _))⟩
  case round =>
    obtain ⟨kk, rfl, hk, hg, BW, HA⟩ := hrel
    have BO := hid (B0.out.trans (BW.out.mono B0.out.size))
    by_cases hkn : kk < n
    case neg =>
      have hlt : ¬ (kk : Int) < (n : Int) := by omega
      obtain rfl : kk = n := by omega
      go_wp2
      go_ret
      refine ⟨?_, BO⟩
      rw [HR.out, decide_eq_false (fun hm => by
        obtain ⟨j, hj⟩ := List.mem_iff_getElem?.1 hm
        exact HA.out j _ (by have := (List.getElem?_eq_some_iff.1 hj).1; have := HL.out; omega) hj rfl)]
      rfl
    have hlt : (kk : Int) < (n : Int) := by omega
    obtain ⟨x, hx⟩ := HD.out.get hkn
    have HXK := hid hx
    obtain ⟨b, off, rfl, hb, hcc⟩ := (HD.out.below (BW.out.mono B0.out.size)).at_ (by omega)
    obtain ⟨c1, c2⟩ := hcc kk x hx
    obtain ⟨x1, x2⟩ := x
    change wr.cell? ⟨b, off + kk * 2, none⟩ = some (.int .i64 x1) at c1
    change wr.cell? ⟨b, off + kk * 2 + 1, none⟩ = some (.int .i64 x2) at c2
    have hbw : b < wr.heap.size := Nat.lt_of_lt_of_le hb (Nat.le_trans B0.out.size BW.out.size)
    obtain ⟨z0, z1⟩ := HX.out wr BW.out
    have CF : Hid (∀ X, Below wr.heap.size wr X → X.cell? ⟨w.heap.size, 0, none⟩ = some (.int .i64 d1) ∧ X.cell? ⟨w.heap.size, 1, none⟩ = some (.int .i64 d2) ∧ X.cell? ⟨b, off + kk * 2, none⟩ = some (.int .i64 x1) ∧ X.cell? ⟨b, off + kk * 2 + 1, none⟩ = some (.int .i64 x2)) := hid fun X hb => ⟨(HX.out X (BW.out.trans (hb.mono BW.out.size))).1, (HX.out X (BW.out.trans (hb.mono BW.out.size))).2, (hb.cell (p := ⟨b, off + kk * 2, none⟩) hbw).trans c1, (hb.cell (p := ⟨b, off + kk * 2 + 1, none⟩) hbw).trans c2⟩
    have BZ : Hid (Below wr.heap.size wr wr.drew) := hid (Below.refl _ wr).drew
    clear hcc hx c1 c2 z0 z1
    by_cases h1 : x1 = d1
    case neg =>
      have hq1 : (x1 == d1) = false := by simp [h1]
      have HN := hid (show (d1, d2) ≠ (x1, x2) from fun e => h1 (by injection e with e1 _; exact e1.symm))
      clear h1
      go_upto_region 4 with fail
      have mixed : Try.prog.follows .mixedOrders = true := by kernel_rfl
      refine wp_region_held_drew (S := fun X => X.cell? ⟨w.heap.size, 0, none⟩ = some (.int .i64 d1) ∧ X.cell? ⟨w.heap.size, 1, none⟩ = some (.int .i64 d2) ∧ X.cell? ⟨b, off + kk * 2, none⟩ = some (.int .i64 x1) ∧ X.cell? ⟨b, off + kk * 2 + 1, none⟩ = some (.int .i64 x2)) (by kernel_rfl) (CF.out _ BZ.out) (fun hHeld => ?_)
      generalize wr.drew = V at *
      refine wpAnyH_take (i := 0) (v := ?va1) rfl (by kernel_rfl) (by kernel_rfl) (by kernel_rfl) (fun _ _ _ h => h) (Or.inl ⟨by rfl, ?ya1⟩) (by assumption) ?ra1
      case ya1 => (intro w0 hSw; (try dsimp only at hSw); (try simp only [List.getElem_toArray, List.getElem_cons_zero]); (try obtain ⟨s1, s2, s3, s4⟩ := hSw); go_simp; try with_reducible rfl)
      (try simp only [Act.put, List.setIfInBounds_toArray, List.set_cons_zero, List.set_cons_succ, List.getElem_toArray, List.getElem_cons_zero])
      refine wpAnyH_take (i := 1) (v := ?va2) rfl (by kernel_rfl) (by kernel_rfl) (by kernel_rfl) (fun _ _ _ h => h) (Or.inl ⟨by rfl, ?ya2⟩) (by assumption) ?ra2
      case ya2 => (intro w0 hSw; (try dsimp only at hSw); (try simp only [List.getElem_toArray, List.getElem_cons_succ, List.getElem_cons_zero]); (try obtain ⟨s1, s2, s3, s4⟩ := hSw); go_simp; try with_reducible rfl)
      (try simp only [Act.put, List.setIfInBounds_toArray, List.set_cons_zero, List.set_cons_succ, List.getElem_toArray, List.getElem_cons_succ, List.getElem_cons_zero])
      refine wpAnyH_take (i := 2) (v := ?va3) rfl (by kernel_rfl) (by kernel_rfl) (by kernel_rfl) (fun _ _ _ h => h) (Or.inl ⟨by rfl, ?ya3⟩) (by assumption) ?ra3
      case ya3 => (intro w0 hSw; (try dsimp only at hSw); (try simp only [List.getElem_toArray, List.getElem_cons_succ, List.getElem_cons_zero]); (try obtain ⟨s1, s2, s3, s4⟩ := hSw); go_simp; try with_reducible rfl)
      (try simp only [Act.put, List.setIfInBounds_toArray, List.set_cons_zero, List.set_cons_succ, List.getElem_toArray, List.getElem_cons_succ, List.getElem_cons_zero])
      refine wpAnyH_take (i := 3) (v := ?va4) rfl (by kernel_rfl) (by kernel_rfl) (by kernel_rfl) (fun _ _ _ h => h) (Or.inl ⟨by rfl, ?ya4⟩) (by assumption) ?ra4
      case ya4 => (intro w0 hSw; (try dsimp only at hSw); (try simp only [List.getElem_toArray, List.getElem_cons_succ, List.getElem_cons_zero]); (try obtain ⟨s1, s2, s3, s4⟩ := hSw); go_simp; try with_reducible rfl)
      (try simp only [Act.put, List.setIfInBounds_toArray, List.set_cons_zero, List.set_cons_succ, List.getElem_toArray, List.getElem_cons_succ, List.getElem_cons_zero])
      refine wpAnyH_take (i := 4) (v := ?va5) rfl (by kernel_rfl) (by kernel_rfl) (by kernel_rfl) (fun _ _ _ h => h) (Or.inl ⟨by rfl, ?ya5⟩) (by assumption) ?ra5
      case ya5 => (intro w0 hSw; (try dsimp only at hSw); (try simp only [List.getElem_toArray, List.getElem_cons_succ, List.getElem_cons_zero]); (try obtain ⟨s1, s2, s3, s4⟩ := hSw); go_simp; try with_reducible rfl)
      (try simp only [Act.put, List.setIfInBounds_toArray, List.set_cons_zero, List.set_cons_succ, List.getElem_toArray, List.getElem_cons_succ, List.getElem_cons_zero])
      refine wpAnyH_take (i := 5) (v := ?va6) rfl (by kernel_rfl) (by kernel_rfl) (by kernel_rfl) (fun _ _ _ h => h) (Or.inl ⟨by rfl, ?ya6⟩) (by assumption) ?ra6
      case ya6 => (intro w0 hSw; (try dsimp only at hSw); (try simp only [List.getElem_toArray, List.getElem_cons_succ, List.getElem_cons_zero]); (try obtain ⟨s1, s2, s3, s4⟩ := hSw); go_simp; try with_reducible rfl)
      (try simp only [Act.put, List.setIfInBounds_toArray, List.set_cons_zero, List.set_cons_succ, List.getElem_toArray, List.getElem_cons_succ, List.getElem_cons_zero])
      refine wpAnyH_take (i := 6) (v := ?va7) rfl (by kernel_rfl) (by kernel_rfl) (by kernel_rfl) (fun _ _ _ h => h) (Or.inl ⟨by rfl, ?ya7⟩) (by assumption) ?ra7
      case ya7 => (intro w0 hSw; (try dsimp only at hSw); (try simp only [List.getElem_toArray, List.getElem_cons_succ, List.getElem_cons_zero]); (try obtain ⟨s1, s2, s3, s4⟩ := hSw); go_simp; try with_reducible rfl)
      (try simp only [Act.put, List.setIfInBounds_toArray, List.set_cons_zero, List.set_cons_succ, List.getElem_toArray, List.getElem_cons_succ, List.getElem_cons_zero])
      refine wpAnyH_take (i := 7) (v := ?va8) rfl (by kernel_rfl) (by kernel_rfl) (by kernel_rfl) (fun _ _ _ h => h) (Or.inl ⟨by rfl, ?ya8⟩) (by assumption) ?ra8
      case ya8 => (intro w0 hSw; (try dsimp only at hSw); (try simp only [List.getElem_toArray, List.getElem_cons_succ, List.getElem_cons_zero]); (try obtain ⟨s1, s2, s3, s4⟩ := hSw); go_simp; try with_reducible rfl)
      (try simp only [Act.put, List.setIfInBounds_toArray, List.set_cons_zero, List.set_cons_succ, List.getElem_toArray, List.getElem_cons_succ, List.getElem_cons_zero])
      refine wpAnyH_take (i := 8) (v := ?va9) rfl (by kernel_rfl) (by kernel_rfl) (by kernel_rfl) (fun _ _ _ h => h) (Or.inl ⟨by rfl, ?ya9⟩) (by assumption) ?ra9
      case ya9 => (intro w0 hSw; (try dsimp only at hSw); (try simp only [List.getElem_toArray, List.getElem_cons_succ, List.getElem_cons_zero]); (try obtain ⟨s1, s2, s3, s4⟩ := hSw); go_simp; try with_reducible rfl)
      (try simp only [Act.put, List.setIfInBounds_toArray, List.set_cons_zero, List.set_cons_succ, List.getElem_toArray, List.getElem_cons_succ, List.getElem_cons_zero])
      refine wpAnyH_take (i := 9) (v := undef) rfl (by kernel_rfl) (by kernel_rfl) (by kernel_rfl) (fun _ _ _ h => h) (Or.inr ⟨by rfl, rfl⟩) (by assumption) ?_
      (try simp only [Act.put, List.setIfInBounds_toArray, List.set_cons_zero, List.set_cons_succ, List.getElem_toArray, List.getElem_cons_succ, List.getElem_cons_zero])
      refine wpAnyH_take (i := 10) (v := undef) rfl (by kernel_rfl) (by kernel_rfl) (by kernel_rfl) (fun _ _ _ h => h) (Or.inr ⟨by rfl, rfl⟩) (by assumption) ?_
      (try simp only [Act.put, List.setIfInBounds_toArray, List.set_cons_zero, List.set_cons_succ, List.getElem_toArray, List.getElem_cons_succ, List.getElem_cons_zero])
      refine wpAnyH_take (i := 11) (v := undef) rfl (by kernel_rfl) (by kernel_rfl) (by kernel_rfl) (fun _ _ _ h => h) (Or.inr ⟨by rfl, rfl⟩) (by assumption) ?_
      (try simp only [Act.put, List.setIfInBounds_toArray, List.set_cons_zero, List.set_cons_succ, List.getElem_toArray, List.getElem_cons_succ, List.getElem_cons_zero])
      refine wpAnyH_take (i := 12) (v := undef) rfl (by kernel_rfl) (by kernel_rfl) (by kernel_rfl) (fun _ _ _ h => h) (Or.inr ⟨by rfl, rfl⟩) (by assumption) ?_
      (try simp only [Act.put, List.setIfInBounds_toArray, List.set_cons_zero, List.set_cons_succ, List.getElem_toArray, List.getElem_cons_succ, List.getElem_cons_zero])
      refine wpAnyH_take (i := 13) (v := undef) rfl (by kernel_rfl) (by kernel_rfl) (by kernel_rfl) (fun _ _ _ h => h) (Or.inr ⟨by rfl, rfl⟩) (by assumption) ?_
      (try simp only [Act.put, List.setIfInBounds_toArray, List.set_cons_zero, List.set_cons_succ, List.getElem_toArray, List.getElem_cons_succ, List.getElem_cons_zero])
      refine wpAnyH_take (i := 14) (v := undef) rfl (by kernel_rfl) (by kernel_rfl) (by kernel_rfl) (fun _ _ _ h => h) (Or.inr ⟨by rfl, rfl⟩) (by assumption) ?_
      (try simp only [Act.put, List.setIfInBounds_toArray, List.set_cons_zero, List.set_cons_succ, List.getElem_toArray, List.getElem_cons_succ, List.getElem_cons_zero])
      refine wpAnyH_take (i := 15) (v := undef) rfl (by kernel_rfl) (by kernel_rfl) (by kernel_rfl) (fun _ _ _ h => h) (Or.inr ⟨by rfl, rfl⟩) (by assumption) ?_
      (try simp only [Act.put, List.setIfInBounds_toArray, List.set_cons_zero, List.set_cons_succ, List.getElem_toArray, List.getElem_cons_succ, List.getElem_cons_zero])
      refine wpAnyH_take (i := 16) (v := undef) rfl (by kernel_rfl) (by kernel_rfl) (by kernel_rfl) (fun _ _ _ h => h) (Or.inr ⟨by rfl, rfl⟩) (by assumption) ?_
      (try simp only [Act.put, List.setIfInBounds_toArray, List.set_cons_zero, List.set_cons_succ, List.getElem_toArray, List.getElem_cons_succ, List.getElem_cons_zero])
      refine wpAnyH_take (i := 17) (v := ?va10) rfl (by kernel_rfl) (by kernel_rfl) (by kernel_rfl) (fun _ _ _ h => h) (Or.inl ⟨by rfl, ?ya10⟩) (by assumption) ?ra10
      case ya10 => (intro w0 hSw; (try dsimp only at hSw); (try simp only [List.getElem_toArray, List.getElem_cons_succ, List.getElem_cons_zero]); (try obtain ⟨s1, s2, s3, s4⟩ := hSw); go_simp; try with_reducible rfl)
      (try simp only [Act.put, List.setIfInBounds_toArray, List.set_cons_zero, List.set_cons_succ, List.getElem_toArray, List.getElem_cons_succ, List.getElem_cons_zero])
      refine wpAnyH_done (by kernel_rfl) ?_ _
      go_wp2
      go_roundg (n - (kk + 1))
      case measure => omega
      case rel =>
        refine ⟨kk + 1, by go_num, by omega, by omega, hid (BW.out.trans (BZ.out.mono BW.out.size)), hid (fun j e hj he => ?_)⟩
        by_cases hjk : j = kk
        · subst hjk
          rw [HXK.out] at he
          injection he with he
          rw [← he]
          exact HN.out
        · exact HA.out j e (by omega) he
    have hq1 : (x1 == d1) = true := by simp [h1]
    by_cases h2 : x2 = d2
    case neg =>
      have hq2 : (x2 == d2) = false := by simp [h2]
      have HN := hid (show (d1, d2) ≠ (x1, x2) from fun e => h2 (by injection e with _ e2; exact e2.symm))
      clear h1 h2
      go_upto_region 4 with fail
      have mixed : Try.prog.follows .mixedOrders = true := by kernel_rfl
      refine wp_region_held_drew (S := fun X => X.cell? ⟨w.heap.size, 0, none⟩ = some (.int .i64 d1) ∧ X.cell? ⟨w.heap.size, 1, none⟩ = some (.int .i64 d2) ∧ X.cell? ⟨b, off + kk * 2, none⟩ = some (.int .i64 x1) ∧ X.cell? ⟨b, off + kk * 2 + 1, none⟩ = some (.int .i64 x2)) (by kernel_rfl) (CF.out _ BZ.out) (fun hHeld => ?_)
      generalize wr.drew = V at *
      refine wpAnyH_take (i := 0) (v := ?vb1) rfl (by kernel_rfl) (by kernel_rfl) (by kernel_rfl) (fun _ _ _ h => h) (Or.inl ⟨by rfl, ?yb1⟩) (by assumption) ?rb1
      case yb1 => (intro w0 hSw; (try dsimp only at hSw); (try simp only [List.getElem_toArray, List.getElem_cons_zero]); (try obtain ⟨s1, s2, s3, s4⟩ := hSw); go_simp; try with_reducible rfl)
      (try simp only [Act.put, List.setIfInBounds_toArray, List.set_cons_zero, List.set_cons_succ, List.getElem_toArray, List.getElem_cons_zero])
      refine wpAnyH_take (i := 1) (v := ?vb2) rfl (by kernel_rfl) (by kernel_rfl) (by kernel_rfl) (fun _ _ _ h => h) (Or.inl ⟨by rfl, ?yb2⟩) (by assumption) ?rb2
      case yb2 => (intro w0 hSw; (try dsimp only at hSw); (try simp only [List.getElem_toArray, List.getElem_cons_succ, List.getElem_cons_zero]); (try obtain ⟨s1, s2, s3, s4⟩ := hSw); go_simp; try with_reducible rfl)
      (try simp only [Act.put, List.setIfInBounds_toArray, List.set_cons_zero, List.set_cons_succ, List.getElem_toArray, List.getElem_cons_succ, List.getElem_cons_zero])
      refine wpAnyH_take (i := 2) (v := ?vb3) rfl (by kernel_rfl) (by kernel_rfl) (by kernel_rfl) (fun _ _ _ h => h) (Or.inl ⟨by rfl, ?yb3⟩) (by assumption) ?rb3
      case yb3 => (intro w0 hSw; (try dsimp only at hSw); (try simp only [List.getElem_toArray, List.getElem_cons_succ, List.getElem_cons_zero]); (try obtain ⟨s1, s2, s3, s4⟩ := hSw); go_simp; try with_reducible rfl)
      (try simp only [Act.put, List.setIfInBounds_toArray, List.set_cons_zero, List.set_cons_succ, List.getElem_toArray, List.getElem_cons_succ, List.getElem_cons_zero])
      refine wpAnyH_take (i := 3) (v := ?vb4) rfl (by kernel_rfl) (by kernel_rfl) (by kernel_rfl) (fun _ _ _ h => h) (Or.inl ⟨by rfl, ?yb4⟩) (by assumption) ?rb4
      case yb4 => (intro w0 hSw; (try dsimp only at hSw); (try simp only [List.getElem_toArray, List.getElem_cons_succ, List.getElem_cons_zero]); (try obtain ⟨s1, s2, s3, s4⟩ := hSw); go_simp; try with_reducible rfl)
      (try simp only [Act.put, List.setIfInBounds_toArray, List.set_cons_zero, List.set_cons_succ, List.getElem_toArray, List.getElem_cons_succ, List.getElem_cons_zero])
      refine wpAnyH_take (i := 4) (v := ?vb5) rfl (by kernel_rfl) (by kernel_rfl) (by kernel_rfl) (fun _ _ _ h => h) (Or.inl ⟨by rfl, ?yb5⟩) (by assumption) ?rb5
      case yb5 => (intro w0 hSw; (try dsimp only at hSw); (try simp only [List.getElem_toArray, List.getElem_cons_succ, List.getElem_cons_zero]); (try obtain ⟨s1, s2, s3, s4⟩ := hSw); go_simp; try with_reducible rfl)
      (try simp only [Act.put, List.setIfInBounds_toArray, List.set_cons_zero, List.set_cons_succ, List.getElem_toArray, List.getElem_cons_succ, List.getElem_cons_zero])
      refine wpAnyH_take (i := 5) (v := ?vb6) rfl (by kernel_rfl) (by kernel_rfl) (by kernel_rfl) (fun _ _ _ h => h) (Or.inl ⟨by rfl, ?yb6⟩) (by assumption) ?rb6
      case yb6 => (intro w0 hSw; (try dsimp only at hSw); (try simp only [List.getElem_toArray, List.getElem_cons_succ, List.getElem_cons_zero]); (try obtain ⟨s1, s2, s3, s4⟩ := hSw); go_simp; try with_reducible rfl)
      (try simp only [Act.put, List.setIfInBounds_toArray, List.set_cons_zero, List.set_cons_succ, List.getElem_toArray, List.getElem_cons_succ, List.getElem_cons_zero])
      refine wpAnyH_take (i := 6) (v := ?vb7) rfl (by kernel_rfl) (by kernel_rfl) (by kernel_rfl) (fun _ _ _ h => h) (Or.inl ⟨by rfl, ?yb7⟩) (by assumption) ?rb7
      case yb7 => (intro w0 hSw; (try dsimp only at hSw); (try simp only [List.getElem_toArray, List.getElem_cons_succ, List.getElem_cons_zero]); (try obtain ⟨s1, s2, s3, s4⟩ := hSw); go_simp; try with_reducible rfl)
      (try simp only [Act.put, List.setIfInBounds_toArray, List.set_cons_zero, List.set_cons_succ, List.getElem_toArray, List.getElem_cons_succ, List.getElem_cons_zero])
      refine wpAnyH_take (i := 7) (v := ?vb8) rfl (by kernel_rfl) (by kernel_rfl) (by kernel_rfl) (fun _ _ _ h => h) (Or.inl ⟨by rfl, ?yb8⟩) (by assumption) ?rb8
      case yb8 => (intro w0 hSw; (try dsimp only at hSw); (try simp only [List.getElem_toArray, List.getElem_cons_succ, List.getElem_cons_zero]); (try obtain ⟨s1, s2, s3, s4⟩ := hSw); go_simp; try with_reducible rfl)
      (try simp only [Act.put, List.setIfInBounds_toArray, List.set_cons_zero, List.set_cons_succ, List.getElem_toArray, List.getElem_cons_succ, List.getElem_cons_zero])
      refine wpAnyH_take (i := 8) (v := ?vb9) rfl (by kernel_rfl) (by kernel_rfl) (by kernel_rfl) (fun _ _ _ h => h) (Or.inl ⟨by rfl, ?yb9⟩) (by assumption) ?rb9
      case yb9 => (intro w0 hSw; (try dsimp only at hSw); (try simp only [List.getElem_toArray, List.getElem_cons_succ, List.getElem_cons_zero]); (try obtain ⟨s1, s2, s3, s4⟩ := hSw); go_simp; try with_reducible rfl)
      (try simp only [Act.put, List.setIfInBounds_toArray, List.set_cons_zero, List.set_cons_succ, List.getElem_toArray, List.getElem_cons_succ, List.getElem_cons_zero])
      refine wpAnyH_take (i := 9) (v := ?vb10) rfl (by kernel_rfl) (by kernel_rfl) (by kernel_rfl) (fun _ _ _ h => h) (Or.inl ⟨by rfl, ?yb10⟩) (by assumption) ?rb10
      case yb10 => (intro w0 hSw; (try dsimp only at hSw); (try simp only [List.getElem_toArray, List.getElem_cons_succ, List.getElem_cons_zero]); (try obtain ⟨s1, s2, s3, s4⟩ := hSw); go_simp; try with_reducible rfl)
      (try simp only [Act.put, List.setIfInBounds_toArray, List.set_cons_zero, List.set_cons_succ, List.getElem_toArray, List.getElem_cons_succ, List.getElem_cons_zero])
      refine wpAnyH_take (i := 10) (v := ?vb11) rfl (by kernel_rfl) (by kernel_rfl) (by kernel_rfl) (fun _ _ _ h => h) (Or.inl ⟨by rfl, ?yb11⟩) (by assumption) ?rb11
      case yb11 => (intro w0 hSw; (try dsimp only at hSw); (try simp only [List.getElem_toArray, List.getElem_cons_succ, List.getElem_cons_zero]); (try obtain ⟨s1, s2, s3, s4⟩ := hSw); go_simp; try with_reducible rfl)
      (try simp only [Act.put, List.setIfInBounds_toArray, List.set_cons_zero, List.set_cons_succ, List.getElem_toArray, List.getElem_cons_succ, List.getElem_cons_zero])
      refine wpAnyH_take (i := 11) (v := ?vb12) rfl (by kernel_rfl) (by kernel_rfl) (by kernel_rfl) (fun _ _ _ h => h) (Or.inl ⟨by rfl, ?yb12⟩) (by assumption) ?rb12
      case yb12 => (intro w0 hSw; (try dsimp only at hSw); (try simp only [List.getElem_toArray, List.getElem_cons_succ, List.getElem_cons_zero]); (try obtain ⟨s1, s2, s3, s4⟩ := hSw); go_simp; try with_reducible rfl)
      (try simp only [Act.put, List.setIfInBounds_toArray, List.set_cons_zero, List.set_cons_succ, List.getElem_toArray, List.getElem_cons_succ, List.getElem_cons_zero])
      refine wpAnyH_take (i := 12) (v := ?vb13) rfl (by kernel_rfl) (by kernel_rfl) (by kernel_rfl) (fun _ _ _ h => h) (Or.inl ⟨by rfl, ?yb13⟩) (by assumption) ?rb13
      case yb13 => (intro w0 hSw; (try dsimp only at hSw); (try simp only [List.getElem_toArray, List.getElem_cons_succ, List.getElem_cons_zero]); (try obtain ⟨s1, s2, s3, s4⟩ := hSw); go_simp; try with_reducible rfl)
      (try simp only [Act.put, List.setIfInBounds_toArray, List.set_cons_zero, List.set_cons_succ, List.getElem_toArray, List.getElem_cons_succ, List.getElem_cons_zero])
      refine wpAnyH_take (i := 13) (v := ?vb14) rfl (by kernel_rfl) (by kernel_rfl) (by kernel_rfl) (fun _ _ _ h => h) (Or.inl ⟨by rfl, ?yb14⟩) (by assumption) ?rb14
      case yb14 => (intro w0 hSw; (try dsimp only at hSw); (try simp only [List.getElem_toArray, List.getElem_cons_succ, List.getElem_cons_zero]); (try obtain ⟨s1, s2, s3, s4⟩ := hSw); go_simp; try with_reducible rfl)
      (try simp only [Act.put, List.setIfInBounds_toArray, List.set_cons_zero, List.set_cons_succ, List.getElem_toArray, List.getElem_cons_succ, List.getElem_cons_zero])
      refine wpAnyH_take (i := 14) (v := ?vb15) rfl (by kernel_rfl) (by kernel_rfl) (by kernel_rfl) (fun _ _ _ h => h) (Or.inl ⟨by rfl, ?yb15⟩) (by assumption) ?rb15
      case yb15 => (intro w0 hSw; (try dsimp only at hSw); (try simp only [List.getElem_toArray, List.getElem_cons_succ, List.getElem_cons_zero]); (try obtain ⟨s1, s2, s3, s4⟩ := hSw); go_simp; try with_reducible rfl)
      (try simp only [Act.put, List.setIfInBounds_toArray, List.set_cons_zero, List.set_cons_succ, List.getElem_toArray, List.getElem_cons_succ, List.getElem_cons_zero])
      refine wpAnyH_take (i := 15) (v := ?vb16) rfl (by kernel_rfl) (by kernel_rfl) (by kernel_rfl) (fun _ _ _ h => h) (Or.inl ⟨by rfl, ?yb16⟩) (by assumption) ?rb16
      case yb16 => (intro w0 hSw; (try dsimp only at hSw); (try simp only [List.getElem_toArray, List.getElem_cons_succ, List.getElem_cons_zero]); (try obtain ⟨s1, s2, s3, s4⟩ := hSw); go_simp; try with_reducible rfl)
      (try simp only [Act.put, List.setIfInBounds_toArray, List.set_cons_zero, List.set_cons_succ, List.getElem_toArray, List.getElem_cons_succ, List.getElem_cons_zero])
      refine wpAnyH_take (i := 16) (v := ?vb17) rfl (by kernel_rfl) (by kernel_rfl) (by kernel_rfl) (fun _ _ _ h => h) (Or.inl ⟨by rfl, ?yb17⟩) (by assumption) ?rb17
      case yb17 => (intro w0 hSw; (try dsimp only at hSw); (try simp only [List.getElem_toArray, List.getElem_cons_succ, List.getElem_cons_zero]); (try obtain ⟨s1, s2, s3, s4⟩ := hSw); go_simp; try with_reducible rfl)
      (try simp only [Act.put, List.setIfInBounds_toArray, List.set_cons_zero, List.set_cons_succ, List.getElem_toArray, List.getElem_cons_succ, List.getElem_cons_zero])
      refine wpAnyH_take (i := 17) (v := ?vb18) rfl (by kernel_rfl) (by kernel_rfl) (by kernel_rfl) (fun _ _ _ h => h) (Or.inl ⟨by rfl, ?yb18⟩) (by assumption) ?rb18
      case yb18 => (intro w0 hSw; (try dsimp only at hSw); (try simp only [List.getElem_toArray, List.getElem_cons_succ, List.getElem_cons_zero]); (try obtain ⟨s1, s2, s3, s4⟩ := hSw); go_simp; try with_reducible rfl)
      (try simp only [Act.put, List.setIfInBounds_toArray, List.set_cons_zero, List.set_cons_succ, List.getElem_toArray, List.getElem_cons_succ, List.getElem_cons_zero])
      refine wpAnyH_done (by kernel_rfl) ?_ _
      go_wp2
      go_roundg (n - (kk + 1))
      case measure => omega
      case rel =>
        refine ⟨kk + 1, by go_num, by omega, by omega, hid (BW.out.trans (BZ.out.mono BW.out.size)), hid (fun j e hj he => ?_)⟩
        by_cases hjk : j = kk
        · subst hjk
          rw [HXK.out] at he
          injection he with he
          rw [← he]
          exact HN.out
        · exact HA.out j e (by omega) he
    have hq2 : (x2 == d2) = true := by simp [h2]
    have HE := hid (show (d1, d2) = (x1, x2) by rw [h1, h2])
    clear h1 h2
    go_upto_region 4 with fail
    have mixed : Try.prog.follows .mixedOrders = true := by kernel_rfl
    refine wp_region_held_drew (S := fun X => X.cell? ⟨w.heap.size, 0, none⟩ = some (.int .i64 d1) ∧ X.cell? ⟨w.heap.size, 1, none⟩ = some (.int .i64 d2) ∧ X.cell? ⟨b, off + kk * 2, none⟩ = some (.int .i64 x1) ∧ X.cell? ⟨b, off + kk * 2 + 1, none⟩ = some (.int .i64 x2)) (by kernel_rfl) (CF.out _ BZ.out) (fun hHeld => ?_)
    generalize wr.drew = V at *
    refine wpAnyH_take (i := 0) (v := ?vc1) rfl (by kernel_rfl) (by kernel_rfl) (by kernel_rfl) (fun _ _ _ h => h) (Or.inl ⟨by rfl, ?yc1⟩) (by assumption) ?rc1
    case yc1 => (intro w0 hSw; (try dsimp only at hSw); (try simp only [List.getElem_toArray, List.getElem_cons_zero]); (try obtain ⟨s1, s2, s3, s4⟩ := hSw); go_simp; try with_reducible rfl)
    (try simp only [Act.put, List.setIfInBounds_toArray, List.set_cons_zero, List.set_cons_succ, List.getElem_toArray, List.getElem_cons_zero])
    refine wpAnyH_take (i := 1) (v := ?vc2) rfl (by kernel_rfl) (by kernel_rfl) (by kernel_rfl) (fun _ _ _ h => h) (Or.inl ⟨by rfl, ?yc2⟩) (by assumption) ?rc2
    case yc2 => (intro w0 hSw; (try dsimp only at hSw); (try simp only [List.getElem_toArray, List.getElem_cons_succ, List.getElem_cons_zero]); (try obtain ⟨s1, s2, s3, s4⟩ := hSw); go_simp; try with_reducible rfl)
    (try simp only [Act.put, List.setIfInBounds_toArray, List.set_cons_zero, List.set_cons_succ, List.getElem_toArray, List.getElem_cons_succ, List.getElem_cons_zero])
    refine wpAnyH_take (i := 2) (v := ?vc3) rfl (by kernel_rfl) (by kernel_rfl) (by kernel_rfl) (fun _ _ _ h => h) (Or.inl ⟨by rfl, ?yc3⟩) (by assumption) ?rc3
    case yc3 => (intro w0 hSw; (try dsimp only at hSw); (try simp only [List.getElem_toArray, List.getElem_cons_succ, List.getElem_cons_zero]); (try obtain ⟨s1, s2, s3, s4⟩ := hSw); go_simp; try with_reducible rfl)
    (try simp only [Act.put, List.setIfInBounds_toArray, List.set_cons_zero, List.set_cons_succ, List.getElem_toArray, List.getElem_cons_succ, List.getElem_cons_zero])
    refine wpAnyH_take (i := 3) (v := ?vc4) rfl (by kernel_rfl) (by kernel_rfl) (by kernel_rfl) (fun _ _ _ h => h) (Or.inl ⟨by rfl, ?yc4⟩) (by assumption) ?rc4
    case yc4 => (intro w0 hSw; (try dsimp only at hSw); (try simp only [List.getElem_toArray, List.getElem_cons_succ, List.getElem_cons_zero]); (try obtain ⟨s1, s2, s3, s4⟩ := hSw); go_simp; try with_reducible rfl)
    (try simp only [Act.put, List.setIfInBounds_toArray, List.set_cons_zero, List.set_cons_succ, List.getElem_toArray, List.getElem_cons_succ, List.getElem_cons_zero])
    refine wpAnyH_take (i := 4) (v := ?vc5) rfl (by kernel_rfl) (by kernel_rfl) (by kernel_rfl) (fun _ _ _ h => h) (Or.inl ⟨by rfl, ?yc5⟩) (by assumption) ?rc5
    case yc5 => (intro w0 hSw; (try dsimp only at hSw); (try simp only [List.getElem_toArray, List.getElem_cons_succ, List.getElem_cons_zero]); (try obtain ⟨s1, s2, s3, s4⟩ := hSw); go_simp; try with_reducible rfl)
    (try simp only [Act.put, List.setIfInBounds_toArray, List.set_cons_zero, List.set_cons_succ, List.getElem_toArray, List.getElem_cons_succ, List.getElem_cons_zero])
    refine wpAnyH_take (i := 5) (v := ?vc6) rfl (by kernel_rfl) (by kernel_rfl) (by kernel_rfl) (fun _ _ _ h => h) (Or.inl ⟨by rfl, ?yc6⟩) (by assumption) ?rc6
    case yc6 => (intro w0 hSw; (try dsimp only at hSw); (try simp only [List.getElem_toArray, List.getElem_cons_succ, List.getElem_cons_zero]); (try obtain ⟨s1, s2, s3, s4⟩ := hSw); go_simp; try with_reducible rfl)
    (try simp only [Act.put, List.setIfInBounds_toArray, List.set_cons_zero, List.set_cons_succ, List.getElem_toArray, List.getElem_cons_succ, List.getElem_cons_zero])
    refine wpAnyH_take (i := 6) (v := ?vc7) rfl (by kernel_rfl) (by kernel_rfl) (by kernel_rfl) (fun _ _ _ h => h) (Or.inl ⟨by rfl, ?yc7⟩) (by assumption) ?rc7
    case yc7 => (intro w0 hSw; (try dsimp only at hSw); (try simp only [List.getElem_toArray, List.getElem_cons_succ, List.getElem_cons_zero]); (try obtain ⟨s1, s2, s3, s4⟩ := hSw); go_simp; try with_reducible rfl)
    (try simp only [Act.put, List.setIfInBounds_toArray, List.set_cons_zero, List.set_cons_succ, List.getElem_toArray, List.getElem_cons_succ, List.getElem_cons_zero])
    refine wpAnyH_take (i := 7) (v := ?vc8) rfl (by kernel_rfl) (by kernel_rfl) (by kernel_rfl) (fun _ _ _ h => h) (Or.inl ⟨by rfl, ?yc8⟩) (by assumption) ?rc8
    case yc8 => (intro w0 hSw; (try dsimp only at hSw); (try simp only [List.getElem_toArray, List.getElem_cons_succ, List.getElem_cons_zero]); (try obtain ⟨s1, s2, s3, s4⟩ := hSw); go_simp; try with_reducible rfl)
    (try simp only [Act.put, List.setIfInBounds_toArray, List.set_cons_zero, List.set_cons_succ, List.getElem_toArray, List.getElem_cons_succ, List.getElem_cons_zero])
    refine wpAnyH_take (i := 8) (v := ?vc9) rfl (by kernel_rfl) (by kernel_rfl) (by kernel_rfl) (fun _ _ _ h => h) (Or.inl ⟨by rfl, ?yc9⟩) (by assumption) ?rc9
    case yc9 => (intro w0 hSw; (try dsimp only at hSw); (try simp only [List.getElem_toArray, List.getElem_cons_succ, List.getElem_cons_zero]); (try obtain ⟨s1, s2, s3, s4⟩ := hSw); go_simp; try with_reducible rfl)
    (try simp only [Act.put, List.setIfInBounds_toArray, List.set_cons_zero, List.set_cons_succ, List.getElem_toArray, List.getElem_cons_succ, List.getElem_cons_zero])
    refine wpAnyH_take (i := 9) (v := ?vc10) rfl (by kernel_rfl) (by kernel_rfl) (by kernel_rfl) (fun _ _ _ h => h) (Or.inl ⟨by rfl, ?yc10⟩) (by assumption) ?rc10
    case yc10 => (intro w0 hSw; (try dsimp only at hSw); (try simp only [List.getElem_toArray, List.getElem_cons_succ, List.getElem_cons_zero]); (try obtain ⟨s1, s2, s3, s4⟩ := hSw); go_simp; try with_reducible rfl)
    (try simp only [Act.put, List.setIfInBounds_toArray, List.set_cons_zero, List.set_cons_succ, List.getElem_toArray, List.getElem_cons_succ, List.getElem_cons_zero])
    refine wpAnyH_take (i := 10) (v := ?vc11) rfl (by kernel_rfl) (by kernel_rfl) (by kernel_rfl) (fun _ _ _ h => h) (Or.inl ⟨by rfl, ?yc11⟩) (by assumption) ?rc11
    case yc11 => (intro w0 hSw; (try dsimp only at hSw); (try simp only [List.getElem_toArray, List.getElem_cons_succ, List.getElem_cons_zero]); (try obtain ⟨s1, s2, s3, s4⟩ := hSw); go_simp; try with_reducible rfl)
    (try simp only [Act.put, List.setIfInBounds_toArray, List.set_cons_zero, List.set_cons_succ, List.getElem_toArray, List.getElem_cons_succ, List.getElem_cons_zero])
    refine wpAnyH_take (i := 11) (v := ?vc12) rfl (by kernel_rfl) (by kernel_rfl) (by kernel_rfl) (fun _ _ _ h => h) (Or.inl ⟨by rfl, ?yc12⟩) (by assumption) ?rc12
    case yc12 => (intro w0 hSw; (try dsimp only at hSw); (try simp only [List.getElem_toArray, List.getElem_cons_succ, List.getElem_cons_zero]); (try obtain ⟨s1, s2, s3, s4⟩ := hSw); go_simp; try with_reducible rfl)
    (try simp only [Act.put, List.setIfInBounds_toArray, List.set_cons_zero, List.set_cons_succ, List.getElem_toArray, List.getElem_cons_succ, List.getElem_cons_zero])
    refine wpAnyH_take (i := 12) (v := ?vc13) rfl (by kernel_rfl) (by kernel_rfl) (by kernel_rfl) (fun _ _ _ h => h) (Or.inl ⟨by rfl, ?yc13⟩) (by assumption) ?rc13
    case yc13 => (intro w0 hSw; (try dsimp only at hSw); (try simp only [List.getElem_toArray, List.getElem_cons_succ, List.getElem_cons_zero]); (try obtain ⟨s1, s2, s3, s4⟩ := hSw); go_simp; try with_reducible rfl)
    (try simp only [Act.put, List.setIfInBounds_toArray, List.set_cons_zero, List.set_cons_succ, List.getElem_toArray, List.getElem_cons_succ, List.getElem_cons_zero])
    refine wpAnyH_take (i := 13) (v := ?vc14) rfl (by kernel_rfl) (by kernel_rfl) (by kernel_rfl) (fun _ _ _ h => h) (Or.inl ⟨by rfl, ?yc14⟩) (by assumption) ?rc14
    case yc14 => (intro w0 hSw; (try dsimp only at hSw); (try simp only [List.getElem_toArray, List.getElem_cons_succ, List.getElem_cons_zero]); (try obtain ⟨s1, s2, s3, s4⟩ := hSw); go_simp; try with_reducible rfl)
    (try simp only [Act.put, List.setIfInBounds_toArray, List.set_cons_zero, List.set_cons_succ, List.getElem_toArray, List.getElem_cons_succ, List.getElem_cons_zero])
    refine wpAnyH_take (i := 14) (v := ?vc15) rfl (by kernel_rfl) (by kernel_rfl) (by kernel_rfl) (fun _ _ _ h => h) (Or.inl ⟨by rfl, ?yc15⟩) (by assumption) ?rc15
    case yc15 => (intro w0 hSw; (try dsimp only at hSw); (try simp only [List.getElem_toArray, List.getElem_cons_succ, List.getElem_cons_zero]); (try obtain ⟨s1, s2, s3, s4⟩ := hSw); go_simp; try with_reducible rfl)
    (try simp only [Act.put, List.setIfInBounds_toArray, List.set_cons_zero, List.set_cons_succ, List.getElem_toArray, List.getElem_cons_succ, List.getElem_cons_zero])
    refine wpAnyH_take (i := 15) (v := ?vc16) rfl (by kernel_rfl) (by kernel_rfl) (by kernel_rfl) (fun _ _ _ h => h) (Or.inl ⟨by rfl, ?yc16⟩) (by assumption) ?rc16
    case yc16 => (intro w0 hSw; (try dsimp only at hSw); (try simp only [List.getElem_toArray, List.getElem_cons_succ, List.getElem_cons_zero]); (try obtain ⟨s1, s2, s3, s4⟩ := hSw); go_simp; try with_reducible rfl)
    (try simp only [Act.put, List.setIfInBounds_toArray, List.set_cons_zero, List.set_cons_succ, List.getElem_toArray, List.getElem_cons_succ, List.getElem_cons_zero])
    refine wpAnyH_take (i := 16) (v := ?vc17) rfl (by kernel_rfl) (by kernel_rfl) (by kernel_rfl) (fun _ _ _ h => h) (Or.inl ⟨by rfl, ?yc17⟩) (by assumption) ?rc17
    case yc17 => (intro w0 hSw; (try dsimp only at hSw); (try simp only [List.getElem_toArray, List.getElem_cons_succ, List.getElem_cons_zero]); (try obtain ⟨s1, s2, s3, s4⟩ := hSw); go_simp; try with_reducible rfl)
    (try simp only [Act.put, List.setIfInBounds_toArray, List.set_cons_zero, List.set_cons_succ, List.getElem_toArray, List.getElem_cons_succ, List.getElem_cons_zero])
    refine wpAnyH_take (i := 17) (v := ?vc18) rfl (by kernel_rfl) (by kernel_rfl) (by kernel_rfl) (fun _ _ _ h => h) (Or.inl ⟨by rfl, ?yc18⟩) (by assumption) ?rc18
    case yc18 => (intro w0 hSw; (try dsimp only at hSw); (try simp only [List.getElem_toArray, List.getElem_cons_succ, List.getElem_cons_zero]); (try obtain ⟨s1, s2, s3, s4⟩ := hSw); go_simp; try with_reducible rfl)
    (try simp only [Act.put, List.setIfInBounds_toArray, List.set_cons_zero, List.set_cons_succ, List.getElem_toArray, List.getElem_cons_succ, List.getElem_cons_zero])
    refine wpAnyH_done (by kernel_rfl) ?_ _
    go_wp2
    go_ret
    refine ⟨?_, hid (BO.out.trans (BZ.out.mono BO.out.size))⟩
    rw [HR.out, HE.out, decide_eq_true (List.mem_of_getElem? HXK.out)]
    rfl

set_option maxHeartbeats 6400000 in
theorem rwith_any {w : World} {B n c : Nat} {A : Option Addr} {l : List De} (d : De) (h : Ds w B A n c l) (hB : B ≤ w.heap.size) (hl : l.length < 99999) :
    Calls Try.prog 43 #[.slice A n c, dv d] w fun e w' => ∃ v, e = .returned v ∧ Hid (Od w' w.heap.size v (wi d l) ∧ Below w.heap.size w w') := by
  obtain ⟨d1, d2⟩ := d
  obtain ⟨W, hW⟩ : ∃ W, W = w.alloc (.cells #[.int .i64 d1, .int .i64 d2] 23) := ⟨_, rfl⟩
  have B0 : Hid (Below w.heap.size w W) := hid (hW ▸ box1 w d1 d2)
  have X0 : Hid (W.heap[w.heap.size]? = some (.cells #[.int .i64 d1, .int .i64 d2] 23 (0, 0))) := hid (hW ▸ heap_alloc_new w _)
  have HX : Hid (∀ X, Below W.heap.size W X → X.cell? ⟨w.heap.size, 0, none⟩ = some (.int .i64 d1) ∧ X.cell? ⟨w.heap.size, 1, none⟩ = some (.int .i64 d2)) := hid fun X hb => by
    have hx := (hb.block _ (lt_of_heap X0.out)).trans X0.out
    exact ⟨(cell_of_row X _ 0 _ _ (0, 0) hx).trans rfl, (cell_of_row X _ 1 _ _ (0, 0) hx).trans rfl⟩
  have HW := hid hW
  have HD := hid ((h.mono hB).below B0.out)
  have HL := hid h.len
  have hcap := h.cap
  have hm := h.max
  clear hW h
  have hn5 : n < 99999 := by rw [← HL.out]; exact hl
  have mixed : Try.prog.follows .mixedOrders = true := by kernel_rfl
  clear hl
  show Calls Try.prog 43 #[.slice A n c, .agg #[.int .i64 d1, .int .i64 d2]] w _
  go_enter Try.func43, Try.ntmps43
  go_upto_region 1 with fail
  rw [← HW.out]
  go_wp2
  go_loopg [5, 6, 7] n (fun gg s5 s6 s7 wr => ∃ (kk : Nat) (pt : Bool) (A2 : Option Addr) (n2 c2 : Nat) (s : List De), s5 = .slice A2 n2 c2 ∧ s6 = .bool pt ∧ s7 = .int .i64 kk ∧ kk ≤ n ∧ n - kk ≤ gg ∧ Hid (Below W.heap.size W wr) ∧ Hid (Od wr W.heap.size (.slice A2 n2 c2) s) ∧ Hid ((pt = false → s = l.take kk ∧ ∀ x ∈ l.take kk, ah (d1, d2) x = false) ∧ (pt = true → s = wi (d1, d2) (l.take kk) ∧ ∃ x ∈ l.take kk, ah (d1, d2) x = true)))
  case atStart => exact ⟨0, false, none, 0, 0, [], rfl, rfl, rfl, Nat.zero_le _, by omega, hid (Below.refl _ W), hid (Od.nil _ _), hid ⟨fun _ => ⟨rfl, by simp⟩, fun h => (by cases h)⟩⟩
  case round =>
    obtain ⟨kk, pt, A2, n2, c2', s, rfl, rfl, rfl, hk, hg, BW, HO, HP⟩ := hrel
    have BO := hid (B0.out.trans (BW.out.mono B0.out.size))
    by_cases hkn : kk < n
    case neg =>
      have hlt : ¬ (kk : Int) < (n : Int) := by omega
      obtain rfl : kk = n := by omega
      have ht : l.take kk = l := List.take_of_length_le (by rw [HL.out]; exact Nat.le_refl _)
      cases pt with
      | true =>
        have HE := hid (HP.out.2 rfl)
        rw [ht] at HE
        go_wp2
        go_ret
        refine ⟨_, rfl, hid ⟨?_, BO.out⟩⟩
        rw [← HE.out.1]
        exact HO.out.mono B0.out.size
      | false =>
        have HE := hid (HP.out.1 rfl)
        rw [ht] at HE
        obtain ⟨z0, z1⟩ := HX.out wr BW.out
        have hsl : s.length < 100000 := by rw [HE.out.1, HL.out]; omega
        clear ht HP
        go_wp2_with (first
          | (at_builtin; refine list_app1 (d1 := d1) (d2 := d2) rfl _ _ rfl rfl rfl HO.out hsl BW.out.size ?_; intro A4 n4 c4 w4 H4)
          | fail)
        go_ret
        refine ⟨_, rfl, hid ⟨?_, B0.out.trans ((H4.out.bel HO.out BW.out BW.out.size).mono B0.out.size)⟩⟩
        rw [wi_last HE.out.2, ← HE.out.1]
        exact H4.out.own.mono B0.out.size
    have hlt : (kk : Int) < (n : Int) := by omega
    obtain ⟨x, hx⟩ := HD.out.get hkn
    have HXK := hid hx
    obtain ⟨b, off, rfl, hb, hcc⟩ := (HD.out.below (BW.out.mono B0.out.size)).at_ (by omega)
    obtain ⟨c1, c2⟩ := hcc kk x hx
    obtain ⟨x1, x2⟩ := x
    change wr.cell? ⟨b, off + kk * 2, none⟩ = some (.int .i64 x1) at c1
    change wr.cell? ⟨b, off + kk * 2 + 1, none⟩ = some (.int .i64 x2) at c2
    have hbw : b < wr.heap.size := Nat.lt_of_lt_of_le hb (Nat.le_trans B0.out.size BW.out.size)
    obtain ⟨z0, z1⟩ := HX.out wr BW.out
    have CF : Hid (∀ X, Below wr.heap.size wr X → X.cell? ⟨w.heap.size, 0, none⟩ = some (.int .i64 d1) ∧ X.cell? ⟨w.heap.size, 1, none⟩ = some (.int .i64 d2) ∧ X.cell? ⟨b, off + kk * 2, none⟩ = some (.int .i64 x1) ∧ X.cell? ⟨b, off + kk * 2 + 1, none⟩ = some (.int .i64 x2)) := hid fun X hb => ⟨(HX.out X (BW.out.trans (hb.mono BW.out.size))).1, (HX.out X (BW.out.trans (hb.mono BW.out.size))).2, (hb.cell (p := ⟨b, off + kk * 2, none⟩) hbw).trans c1, (hb.cell (p := ⟨b, off + kk * 2 + 1, none⟩) hbw).trans c2⟩
    have BZ : Hid (Below wr.heap.size wr wr.drew) := hid (Below.refl _ wr).drew
    have CA := hid (fun X => rahead_any (d1, d2) (x1, x2) X)
    unfold Tel dv at CA
    clear hcc hx
    cases pt with
    | true =>
      have HE := hid (HP.out.2 rfl)
      have hsl : Hid (s.length < 100000) := hid (by rw [HE.out.1, wi_length, List.length_take]; omega)
      clear HP
      go_upto_region 6 with fail
      have mixed : Try.prog.follows .mixedOrders = true := by kernel_rfl
      refine wp_region_held_drew (S := fun X => X.cell? ⟨w.heap.size, 0, none⟩ = some (.int .i64 d1) ∧ X.cell? ⟨w.heap.size, 1, none⟩ = some (.int .i64 d2) ∧ X.cell? ⟨b, off + kk * 2, none⟩ = some (.int .i64 x1) ∧ X.cell? ⟨b, off + kk * 2 + 1, none⟩ = some (.int .i64 x2)) (by kernel_rfl) (CF.out _ BZ.out) (fun hHeld => ?_)
      generalize wr.drew = V at *
      refine wpAnyH_take (i := 0) (v := ?vwa1) rfl (by kernel_rfl) (by kernel_rfl) (by kernel_rfl) (fun _ _ _ h => h) (Or.inl ⟨by rfl, ?ywa1⟩) (by assumption) ?rwa1
      case ywa1 => (intro w0 hSw; (try dsimp only at hSw); (try simp only [List.getElem_toArray, List.getElem_cons_zero]); (try obtain ⟨s1, s2, s3, s4⟩ := hSw); go_simp; try with_reducible rfl)
      (try simp only [Act.put, List.setIfInBounds_toArray, List.set_cons_zero, List.set_cons_succ, List.getElem_toArray, List.getElem_cons_zero])
      refine wpAnyH_take (i := 1) (v := ?vwa2) rfl (by kernel_rfl) (by kernel_rfl) (by kernel_rfl) (fun _ _ _ h => h) (Or.inl ⟨by rfl, ?ywa2⟩) (by assumption) ?rwa2
      case ywa2 => (intro w0 hSw; (try dsimp only at hSw); (try simp only [List.getElem_toArray, List.getElem_cons_succ, List.getElem_cons_zero]); (try obtain ⟨s1, s2, s3, s4⟩ := hSw); go_simp; try with_reducible rfl)
      (try simp only [Act.put, List.setIfInBounds_toArray, List.set_cons_zero, List.set_cons_succ, List.getElem_toArray, List.getElem_cons_succ, List.getElem_cons_zero])
      refine wpAnyH_take (i := 2) (v := ?vwa3) rfl (by kernel_rfl) (by kernel_rfl) (by kernel_rfl) (fun _ _ _ h => h) (Or.inl ⟨by rfl, ?ywa3⟩) (by assumption) ?rwa3
      case ywa3 => (intro w0 hSw; (try dsimp only at hSw); (try simp only [List.getElem_toArray, List.getElem_cons_succ, List.getElem_cons_zero]); (try obtain ⟨s1, s2, s3, s4⟩ := hSw); go_simp; try with_reducible rfl)
      (try simp only [Act.put, List.setIfInBounds_toArray, List.set_cons_zero, List.set_cons_succ, List.getElem_toArray, List.getElem_cons_succ, List.getElem_cons_zero])
      refine wpAnyH_take (i := 3) (v := undef) rfl (by kernel_rfl) (by kernel_rfl) (by kernel_rfl) (fun _ _ _ h => h) (Or.inr ⟨by rfl, rfl⟩) (by assumption) ?_
      (try simp only [Act.put, List.setIfInBounds_toArray, List.set_cons_zero, List.set_cons_succ, List.getElem_toArray, List.getElem_cons_succ, List.getElem_cons_zero])
      refine wpAnyH_take (i := 4) (v := undef) rfl (by kernel_rfl) (by kernel_rfl) (by kernel_rfl) (fun _ _ _ h => h) (Or.inr ⟨by rfl, rfl⟩) (by assumption) ?_
      (try simp only [Act.put, List.setIfInBounds_toArray, List.set_cons_zero, List.set_cons_succ, List.getElem_toArray, List.getElem_cons_succ, List.getElem_cons_zero])
      refine wpAnyH_take (i := 5) (v := undef) rfl (by kernel_rfl) (by kernel_rfl) (by kernel_rfl) (fun _ _ _ h => h) (Or.inr ⟨by rfl, rfl⟩) (by assumption) ?_
      (try simp only [Act.put, List.setIfInBounds_toArray, List.set_cons_zero, List.set_cons_succ, List.getElem_toArray, List.getElem_cons_succ, List.getElem_cons_zero])
      refine wpAnyH_take (i := 6) (v := undef) rfl (by kernel_rfl) (by kernel_rfl) (by kernel_rfl) (fun _ _ _ h => h) (Or.inr ⟨by rfl, rfl⟩) (by assumption) ?_
      (try simp only [Act.put, List.setIfInBounds_toArray, List.set_cons_zero, List.set_cons_succ, List.getElem_toArray, List.getElem_cons_succ, List.getElem_cons_zero])
      refine wpAnyH_take (i := 7) (v := undef) rfl (by kernel_rfl) (by kernel_rfl) (by kernel_rfl) (fun _ _ _ h => h) (Or.inr ⟨by rfl, rfl⟩) (by assumption) ?_
      (try simp only [Act.put, List.setIfInBounds_toArray, List.set_cons_zero, List.set_cons_succ, List.getElem_toArray, List.getElem_cons_succ, List.getElem_cons_zero])
      refine wpAnyH_take (i := 8) (v := undef) rfl (by kernel_rfl) (by kernel_rfl) (by kernel_rfl) (fun _ _ _ h => h) (Or.inr ⟨by rfl, rfl⟩) (by assumption) ?_
      (try simp only [Act.put, List.setIfInBounds_toArray, List.set_cons_zero, List.set_cons_succ, List.getElem_toArray, List.getElem_cons_succ, List.getElem_cons_zero])
      refine wpAnyH_take (i := 9) (v := ?vwa4) rfl (by kernel_rfl) (by kernel_rfl) (by kernel_rfl) (fun _ _ _ h => h) (Or.inl ⟨by rfl, ?ywa4⟩) (by assumption) ?rwa4
      case ywa4 => (intro w0 hSw; (try dsimp only at hSw); (try simp only [List.getElem_toArray, List.getElem_cons_succ, List.getElem_cons_zero]); (try obtain ⟨s1, s2, s3, s4⟩ := hSw); go_simp; try with_reducible rfl)
      (try simp only [Act.put, List.setIfInBounds_toArray, List.set_cons_zero, List.set_cons_succ, List.getElem_toArray, List.getElem_cons_succ, List.getElem_cons_zero])
      refine wpAnyH_done (by kernel_rfl) ?_ _
      have BV := hid (BW.out.trans (BZ.out.mono BW.out.size))
      have OV := hid (HO.out.below BZ.out)
      obtain ⟨y0, y1, y2, y3⟩ := CF.out _ BZ.out
      clear CF c1 c2 z0 z1
      go_wp2_with (first
        | (at_builtin; refine list_app1 (d1 := x1) (d2 := x2) rfl _ _ rfl rfl rfl OV.out hsl.out BV.out.size ?_; intro A4 n4 c4 w4 H4)
        | fail)
      go_roundg (n - (kk + 1))
      case measure => omega
      case rel =>
        refine ⟨kk + 1, true, A4, n4, c4, s ++ [(x1, x2)], rfl, rfl, by go_num, by omega, by omega, hid (H4.out.bel OV.out BV.out BV.out.size), hid H4.out.own, hid ⟨fun h => (by cases h), fun _ => ?_⟩⟩
        rw [take_snoc HXK.out, wi_snoc HE.out.2, HE.out.1]
        obtain ⟨y, hy, hy2⟩ := HE.out.2
        exact ⟨rfl, y, List.mem_append.2 (.inl hy), hy2⟩
    | false =>
      have HE := hid (HP.out.1 rfl)
      have hsl : Hid (s.length < 100000) := hid (by rw [HE.out.1, List.length_take]; omega)
      clear HP
      generalize haa : ah (d1, d2) (x1, x2) = ar at CA
      have HH := hid haa
      clear haa
      cases ar with
      | false =>
        go_upto_region 6 with fail
        have mixed : Try.prog.follows .mixedOrders = true := by kernel_rfl
        refine wp_region_held_drew (S := fun X => X.cell? ⟨w.heap.size, 0, none⟩ = some (.int .i64 d1) ∧ X.cell? ⟨w.heap.size, 1, none⟩ = some (.int .i64 d2) ∧ X.cell? ⟨b, off + kk * 2, none⟩ = some (.int .i64 x1) ∧ X.cell? ⟨b, off + kk * 2 + 1, none⟩ = some (.int .i64 x2)) (by kernel_rfl) (CF.out _ BZ.out) (fun hHeld => ?_)
        generalize wr.drew = V at *
        refine wpAnyH_take (i := 0) (v := ?vwb1) rfl (by kernel_rfl) (by kernel_rfl) (by kernel_rfl) (fun _ _ _ h => h) (Or.inl ⟨by rfl, ?ywb1⟩) (by assumption) ?rwb1
        case ywb1 => (intro w0 hSw; (try dsimp only at hSw); (try simp only [List.getElem_toArray, List.getElem_cons_zero]); (try obtain ⟨s1, s2, s3, s4⟩ := hSw); go_simp; try with_reducible rfl)
        (try simp only [Act.put, List.setIfInBounds_toArray, List.set_cons_zero, List.set_cons_succ, List.getElem_toArray, List.getElem_cons_zero])
        refine wpAnyH_take (i := 1) (v := ?vwb2) rfl (by kernel_rfl) (by kernel_rfl) (by kernel_rfl) (fun _ _ _ h => h) (Or.inl ⟨by rfl, ?ywb2⟩) (by assumption) ?rwb2
        case ywb2 => (intro w0 hSw; (try dsimp only at hSw); (try simp only [List.getElem_toArray, List.getElem_cons_succ, List.getElem_cons_zero]); (try obtain ⟨s1, s2, s3, s4⟩ := hSw); go_simp; try with_reducible rfl)
        (try simp only [Act.put, List.setIfInBounds_toArray, List.set_cons_zero, List.set_cons_succ, List.getElem_toArray, List.getElem_cons_succ, List.getElem_cons_zero])
        refine wpAnyH_take (i := 2) (v := ?vwb3) rfl (by kernel_rfl) (by kernel_rfl) (by kernel_rfl) (fun _ _ _ h => h) (Or.inl ⟨by rfl, ?ywb3⟩) (by assumption) ?rwb3
        case ywb3 => (intro w0 hSw; (try dsimp only at hSw); (try simp only [List.getElem_toArray, List.getElem_cons_succ, List.getElem_cons_zero]); (try obtain ⟨s1, s2, s3, s4⟩ := hSw); go_simp; try with_reducible rfl)
        (try simp only [Act.put, List.setIfInBounds_toArray, List.set_cons_zero, List.set_cons_succ, List.getElem_toArray, List.getElem_cons_succ, List.getElem_cons_zero])
        refine wpAnyH_take (i := 3) (v := ?vwb4) rfl (by kernel_rfl) (by kernel_rfl) (by kernel_rfl) (fun _ _ _ h => h) (Or.inl ⟨by rfl, ?ywb4⟩) (by assumption) ?rwb4
        case ywb4 => (intro w0 hSw; (try dsimp only at hSw); (try simp only [List.getElem_toArray, List.getElem_cons_succ, List.getElem_cons_zero]); (try obtain ⟨s1, s2, s3, s4⟩ := hSw); go_simp; try with_reducible rfl)
        (try simp only [Act.put, List.setIfInBounds_toArray, List.set_cons_zero, List.set_cons_succ, List.getElem_toArray, List.getElem_cons_succ, List.getElem_cons_zero])
        refine wpAnyH_take (i := 4) (v := ?vwb5) rfl (by kernel_rfl) (by kernel_rfl) (by kernel_rfl) (fun _ _ _ h => h) (Or.inl ⟨by rfl, ?ywb5⟩) (by assumption) ?rwb5
        case ywb5 => (intro w0 hSw; (try dsimp only at hSw); (try simp only [List.getElem_toArray, List.getElem_cons_succ, List.getElem_cons_zero]); (try obtain ⟨s1, s2, s3, s4⟩ := hSw); go_simp; try with_reducible rfl)
        (try simp only [Act.put, List.setIfInBounds_toArray, List.set_cons_zero, List.set_cons_succ, List.getElem_toArray, List.getElem_cons_succ, List.getElem_cons_zero])
        refine wpAnyH_take (i := 5) (v := ?vwb6) rfl (by kernel_rfl) (by kernel_rfl) (by kernel_rfl) (fun _ _ _ h => h) (Or.inl ⟨by rfl, ?ywb6⟩) (by assumption) ?rwb6
        case ywb6 => (intro w0 hSw; (try dsimp only at hSw); (try simp only [List.getElem_toArray, List.getElem_cons_succ, List.getElem_cons_zero]); (try obtain ⟨s1, s2, s3, s4⟩ := hSw); go_simp; try with_reducible rfl)
        (try simp only [Act.put, List.setIfInBounds_toArray, List.set_cons_zero, List.set_cons_succ, List.getElem_toArray, List.getElem_cons_succ, List.getElem_cons_zero])
        refine wpAnyH_take (i := 6) (v := ?vwb7) rfl (by kernel_rfl) (by kernel_rfl) (by kernel_rfl) (fun _ _ _ h => h) (Or.inl ⟨by rfl, ?ywb7⟩) (by assumption) ?rwb7
        case ywb7 => (intro w0 hSw; (try dsimp only at hSw); (try simp only [List.getElem_toArray, List.getElem_cons_succ, List.getElem_cons_zero]); (try obtain ⟨s1, s2, s3, s4⟩ := hSw); go_simp; try with_reducible rfl)
        (try simp only [Act.put, List.setIfInBounds_toArray, List.set_cons_zero, List.set_cons_succ, List.getElem_toArray, List.getElem_cons_succ, List.getElem_cons_zero])
        refine wpAnyH_take (i := 7) (v := ?vwb8) rfl (by kernel_rfl) (by kernel_rfl) (by kernel_rfl) (fun _ _ _ h => h) (Or.inl ⟨by rfl, ?ywb8⟩) (by assumption) ?rwb8
        case ywb8 => (intro w0 hSw; (try dsimp only at hSw); (try simp only [List.getElem_toArray, List.getElem_cons_succ, List.getElem_cons_zero]); (try obtain ⟨s1, s2, s3, s4⟩ := hSw); go_simp; try with_reducible rfl)
        (try simp only [Act.put, List.setIfInBounds_toArray, List.set_cons_zero, List.set_cons_succ, List.getElem_toArray, List.getElem_cons_succ, List.getElem_cons_zero])
        refine wpAnyH_ready (rs := [8]) (by kernel_rfl) (by simp) ?_
        refine AllReadyH.cons rfl (fun K' hK => ?_) AllReadyH.nil
        (try simp only [Act.put, List.setIfInBounds_toArray, List.set_cons_zero, List.set_cons_succ, List.getElem_toArray, List.getElem_cons_succ, List.getElem_cons_zero])
        go_simp
        refine (CA.out _).mono ?_
        rintro e w2 ⟨rfl, hb2⟩
        have BZ := hid (BZ.out.trans (hb2.out.mono BZ.out.size))
        clear hb2
        try dsimp only
        refine hK.out _ _ (CF.out _ BZ.out) (fun hHeld => ?_)
        clear hK K'
        (try simp only [Act.put, List.setIfInBounds_toArray, List.set_cons_zero, List.set_cons_succ, List.getElem_toArray, List.getElem_cons_succ, List.getElem_cons_zero])
        refine wpAnyH_take (i := 9) (v := ?vwb9) rfl (by kernel_rfl) (by kernel_rfl) (by kernel_rfl) (fun _ _ _ h => h) (Or.inl ⟨by rfl, ?ywb9⟩) (by assumption) ?rwb9
        case ywb9 => (intro w0 hSw; (try dsimp only at hSw); (try simp only [List.getElem_toArray, List.getElem_cons_succ, List.getElem_cons_zero]); (try obtain ⟨s1, s2, s3, s4⟩ := hSw); go_simp; try with_reducible rfl)
        (try simp only [Act.put, List.setIfInBounds_toArray, List.set_cons_zero, List.set_cons_succ, List.getElem_toArray, List.getElem_cons_succ, List.getElem_cons_zero])
        refine wpAnyH_done (by kernel_rfl) ?_ _
        have BV := hid (BW.out.trans (BZ.out.mono BW.out.size))
        have OV := hid (HO.out.below BZ.out)
        obtain ⟨y0, y1, y2, y3⟩ := CF.out _ BZ.out
        clear CF c1 c2 z0 z1
        go_wp2_with (first
          | (at_builtin; refine list_app1 (d1 := x1) (d2 := x2) rfl _ _ rfl rfl rfl OV.out hsl.out BV.out.size ?_; intro A4 n4 c4 w4 H4)
          | fail)
        go_roundg (n - (kk + 1))
        case measure => omega
        case rel =>
          refine ⟨kk + 1, false, A4, n4, c4, s ++ [(x1, x2)], rfl, rfl, by go_num, by omega, by omega, hid (H4.out.bel OV.out BV.out BV.out.size), hid H4.out.own, hid ⟨fun _ => ?_, fun h => (by cases h)⟩⟩
          rw [take_snoc HXK.out, HE.out.1]
          refine ⟨rfl, fun y hy => ?_⟩
          rcases List.mem_append.1 hy with h | h
          · exact HE.out.2 y h
          · rw [List.mem_singleton.1 h]; exact HH.out
      | true =>
        go_upto_region 6 with fail
        have mixed : Try.prog.follows .mixedOrders = true := by kernel_rfl
        refine wp_region_held_drew (S := fun X => X.cell? ⟨w.heap.size, 0, none⟩ = some (.int .i64 d1) ∧ X.cell? ⟨w.heap.size, 1, none⟩ = some (.int .i64 d2) ∧ X.cell? ⟨b, off + kk * 2, none⟩ = some (.int .i64 x1) ∧ X.cell? ⟨b, off + kk * 2 + 1, none⟩ = some (.int .i64 x2)) (by kernel_rfl) (CF.out _ BZ.out) (fun hHeld => ?_)
        generalize wr.drew = V at *
        refine wpAnyH_take (i := 0) (v := ?vwc1) rfl (by kernel_rfl) (by kernel_rfl) (by kernel_rfl) (fun _ _ _ h => h) (Or.inl ⟨by rfl, ?ywc1⟩) (by assumption) ?rwc1
        case ywc1 => (intro w0 hSw; (try dsimp only at hSw); (try simp only [List.getElem_toArray, List.getElem_cons_zero]); (try obtain ⟨s1, s2, s3, s4⟩ := hSw); go_simp; try with_reducible rfl)
        (try simp only [Act.put, List.setIfInBounds_toArray, List.set_cons_zero, List.set_cons_succ, List.getElem_toArray, List.getElem_cons_zero])
        refine wpAnyH_take (i := 1) (v := ?vwc2) rfl (by kernel_rfl) (by kernel_rfl) (by kernel_rfl) (fun _ _ _ h => h) (Or.inl ⟨by rfl, ?ywc2⟩) (by assumption) ?rwc2
        case ywc2 => (intro w0 hSw; (try dsimp only at hSw); (try simp only [List.getElem_toArray, List.getElem_cons_succ, List.getElem_cons_zero]); (try obtain ⟨s1, s2, s3, s4⟩ := hSw); go_simp; try with_reducible rfl)
        (try simp only [Act.put, List.setIfInBounds_toArray, List.set_cons_zero, List.set_cons_succ, List.getElem_toArray, List.getElem_cons_succ, List.getElem_cons_zero])
        refine wpAnyH_take (i := 2) (v := ?vwc3) rfl (by kernel_rfl) (by kernel_rfl) (by kernel_rfl) (fun _ _ _ h => h) (Or.inl ⟨by rfl, ?ywc3⟩) (by assumption) ?rwc3
        case ywc3 => (intro w0 hSw; (try dsimp only at hSw); (try simp only [List.getElem_toArray, List.getElem_cons_succ, List.getElem_cons_zero]); (try obtain ⟨s1, s2, s3, s4⟩ := hSw); go_simp; try with_reducible rfl)
        (try simp only [Act.put, List.setIfInBounds_toArray, List.set_cons_zero, List.set_cons_succ, List.getElem_toArray, List.getElem_cons_succ, List.getElem_cons_zero])
        refine wpAnyH_take (i := 3) (v := ?vwc4) rfl (by kernel_rfl) (by kernel_rfl) (by kernel_rfl) (fun _ _ _ h => h) (Or.inl ⟨by rfl, ?ywc4⟩) (by assumption) ?rwc4
        case ywc4 => (intro w0 hSw; (try dsimp only at hSw); (try simp only [List.getElem_toArray, List.getElem_cons_succ, List.getElem_cons_zero]); (try obtain ⟨s1, s2, s3, s4⟩ := hSw); go_simp; try with_reducible rfl)
        (try simp only [Act.put, List.setIfInBounds_toArray, List.set_cons_zero, List.set_cons_succ, List.getElem_toArray, List.getElem_cons_succ, List.getElem_cons_zero])
        refine wpAnyH_take (i := 4) (v := ?vwc5) rfl (by kernel_rfl) (by kernel_rfl) (by kernel_rfl) (fun _ _ _ h => h) (Or.inl ⟨by rfl, ?ywc5⟩) (by assumption) ?rwc5
        case ywc5 => (intro w0 hSw; (try dsimp only at hSw); (try simp only [List.getElem_toArray, List.getElem_cons_succ, List.getElem_cons_zero]); (try obtain ⟨s1, s2, s3, s4⟩ := hSw); go_simp; try with_reducible rfl)
        (try simp only [Act.put, List.setIfInBounds_toArray, List.set_cons_zero, List.set_cons_succ, List.getElem_toArray, List.getElem_cons_succ, List.getElem_cons_zero])
        refine wpAnyH_take (i := 5) (v := ?vwc6) rfl (by kernel_rfl) (by kernel_rfl) (by kernel_rfl) (fun _ _ _ h => h) (Or.inl ⟨by rfl, ?ywc6⟩) (by assumption) ?rwc6
        case ywc6 => (intro w0 hSw; (try dsimp only at hSw); (try simp only [List.getElem_toArray, List.getElem_cons_succ, List.getElem_cons_zero]); (try obtain ⟨s1, s2, s3, s4⟩ := hSw); go_simp; try with_reducible rfl)
        (try simp only [Act.put, List.setIfInBounds_toArray, List.set_cons_zero, List.set_cons_succ, List.getElem_toArray, List.getElem_cons_succ, List.getElem_cons_zero])
        refine wpAnyH_take (i := 6) (v := ?vwc7) rfl (by kernel_rfl) (by kernel_rfl) (by kernel_rfl) (fun _ _ _ h => h) (Or.inl ⟨by rfl, ?ywc7⟩) (by assumption) ?rwc7
        case ywc7 => (intro w0 hSw; (try dsimp only at hSw); (try simp only [List.getElem_toArray, List.getElem_cons_succ, List.getElem_cons_zero]); (try obtain ⟨s1, s2, s3, s4⟩ := hSw); go_simp; try with_reducible rfl)
        (try simp only [Act.put, List.setIfInBounds_toArray, List.set_cons_zero, List.set_cons_succ, List.getElem_toArray, List.getElem_cons_succ, List.getElem_cons_zero])
        refine wpAnyH_take (i := 7) (v := ?vwc8) rfl (by kernel_rfl) (by kernel_rfl) (by kernel_rfl) (fun _ _ _ h => h) (Or.inl ⟨by rfl, ?ywc8⟩) (by assumption) ?rwc8
        case ywc8 => (intro w0 hSw; (try dsimp only at hSw); (try simp only [List.getElem_toArray, List.getElem_cons_succ, List.getElem_cons_zero]); (try obtain ⟨s1, s2, s3, s4⟩ := hSw); go_simp; try with_reducible rfl)
        (try simp only [Act.put, List.setIfInBounds_toArray, List.set_cons_zero, List.set_cons_succ, List.getElem_toArray, List.getElem_cons_succ, List.getElem_cons_zero])
        refine wpAnyH_ready (rs := [8]) (by kernel_rfl) (by simp) ?_
        refine AllReadyH.cons rfl (fun K' hK => ?_) AllReadyH.nil
        (try simp only [Act.put, List.setIfInBounds_toArray, List.set_cons_zero, List.set_cons_succ, List.getElem_toArray, List.getElem_cons_succ, List.getElem_cons_zero])
        go_simp
        refine (CA.out _).mono ?_
        rintro e w2 ⟨rfl, hb2⟩
        have BZ := hid (BZ.out.trans (hb2.out.mono BZ.out.size))
        clear hb2
        try dsimp only
        refine hK.out _ _ (CF.out _ BZ.out) (fun hHeld => ?_)
        clear hK K'
        (try simp only [Act.put, List.setIfInBounds_toArray, List.set_cons_zero, List.set_cons_succ, List.getElem_toArray, List.getElem_cons_succ, List.getElem_cons_zero])
        refine wpAnyH_take (i := 9) (v := ?vwc9) rfl (by kernel_rfl) (by kernel_rfl) (by kernel_rfl) (fun _ _ _ h => h) (Or.inl ⟨by rfl, ?ywc9⟩) (by assumption) ?rwc9
        case ywc9 => (intro w0 hSw; (try dsimp only at hSw); (try simp only [List.getElem_toArray, List.getElem_cons_succ, List.getElem_cons_zero]); (try obtain ⟨s1, s2, s3, s4⟩ := hSw); go_simp; try with_reducible rfl)
        (try simp only [Act.put, List.setIfInBounds_toArray, List.set_cons_zero, List.set_cons_succ, List.getElem_toArray, List.getElem_cons_succ, List.getElem_cons_zero])
        refine wpAnyH_done (by kernel_rfl) ?_ _
        have BV := hid (BW.out.trans (BZ.out.mono BW.out.size))
        have OV := hid (HO.out.below BZ.out)
        obtain ⟨y0, y1, y2, y3⟩ := CF.out _ BZ.out
        clear CF c1 c2 z0 z1
        have hbV := hid hbw
        go_wp2_with (first
          | (at_builtin; refine list_app1 (d1 := d1) (d2 := d2) rfl _ _ rfl rfl rfl OV.out hsl.out BV.out.size ?_; intro A4 n4 c4 w4 H4
             have B4 := hid (H4.out.bel OV.out BV.out BV.out.size)
             have hs4 : Hid ((s ++ [(d1, d2)]).length < 100000) := hid (by have := HE.out.1; rw [List.length_append, this, List.length_take, List.length_singleton]; omega)
             have hbk : Hid (b < W.heap.size) := hid (Nat.lt_of_lt_of_le hb B0.out.size)
             have q2 : w4.cell? ⟨b, off + kk * 2, none⟩ = some (.int .i64 x1) := ((B4.out.cell (p := ⟨b, off + kk * 2, none⟩) hbk.out).trans (BV.out.cell (p := ⟨b, off + kk * 2, none⟩) hbk.out).symm).trans y2
             have q3 : w4.cell? ⟨b, off + kk * 2 + 1, none⟩ = some (.int .i64 x2) := ((B4.out.cell (p := ⟨b, off + kk * 2 + 1, none⟩) hbk.out).trans (BV.out.cell (p := ⟨b, off + kk * 2 + 1, none⟩) hbk.out).symm).trans y3
             have O4 := hid H4.out.own)
          | (at_builtin; refine list_app1 (d1 := x1) (d2 := x2) rfl _ _ rfl rfl rfl O4.out hs4.out B4.out.size ?_; intro A5 n5 c5 w5 H5)
          | fail)
        go_roundg (n - (kk + 1))
        case measure => omega
        case rel =>
          refine ⟨kk + 1, true, A5, n5, c5, s ++ [(d1, d2)] ++ [(x1, x2)], rfl, rfl, by go_num, by omega, by omega, hid (H5.out.bel O4.out B4.out B4.out.size), hid H5.out.own, hid ⟨fun h => (by cases h), fun _ => ?_⟩⟩
          rw [take_snoc HXK.out, HE.out.1]
          refine ⟨?_, (x1, x2), List.mem_append.2 (.inr (List.mem_singleton.2 rfl)), HH.out⟩
          rw [wi_split HE.out.2 HH.out, List.append_assoc]
          rfl
end Go.Proofs.Ytgcmljnjfghagaa.Tm
