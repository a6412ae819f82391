/- FlightTells: the law's copies. -/
import Derived.Test.YtdcolnipdipkhaaVaq
namespace Go.Proofs.Ytdcolnipdipkhaa.Fli
set_option maxRecDepth 100000
open Go.RowKit Go.Shelf Go.Lib

/-- The copies that FlightTells makes. -/
def Own2 (W X : World) (l : List (Ld Pm)) (M : Nat → Dy) (v : Value) (g : Nat) (R : Nat → Dy) : Prop := (∃ rs, Lof W.heap.size X v rs l) ∧ Mbox X g R ∧ Low W.heap.size X (0, 0, 0, R) (0, 0, 0, pmd M) ∧ Below W.heap.size W X ∧ W.heap.size ≤ g
theorem low_twd {B : Nat} {w : World} {M R : Nat → Dy} (h : ∀ k, k < 4 → Twd B w (M k) (R k)) : Low B w (0, 0, 0, R) (0, 0, 0, pmd M) := by
  refine ⟨rfl, rfl, rfl, ?_, fun k hk => (h k hk).lim⟩
  have hd : ∀ k, k < 4 → pdy (R k) = pdy (M k) := fun k hk4 => by
    have := h k hk4
    unfold pdy
    rw [this.s, this.n, this.x, this.f]
  show pmd R = pmd M
  unfold pmd
  rw [hd 0 (by omega), hd 1 (by omega), hd 2 (by omega), hd 3 (by omega)]
theorem own2_store {W X Y : World} {l : List (Ld Pm)} {M R : Nat → Dy} {v : Value} {rs : List Lr} {g : Nat} (h : Lof W.heap.size X v rs l) (hv : ∀ q, v.ownBlock = some q → q ≠ g) (hr : Low W.heap.size X (0, 0, 0, R) (0, 0, 0, pmd M)) (hl : ∀ q cs, X.heap[q]? = some (.cells cs 70 (0, 0)) → q ≠ g) (hb : Below W.heap.size W X) (hg : W.heap.size ≤ g) (q : Gq g X Y) (y : Mbox Y g R) : Own2 W Y l M v g R := by
  refine ⟨⟨rs, ?_, h.pair.keep fun b cs _ hc => q.block b (hl b cs hc)⟩, y, hr.keep fun b cs _ hc => q.block b (hl b cs hc), q.bel hb hg, hg⟩
  refine h.row.kept (gq_grown q) ?_
  cases e : v.ownBlock with
  | none => exact .inl rfl
  | some b => exact .inr (fun e2 => hv b e (by injection e2))
theorem mcells1 (R : Nat → Dy) : (mcells R).all (·.oneCell') = true := by simp [mcells, Value.oneCell']
theorem msz (R : Nat → Dy) : (Try.prog.info? 27).map (·.size) = some (mcells R).size := by kernel_rfl
theorem mbox_ne {X : World} {g : Nat} {D : Nat → Dy} (h : Mbox X g D) : ∀ q cs, X.heap[q]? = some (.cells cs 70 (0, 0)) → q ≠ g := fun q cs hc e => by
  subst e
  rw [show X.heap[q]? = some (.cells (mcells D) 27 (0, 0)) from h] at hc
  injection hc with hc
  injection hc with _ ht _
  exact absurd ht (by decide)
theorem mbox_nel {X : World} {B g : Nat} {D : Nat → Dy} {v : Value} {rs : List Lr} {l : List (Ld Pm)} (h : Mbox X g D) (k : Lof B X v rs l) : ∀ q, v.ownBlock = some q → q ≠ g := fun q hq e => by
  obtain ⟨cur, hc⟩ := Gw.blk k.row q hq
  subst e
  rw [show X.heap[q]? = some (.cells (mcells D) 27 (0, 0)) from h] at hc
  injection hc with hc
  injection hc with _ ht _
  exact absurd ht (by decide)
theorem same_yes {w : World} {B C n c m d : Nat} {A D : Option Addr} {l : List (Ld Pm)} (h : Lls w B A n c l) (k : Lls w C D m d l) (hB : B ≤ w.heap.size) (hC : C ≤ w.heap.size) :
    Calls Try.prog 16 #[.slice A n c, .slice D m d] w fun e w' => e = .returned (.bool true) ∧ Hid (Below w.heap.size w w') := by
  refine (same_any h k hB hC).mono ?_
  rintro e w' ⟨r, rfl, hr, hb⟩
  exact ⟨by rw [hr.out.2 rfl], hb⟩
theorem one_yes {w : World} {B C : Nat} {x y z x' y' z' : Int} {D E : Nat → Dy} {p : Ld Pm} (h : Lrd w B (x, y, z, D) p) (k : Lrd w C (x', y', z', E) p) (hB : B ≤ w.heap.size) (hC : C ≤ w.heap.size) :
    Calls Try.prog 17 #[.agg (lcells x y z D), .agg (lcells x' y' z' E)] w fun e w' => e = .returned (.bool true) ∧ Hid (Below w.heap.size w w') := by
  refine (sameOne_any (h.mono hB).rd (k.mono hC).rd).mono ?_
  rintro e w' ⟨r, rfl, hr, hb⟩
  refine ⟨?_, hb⟩
  rw [hr.out.2 ⟨h.nu.trans k.nu.symm, h.ep.trans k.ep.symm, h.cp.trans k.cp.symm, pmd_eq.1 (h.pl.trans k.pl.symm)⟩]
theorem mass_yes {w : World} {B C : Nat} {D E : Nat → Dy} (h : Mrd w B D) (k : Mrd w C E) (hB : B ≤ w.heap.size) (hC : C ≤ w.heap.size) (he : pmd D = pmd E) :
    Calls Try.prog 21 #[.agg (mcells D), .agg (mcells E)] w fun e w' => e = .returned (.bool true) ∧ Hid (Below w.heap.size w w') := by
  refine (emsame_raw (P := ∀ j, j < 4 → Dsm (D j) (E j)) (fun j hj => (h j hj).mono hB) (fun j hj => (k j hj).mono hC) (hid Iff.rfl)).mono ?_
  rintro e w' ⟨r, rfl, hr, hb⟩
  exact ⟨by rw [hr.out.2 (pmd_eq.1 he)], hb⟩
/-- Spoil, of one load in a slice that is made for it. -/
theorem spoil_row {w : World} {B C : Nat} {x y z : Int} {M : Nat → Dy} {p : Ld Pm} (h : Low B w (x, y, z, M) p) (hC : ∀ k, k < 4 → ∀ g o, (M k).A = some ⟨g, o, none⟩ → g < C) :
    Calls Try.prog 20 #[.slice (some ⟨w.heap.size, 0, none⟩) 1 1] (w.alloc (.cells (lcells x y z M) 40)) fun e w' => e = .returned (.tuple #[]) ∧ Hid (KeepS (fun q => B ≤ q ∧ q < C) w w') := by
  have hb := (Below.refl w.heap.size w).alloc (Nat.le_refl _) (.cells (lcells x y z M) 40)
  refine (spoil_one (h.below hb) hC (heap_alloc_new w _)).mono ?_
  rintro e w' ⟨rfl, hk⟩
  refine ⟨rfl, hid ⟨hk.out.os.trans hb.os, hk.out.tape.trans hb.tape, hk.out.output.trans hb.output, Nat.le_trans hb.size hk.out.size, fun q hq hn => ?_⟩⟩
  refine (hk.out.block q (Nat.lt_of_lt_of_le hq hb.size) (fun hs => hs.elim hn (fun e => by omega))).trans (hb.block q hq)
/-- A load of a load, in an arm that is guarded. -/
theorem wp_lloadg {ops : Array Oper} {rest : List Oper} {o : Oper} {a : Act} {w : World} {Q : Exit → Act → World → Prop} (hw : Region.wanted o (yielded ops a.tmps) = true) (p : Operand) (ho : o.op = .load 40 p)
    (b off : Nat) (x y z : Int) (D : Nat → Dy) (hx : a.eval p = .pointer (some ⟨b, off, none⟩)) (hg : w.rangeAt b off (lcells x y z D).toList) (h : wpList Try.prog ops Q rest (a.put o.dst (.agg (lcells x y z D))) w) : wpList Try.prog ops Q (o :: rest) a w :=
  wpList_step fun _ hK => by
    rw [if_pos hw]
    exact wp_load_mid _ p ho b off hx (lcells x y z D).toList _ hg Try.underlying40 rfl (load_size_ x y z D) (hK _ _ h)
theorem AheadL.least {m n : Nat} {v : Value} {rs : List Lr} (h : AheadL m v rs) (k : AheadL n v rs) : ∃ C, C ≤ m ∧ C ≤ n ∧ AheadL C v rs :=
  ⟨min m n, Nat.min_le_left _ _, Nat.min_le_right _ _, fun q hq => Nat.lt_min.2 ⟨h.1 q hq, k.1 q hq⟩, fun r hr j hj g o e => Nat.lt_min.2 ⟨h.2 r hr j hj g o e, k.2 r hr j hj g o e⟩⟩
set_option maxHeartbeats 16000000 in
theorem tells_walk {w : World} {a c : Nat} {A : Option Addr} {l : List (Ld Pm)} {n ep : Int} {M : Nat → Dy} (h : Lls w w.heap.size A a c l) (_hn : -9223372036854775808 ≤ n ∧ n ≤ 9223372036854775807) (_he : -9223372036854775808 ≤ ep ∧ ep ≤ 9223372036854775807) (hM : Mrd w w.heap.size M) (hnil : ∀ k, k < 4 → (M k).A = none → (M k).n = 0 ∧ (M k).c = 0) :
    Calls Try.prog 3 #[.slice A a c, .int .i64 n, .int .i64 ep, .agg (mcells M)] w fun e w' => e = .returned (.bool true) ∧ Below w.heap.size w w' := by
  obtain ⟨W, hW⟩ : ∃ W, W = w.alloc (.cells (mcells M) 27) := ⟨_, rfl⟩
  have B0 := hid (show Below w.heap.size w W from hW ▸ (Below.refl _ w).alloc (Nat.le_refl _) _)
  have N0 := hid (show Mbox W w.heap.size M from hW ▸ heap_alloc_new w _)
  have HW := hid hW
  have H := hid h
  have HM := hid hM
  have HNL := hid hnil
  clear hW h hM hnil
  go_enter Try.func3, Try.ntmps3
  go_upto_region 1 with fail
  rw [← HW.out]
  have K0 := hid (H.out.on (Nat.le_refl _) B0.out)
  go_wp2_with fail
  refine (great_any K0.out (Nat.le_refl _)).mono ?_
  rintro e w2 ⟨r, rfl, H2, H3⟩
  have B2 := hid (gbelow_on B0.out (Nat.le_refl _) H3.out)
  cases r
  case true =>
    go_wp2
    go_ret
    exact ⟨rfl, B2.out⟩
  have HZ := hid (H2.out rfl).1
  clear H2
  have N2 := hid (show Mbox w2 w.heap.size M from N0.out.below H3.out N0.out.lt)
  have n2 := mbox_row N2.out
  have CG := hid (mgreat_any (w := w2) (D := M) (fun j hj => (HM.out j hj).max))
  go_wp2_with (first | (refine wp_lmg rfl (.tmp 7) rfl w.heap.size 0 M rfl n2 ?_) | fail)
  refine CG.out.mono ?_
  rintro e w3 ⟨r, rfl, H4, H5⟩
  have B3 := hid (gbelow_on B2.out (Nat.le_refl _) H5.out)
  clear n2 CG
  cases r
  case true =>
    go_wp2
    go_ret
    exact ⟨rfl, B3.out⟩
  have HZM := hid (sz_of (D := M) (fun hm => absurd (H4.out.2 hm) (by decide)))
  clear H4
  have N3 := hid (show Mbox w3 w.heap.size M from N2.out.below H5.out N2.out.lt)
  go_upto_region 3 with fail
  go_cut [9, 10] (fun s9 s10 wx => ∃ (g10 : Nat) (R : Nat → Dy), s10 = .pointer (some ⟨g10, 0, none⟩) ∧ Hid (Own2 w3 wx l M s9 g10 R))
  case first =>
    have CF := hid (fun (X : World) (hb : Below w3.heap.size w3 X) => show X.rangeAt w.heap.size 0 (mcells M).toList from mbox_row (N3.out.below hb N3.out.lt))
    have BX := hid (Below.refl w3.heap.size w3).drew
    have CA := hid (fun (X : World) (hb : Below w3.heap.size w3 X) => rtwins_any (w := X) (H.out.below (gbelow_on B3.out (Nat.le_refl _) hb)) (Nat.le_trans B3.out.size hb.size) HZ.out)
    have CB := hid (fun (X : World) (hb : Below w3.heap.size w3 X) => emtwin_any (w := X) (D := M) (fun k hk => ((HM.out k hk).below (gbelow_on B3.out (Nat.le_refl _) hb)).mono (Nat.le_trans B3.out.size hb.size)) HNL.out HZM.out.at_)
    have mixed : Try.prog.follows .mixedOrders = true := by kernel_rfl
    refine wp_region_held_drew (S := fun X => X.rangeAt w.heap.size 0 (mcells M).toList) (by kernel_rfl) (CF.out _ BX.out) (fun hHeld => ?_)
    generalize w3.drew = V at *
    refine wpAnyH_take (i := 0) (v := ?vo1) rfl (by kernel_rfl) (by kernel_rfl) (by kernel_rfl) (fun _ _ _ h => h) (Or.inl ⟨by rfl, ?yo1⟩) (by assumption) ?ro1
    case yo1 => (intro w0 hSw; (try dsimp only at hSw); (try simp only [List.getElem_toArray, List.getElem_cons_zero]); go_simp; try with_reducible rfl)
    (try simp only [Act.put, List.setIfInBounds_toArray, List.set_cons_zero, List.set_cons_succ, List.getElem_toArray, List.getElem_cons_zero])
    refine wpAnyH_take (i := 2) rfl (by kernel_rfl) (by kernel_rfl) (by kernel_rfl) (fun _ _ _ h => h) (yields_mlr (by rfl) (.tmp 7) rfl w.heap.size 0 M rfl (fun X hX => hX)) hHeld ?_
    (try simp only [Act.put, List.setIfInBounds_toArray, List.set_cons_zero, List.set_cons_succ, List.getElem_toArray, List.getElem_cons_succ, List.getElem_cons_zero])
    refine wpAnyH_ready (rs := [1, 4]) (by kernel_rfl) (by simp) ?_
    refine (AllReadyH.cons rfl (fun K' hK => ?_) (AllReadyH.cons rfl (fun K' hK => ?_) AllReadyH.nil))
    · (try simp only [List.getElem_toArray, List.getElem_cons_succ, List.getElem_cons_zero])
      go_simp
      refine (CA.out _ BX.out).mono ?_
      rintro e y1 ⟨v1, rs1, rfl, H1⟩
      have T1 := hid (H1.out.1.mono (C := w3.heap.size) BX.out.size)
      have hb := hid H1.out.2
      clear H1
      replace BX := hid (BX.out.trans (hb.out.mono BX.out.size))
      clear hb
      try dsimp only
      refine hK.out _ _ (CF.out _ BX.out) (fun hHeld => ?_)
      clear hK K'
      (try simp only [Act.put, List.setIfInBounds_toArray, List.set_cons_zero, List.set_cons_succ, List.getElem_toArray, List.getElem_cons_succ, List.getElem_cons_zero])
      refine wpAnyH_ready (rs := [3, 4]) (by kernel_rfl) (by simp) ?_
      refine (AllReadyH.cons rfl (fun K' hK => ?_) (AllReadyH.cons rfl (fun K' hK => ?_) AllReadyH.nil))
      · (try simp only [List.getElem_toArray, List.getElem_cons_succ, List.getElem_cons_zero])
        go_simp
        refine (CB.out _ BX.out).mono ?_
        rintro e y3 ⟨R3, rfl, H3', hb⟩
        have T3 := hid ((low_twd H3'.out).mono (C := w3.heap.size) BX.out.size)
        clear H3'
        replace T1 := hid (T1.out.below hb.out)
        replace BX := hid (BX.out.trans (hb.out.mono BX.out.size))
        clear hb
        try dsimp only
        refine hK.out _ _ (CF.out _ BX.out) (fun hHeld => ?_)
        clear hK K'
        (try simp only [Act.put, List.setIfInBounds_toArray, List.set_cons_zero, List.set_cons_succ, List.getElem_toArray, List.getElem_cons_succ, List.getElem_cons_zero])
        refine wpAnyH_ready (rs := [4]) (by kernel_rfl) (by simp) ?_
        refine (AllReadyH.cons rfl (fun K' hK => ?_) AllReadyH.nil)
        (try simp only [List.getElem_toArray, List.getElem_cons_succ, List.getElem_cons_zero])
        go_simp
        obtain ⟨y4, hX⟩ : ∃ X, X = (y3).alloc (.cells #[.bool false, .slice none 0 0, .int .i64 0, .bool false, .slice none 0 0, .int .i64 0, .bool false, .slice none 0 0, .int .i64 0, .bool false, .slice none 0 0, .int .i64 0] 27) := ⟨_, rfl⟩
        rw [← hX]
        obtain ⟨g4, hg4⟩ : ∃ g, g = (y3).heap.size := ⟨_, rfl⟩
        rw [← hg4]
        have F4 := hid (show Mbox y4 g4 D0 from hg4 ▸ hX ▸ heap_alloc_new _ _)
        have S4 := hid (show w3.heap.size ≤ g4 from hg4 ▸ BX.out.size)
        have hb := hid (show Below (y3).heap.size (y3) y4 from hX ▸ (Below.refl _ _).alloc (Nat.le_refl _) _)
        clear hX hg4
        replace T1 := hid (T1.out.below hb.out)
        replace T3 := hid (T3.out.below hb.out)
        replace BX := hid (BX.out.trans (hb.out.mono BX.out.size))
        clear hb
        try dsimp only
        refine hK.out _ _ (CF.out _ BX.out) (fun hHeld => ?_)
        clear hK K'
        (try simp only [Act.put, List.setIfInBounds_toArray, List.set_cons_zero, List.set_cons_succ, List.getElem_toArray, List.getElem_cons_succ, List.getElem_cons_zero])
        refine wpAnyH_take (i := 5) (v := ?vo131) rfl (by kernel_rfl) (by kernel_rfl) (by kernel_rfl) (fun _ _ _ h => h) (Or.inl ⟨by rfl, ?yo131⟩) (by assumption) ?ro131
        case yo131 => (intro w0 hSw; (try dsimp only at hSw); (try simp only [List.getElem_toArray, List.getElem_cons_succ, List.getElem_cons_zero]); go_simp; try with_reducible rfl)
        (try simp only [Act.put, List.setIfInBounds_toArray, List.set_cons_zero, List.set_cons_succ, List.getElem_toArray, List.getElem_cons_succ, List.getElem_cons_zero])
        refine wpAnyH_ready (rs := [6]) (by kernel_rfl) (by simp) ?_
        refine AllReadyH.cons rfl (fun K' hK => ?_) AllReadyH.nil
        (try simp only [Act.put, List.getElem_toArray, List.getElem_cons_succ, List.getElem_cons_zero])
        refine gput_rowH (P := Try.prog) _ (.tmp 10) (.tmp 42) rfl g4 27 _ (mcells R3) rfl rfl F4.out rfl (msz R3) (mcells1 R3) ?_
        intro y6 x6 q6
        have HF := hid (own2_store (l := l) (M := M) T1.out (mbox_nel F4.out T1.out) T3.out (mbox_ne F4.out) BX.out S4.out q6 x6)
        try dsimp only
        refine hK.out _ _ (CF.out _ HF.out.2.2.2.1) (fun hHeld => ?_)
        clear hK K'
        (try simp only [Act.put])
        refine wpAnyH_done (by kernel_rfl) ?_ _
        go_wp2
        go_meet
        exact ⟨g4, R3, rfl, HF⟩
      · (try simp only [List.getElem_toArray, List.getElem_cons_succ, List.getElem_cons_zero])
        go_simp
        obtain ⟨y4, hX⟩ : ∃ X, X = (y1).alloc (.cells #[.bool false, .slice none 0 0, .int .i64 0, .bool false, .slice none 0 0, .int .i64 0, .bool false, .slice none 0 0, .int .i64 0, .bool false, .slice none 0 0, .int .i64 0] 27) := ⟨_, rfl⟩
        rw [← hX]
        obtain ⟨g4, hg4⟩ : ∃ g, g = (y1).heap.size := ⟨_, rfl⟩
        rw [← hg4]
        have F4 := hid (show Mbox y4 g4 D0 from hg4 ▸ hX ▸ heap_alloc_new _ _)
        have S4 := hid (show w3.heap.size ≤ g4 from hg4 ▸ BX.out.size)
        have hb := hid (show Below (y1).heap.size (y1) y4 from hX ▸ (Below.refl _ _).alloc (Nat.le_refl _) _)
        clear hX hg4
        replace T1 := hid (T1.out.below hb.out)
        replace BX := hid (BX.out.trans (hb.out.mono BX.out.size))
        clear hb
        try dsimp only
        refine hK.out _ _ (CF.out _ BX.out) (fun hHeld => ?_)
        clear hK K'
        (try simp only [Act.put, List.setIfInBounds_toArray, List.set_cons_zero, List.set_cons_succ, List.getElem_toArray, List.getElem_cons_succ, List.getElem_cons_zero])
        refine wpAnyH_ready (rs := [3]) (by kernel_rfl) (by simp) ?_
        refine (AllReadyH.cons rfl (fun K' hK => ?_) AllReadyH.nil)
        (try simp only [List.getElem_toArray, List.getElem_cons_succ, List.getElem_cons_zero])
        go_simp
        refine (CB.out _ BX.out).mono ?_
        rintro e y3 ⟨R3, rfl, H3', hb⟩
        have T3 := hid ((low_twd H3'.out).mono (C := w3.heap.size) BX.out.size)
        clear H3'
        replace T1 := hid (T1.out.below hb.out)
        replace F4 := hid (F4.out.below hb.out F4.out.lt)
        replace BX := hid (BX.out.trans (hb.out.mono BX.out.size))
        clear hb
        try dsimp only
        refine hK.out _ _ (CF.out _ BX.out) (fun hHeld => ?_)
        clear hK K'
        (try simp only [Act.put, List.setIfInBounds_toArray, List.set_cons_zero, List.set_cons_succ, List.getElem_toArray, List.getElem_cons_succ, List.getElem_cons_zero])
        refine wpAnyH_take (i := 5) (v := ?vo141) rfl (by kernel_rfl) (by kernel_rfl) (by kernel_rfl) (fun _ _ _ h => h) (Or.inl ⟨by rfl, ?yo141⟩) (by assumption) ?ro141
        case yo141 => (intro w0 hSw; (try dsimp only at hSw); (try simp only [List.getElem_toArray, List.getElem_cons_succ, List.getElem_cons_zero]); go_simp; try with_reducible rfl)
        (try simp only [Act.put, List.setIfInBounds_toArray, List.set_cons_zero, List.set_cons_succ, List.getElem_toArray, List.getElem_cons_succ, List.getElem_cons_zero])
        refine wpAnyH_ready (rs := [6]) (by kernel_rfl) (by simp) ?_
        refine AllReadyH.cons rfl (fun K' hK => ?_) AllReadyH.nil
        (try simp only [Act.put, List.getElem_toArray, List.getElem_cons_succ, List.getElem_cons_zero])
        refine gput_rowH (P := Try.prog) _ (.tmp 10) (.tmp 42) rfl g4 27 _ (mcells R3) rfl rfl F4.out rfl (msz R3) (mcells1 R3) ?_
        intro y6 x6 q6
        have HF := hid (own2_store (l := l) (M := M) T1.out (mbox_nel F4.out T1.out) T3.out (mbox_ne F4.out) BX.out S4.out q6 x6)
        try dsimp only
        refine hK.out _ _ (CF.out _ HF.out.2.2.2.1) (fun hHeld => ?_)
        clear hK K'
        (try simp only [Act.put])
        refine wpAnyH_done (by kernel_rfl) ?_ _
        go_wp2
        go_meet
        exact ⟨g4, R3, rfl, HF⟩
    · (try simp only [List.getElem_toArray, List.getElem_cons_succ, List.getElem_cons_zero])
      go_simp
      obtain ⟨y4, hX⟩ : ∃ X, X = (V).alloc (.cells #[.bool false, .slice none 0 0, .int .i64 0, .bool false, .slice none 0 0, .int .i64 0, .bool false, .slice none 0 0, .int .i64 0, .bool false, .slice none 0 0, .int .i64 0] 27) := ⟨_, rfl⟩
      rw [← hX]
      obtain ⟨g4, hg4⟩ : ∃ g, g = (V).heap.size := ⟨_, rfl⟩
      rw [← hg4]
      have F4 := hid (show Mbox y4 g4 D0 from hg4 ▸ hX ▸ heap_alloc_new _ _)
      have S4 := hid (show w3.heap.size ≤ g4 from hg4 ▸ BX.out.size)
      have hb := hid (show Below (V).heap.size (V) y4 from hX ▸ (Below.refl _ _).alloc (Nat.le_refl _) _)
      clear hX hg4
      replace BX := hid (BX.out.trans (hb.out.mono BX.out.size))
      clear hb
      try dsimp only
      refine hK.out _ _ (CF.out _ BX.out) (fun hHeld => ?_)
      clear hK K'
      (try simp only [Act.put, List.setIfInBounds_toArray, List.set_cons_zero, List.set_cons_succ, List.getElem_toArray, List.getElem_cons_succ, List.getElem_cons_zero])
      refine wpAnyH_ready (rs := [1]) (by kernel_rfl) (by simp) ?_
      refine (AllReadyH.cons rfl (fun K' hK => ?_) AllReadyH.nil)
      (try simp only [List.getElem_toArray, List.getElem_cons_succ, List.getElem_cons_zero])
      go_simp
      refine (CA.out _ BX.out).mono ?_
      rintro e y1 ⟨v1, rs1, rfl, H1⟩
      have T1 := hid (H1.out.1.mono (C := w3.heap.size) BX.out.size)
      have hb := hid H1.out.2
      clear H1
      replace F4 := hid (F4.out.below hb.out F4.out.lt)
      replace BX := hid (BX.out.trans (hb.out.mono BX.out.size))
      clear hb
      try dsimp only
      refine hK.out _ _ (CF.out _ BX.out) (fun hHeld => ?_)
      clear hK K'
      (try simp only [Act.put, List.setIfInBounds_toArray, List.set_cons_zero, List.set_cons_succ, List.getElem_toArray, List.getElem_cons_succ, List.getElem_cons_zero])
      refine wpAnyH_ready (rs := [3]) (by kernel_rfl) (by simp) ?_
      refine (AllReadyH.cons rfl (fun K' hK => ?_) AllReadyH.nil)
      (try simp only [List.getElem_toArray, List.getElem_cons_succ, List.getElem_cons_zero])
      go_simp
      refine (CB.out _ BX.out).mono ?_
      rintro e y3 ⟨R3, rfl, H3', hb⟩
      have T3 := hid ((low_twd H3'.out).mono (C := w3.heap.size) BX.out.size)
      clear H3'
      replace F4 := hid (F4.out.below hb.out F4.out.lt)
      replace T1 := hid (T1.out.below hb.out)
      replace BX := hid (BX.out.trans (hb.out.mono BX.out.size))
      clear hb
      try dsimp only
      refine hK.out _ _ (CF.out _ BX.out) (fun hHeld => ?_)
      clear hK K'
      (try simp only [Act.put, List.setIfInBounds_toArray, List.set_cons_zero, List.set_cons_succ, List.getElem_toArray, List.getElem_cons_succ, List.getElem_cons_zero])
      refine wpAnyH_take (i := 5) (v := ?vo41) rfl (by kernel_rfl) (by kernel_rfl) (by kernel_rfl) (fun _ _ _ h => h) (Or.inl ⟨by rfl, ?yo41⟩) (by assumption) ?ro41
      case yo41 => (intro w0 hSw; (try dsimp only at hSw); (try simp only [List.getElem_toArray, List.getElem_cons_succ, List.getElem_cons_zero]); go_simp; try with_reducible rfl)
      (try simp only [Act.put, List.setIfInBounds_toArray, List.set_cons_zero, List.set_cons_succ, List.getElem_toArray, List.getElem_cons_succ, List.getElem_cons_zero])
      refine wpAnyH_ready (rs := [6]) (by kernel_rfl) (by simp) ?_
      refine AllReadyH.cons rfl (fun K' hK => ?_) AllReadyH.nil
      (try simp only [Act.put, List.getElem_toArray, List.getElem_cons_succ, List.getElem_cons_zero])
      refine gput_rowH (P := Try.prog) _ (.tmp 10) (.tmp 42) rfl g4 27 _ (mcells R3) rfl rfl F4.out rfl (msz R3) (mcells1 R3) ?_
      intro y6 x6 q6
      have HF := hid (own2_store (l := l) (M := M) T1.out (mbox_nel F4.out T1.out) T3.out (mbox_ne F4.out) BX.out S4.out q6 x6)
      try dsimp only
      refine hK.out _ _ (CF.out _ HF.out.2.2.2.1) (fun hHeld => ?_)
      clear hK K'
      (try simp only [Act.put])
      refine wpAnyH_done (by kernel_rfl) ?_ _
      go_wp2
      go_meet
      exact ⟨g4, R3, rfl, HF⟩
  case rest =>
    obtain ⟨g10, R, rfl, HC⟩ := hcut
    obtain ⟨rs9, h9⟩ := HC.out.1
    obtain ⟨A9, c9, rfl, O9'⟩ := h9.form
    have O9 := hid O9'
    have M9 := hid HC.out.2.2.1.lrd
    have X9 := hid HC.out.2.1
    have HPL := hid HC.out.2.2.1.pl
    have BW := hid (gbelow_on B3.out (Nat.le_refl _) HC.out.2.2.2.1)
    have N9 := hid (show Mbox wc w.heap.size M from N3.out.below HC.out.2.2.2.1 N3.out.lt)
    have LG := hid (H.out.below BW.out)
    have SG := hid N3.out.lt
    have S3c := hid HC.out.2.2.2.1.size
    have S03 := hid B3.out.size
    have hx9 := hid HC.out.2.1.lt
    have hlm := O9'.max
    have hlc := O9'.cap
    have ham := LG.out.max
    have hac := LG.out.cap
    clear h9 O9' HC
    obtain ⟨qa, Hqa'⟩ : ∃ q, q = lnE l n ep (pmd M) := ⟨_, rfl⟩
    have Hqa := hid Hqa'
    clear Hqa'
    obtain ⟨La, HLa'⟩ : ∃ q, q = lnL l n ep (pmd M) := ⟨_, rfl⟩
    have HLa := hid HLa'
    clear HLa'
    obtain ⟨qc, Hqc'⟩ : ∃ q, q = tE l n 0 := ⟨_, rfl⟩
    have Hqc := hid Hqc'
    clear Hqc'
    obtain ⟨Lc, HLc'⟩ : ∃ q, q = tL l n 0 := ⟨_, rfl⟩
    have HLc := hid HLc'
    clear HLc'
    obtain ⟨qp, Hqp'⟩ : ∃ q, q = tE l n 2 := ⟨_, rfl⟩
    have Hqp := hid Hqp'
    clear Hqp'
    obtain ⟨Lp, HLp'⟩ : ∃ q, q = tL l n 2 := ⟨_, rfl⟩
    have HLp := hid HLp'
    clear HLp'
    obtain ⟨Xp, HXp'⟩ : ∃ q, q = tX l n 2 := ⟨_, rfl⟩
    have HXp := hid HXp'
    clear HXp'
    obtain ⟨qs, Hqs'⟩ : ∃ q, q = tE l n 1 := ⟨_, rfl⟩
    have Hqs := hid Hqs'
    clear Hqs'
    obtain ⟨Ls, HLs'⟩ : ∃ q, q = tL l n 1 := ⟨_, rfl⟩
    have HLs := hid HLs'
    clear HLs'
    obtain ⟨Xs, HXs'⟩ : ∃ q, q = tX l n 1 := ⟨_, rfl⟩
    have HXs := hid HXs'
    clear HXs'
    obtain ⟨qk, Hqk'⟩ : ∃ q, q = lE l := ⟨_, rfl⟩
    have Hqk := hid Hqk'
    clear Hqk'
    have t := launch_any (w := wc) (n := n) (ep := ep) (M := R) O9.out M9.out.rd M9.out.nil (by have := SG.out; have := S3c.out; have := S03.out; have := hx9.out; omega) HZ.out (by have := HPL.out; simp only at this; rw [this]; exact HZM.out)
    rw [show pmd R = pmd M from HPL.out, ← HLa.out, ← Hqa.out] at t
    have CT := hid t
    clear t
    have ld := mbox_row X9.out
    go_wp2_with (first | (refine wp_lm rfl (.tmp 10) rfl g10 0 R rfl ld ?_) | fail)
    refine CT.out.mono ?_
    rintro e ya ⟨va, rsa, rfl, H1⟩
    obtain ⟨Aa, ca, rfl, hll⟩ := H1.out.1.form
    have hb := hid H1.out.2
    have Fa := hid H1.out.1
    have Ta := hid H1.out.1.ahead
    have hma := hll.max
    have hca := hll.cap
    clear H1 CT hll
    clear ld
    replace O9 := hid (O9.out.below (hb.out.mono (by have := SG.out; have := S3c.out; have := S03.out; have := hx9.out; omega)))
    replace M9 := hid (M9.out.below (hb.out.mono (by have := SG.out; have := S3c.out; have := S03.out; have := hx9.out; omega)))
    replace X9 := hid (X9.out.below hb.out X9.out.lt)
    replace N9 := hid (N9.out.below hb.out N9.out.lt)
    replace LG := hid (LG.out.below (hb.out.mono (by have := SG.out; have := S3c.out; have := S03.out; have := hx9.out; omega)))
    replace BW := hid (gbelow_on BW.out (Nat.le_refl _) hb.out)
    have S_ya := hid hb.out.size
    clear hb
    have t := rlaunch_any (w := ya) (n := n) (ep := ep) (M := M) LG.out (fun j hj => (HM.out j hj).below BW.out) HNL.out (by have := SG.out; have := S3c.out; have := S03.out; have := hx9.out; have := S_ya.out; omega) HZ.out HZM.out
    rw [← HLa.out, ← Hqa.out] at t
    have CT := hid t
    clear t
    have ld := mbox_row N9.out
    go_wp2_with (first | (refine wp_lm rfl (.tmp 7) rfl w.heap.size 0 M rfl ld ?_) | fail)
    refine CT.out.mono ?_
    rintro e yb ⟨vb, rsb, rfl, H1⟩
    obtain ⟨Ab, cb, rfl, hll⟩ := H1.out.1.form
    have hb := hid H1.out.2
    have Fb := hid H1.out.1
    have Tb := hid H1.out.1.ahead
    have hmb := hll.max
    have hcb := hll.cap
    clear H1 CT hll
    clear ld
    replace O9 := hid (O9.out.below (hb.out.mono (by have := SG.out; have := S3c.out; have := S03.out; have := hx9.out; have := S_ya.out; omega)))
    replace M9 := hid (M9.out.below (hb.out.mono (by have := SG.out; have := S3c.out; have := S03.out; have := hx9.out; have := S_ya.out; omega)))
    replace X9 := hid (X9.out.below hb.out X9.out.lt)
    replace N9 := hid (N9.out.below hb.out N9.out.lt)
    replace LG := hid (LG.out.below (hb.out.mono (by have := SG.out; have := S3c.out; have := S03.out; have := hx9.out; have := S_ya.out; omega)))
    replace BW := hid (gbelow_on BW.out (Nat.le_refl _) hb.out)
    replace Fa := hid (Fa.out.below hb.out)
    have S_yb := hid hb.out.size
    clear hb
    have t := double_any (w := yb) n O9.out (by have := SG.out; have := S3c.out; have := S03.out; have := hx9.out; have := S_ya.out; have := S_yb.out; omega) HZ.out
    rw [← HLc.out, ← Hqc.out] at t
    have CT := hid t
    clear t
    go_wp2_with fail
    refine CT.out.mono ?_
    rintro e yc ⟨vc, rsc, rfl, H1⟩
    obtain ⟨Ac, cc, rfl, hll⟩ := H1.out.1.form
    have hb := hid H1.out.2
    have Fc := hid H1.out.1
    have Tc := hid H1.out.1.ahead
    have hmc := hll.max
    have hcc := hll.cap
    clear H1 CT hll
    replace O9 := hid (O9.out.below (hb.out.mono (by have := SG.out; have := S3c.out; have := S03.out; have := hx9.out; have := S_ya.out; have := S_yb.out; omega)))
    replace M9 := hid (M9.out.below (hb.out.mono (by have := SG.out; have := S3c.out; have := S03.out; have := hx9.out; have := S_ya.out; have := S_yb.out; omega)))
    replace X9 := hid (X9.out.below hb.out X9.out.lt)
    replace N9 := hid (N9.out.below hb.out N9.out.lt)
    replace LG := hid (LG.out.below (hb.out.mono (by have := SG.out; have := S3c.out; have := S03.out; have := hx9.out; have := S_ya.out; have := S_yb.out; omega)))
    replace BW := hid (gbelow_on BW.out (Nat.le_refl _) hb.out)
    replace Fa := hid (Fa.out.below hb.out)
    replace Fb := hid (Fb.out.below hb.out)
    have S_yc := hid hb.out.size
    clear hb
    have t := rdouble_any (w := yc) n LG.out (by have := SG.out; have := S3c.out; have := S03.out; have := hx9.out; have := S_ya.out; have := S_yb.out; have := S_yc.out; omega) HZ.out
    rw [← HLc.out, ← Hqc.out] at t
    have CT := hid t
    clear t
    go_wp2_with fail
    refine CT.out.mono ?_
    rintro e yd ⟨vd, rsd, rfl, H1⟩
    obtain ⟨Ad, cd, rfl, hll⟩ := H1.out.1.form
    have hb := hid H1.out.2
    have Fd := hid H1.out.1
    have Td := hid H1.out.1.ahead
    have hmd := hll.max
    have hcd := hll.cap
    clear H1 CT hll
    replace O9 := hid (O9.out.below (hb.out.mono (by have := SG.out; have := S3c.out; have := S03.out; have := hx9.out; have := S_ya.out; have := S_yb.out; have := S_yc.out; omega)))
    replace M9 := hid (M9.out.below (hb.out.mono (by have := SG.out; have := S3c.out; have := S03.out; have := hx9.out; have := S_ya.out; have := S_yb.out; have := S_yc.out; omega)))
    replace X9 := hid (X9.out.below hb.out X9.out.lt)
    replace N9 := hid (N9.out.below hb.out N9.out.lt)
    replace LG := hid (LG.out.below (hb.out.mono (by have := SG.out; have := S3c.out; have := S03.out; have := hx9.out; have := S_ya.out; have := S_yb.out; have := S_yc.out; omega)))
    replace BW := hid (gbelow_on BW.out (Nat.le_refl _) hb.out)
    replace Fa := hid (Fa.out.below hb.out)
    replace Fb := hid (Fb.out.below hb.out)
    replace Fc := hid (Fc.out.below hb.out)
    have S_yd := hid hb.out.size
    clear hb
    have t := land_any (w := yd) n O9.out (by have := SG.out; have := S3c.out; have := S03.out; have := hx9.out; have := S_ya.out; have := S_yb.out; have := S_yc.out; have := S_yd.out; omega) HZ.out
    rw [← HLp.out, ← HXp.out, ← Hqp.out] at t
    have CT := hid t
    clear t
    go_wp2_with fail
    refine CT.out.mono ?_
    rintro e yp ⟨vp, rsp, ⟨xp, ip, jp, Dp⟩, mp, rfl, H1⟩
    obtain ⟨Ap, cp, rfl, hll⟩ := H1.out.1.form
    have hb := hid H1.out.2.1
    have Fp := hid H1.out.1
    obtain ⟨Cp, hC1, hC2, hC3⟩ := H1.out.2.2.2.1.least H1.out.1.ahead
    have Tp := hid hC3
    have Up := hid (And.intro hC1 (And.intro hC2 H1.out.2.2.2.2))
    have Vp := hid H1.out.2.2.1
    have Wp := hid Vp.out.ahead
    have hmp := hll.max
    have hcp := hll.cap
    clear H1 CT hll hC1 hC2 hC3
    replace O9 := hid (O9.out.below (hb.out.mono (by have := SG.out; have := S3c.out; have := S03.out; have := hx9.out; have := S_ya.out; have := S_yb.out; have := S_yc.out; have := S_yd.out; omega)))
    replace M9 := hid (M9.out.below (hb.out.mono (by have := SG.out; have := S3c.out; have := S03.out; have := hx9.out; have := S_ya.out; have := S_yb.out; have := S_yc.out; have := S_yd.out; omega)))
    replace X9 := hid (X9.out.below hb.out X9.out.lt)
    replace N9 := hid (N9.out.below hb.out N9.out.lt)
    replace LG := hid (LG.out.below (hb.out.mono (by have := SG.out; have := S3c.out; have := S03.out; have := hx9.out; have := S_ya.out; have := S_yb.out; have := S_yc.out; have := S_yd.out; omega)))
    replace BW := hid (gbelow_on BW.out (Nat.le_refl _) hb.out)
    replace Fa := hid (Fa.out.below hb.out)
    replace Fb := hid (Fb.out.below hb.out)
    replace Fc := hid (Fc.out.below hb.out)
    replace Fd := hid (Fd.out.below hb.out)
    have S_yp := hid hb.out.size
    clear hb
    have Y1 := hid (Lbx.new yp 0 0 0 D0)
    have B1 := hid ((Below.refl _ yp).alloc (Nat.le_refl yp.heap.size) (.cells (lcells 0 0 0 D0) 40))
    go_upto_region 9 with (first
      | (refine gput_row (P := Try.prog) rfl _ (.tmp 20) (.tmp 76) rfl yp.heap.size 40 _ (lcells xp ip jp Dp) rfl rfl Y1.out rfl (loadSize xp ip jp Dp) (lcells_one xp ip jp Dp) ?_
         intro zp x4 q4
         have hb := hid (q4.bel B1.out (Nat.le_refl _))
         have Gp := hid (show Lbx zp yp.heap.size xp ip jp Dp from x4)
         clear x4 q4)
      | fail)
    clear Y1 B1
    replace O9 := hid (O9.out.below (hb.out.mono (by have := SG.out; have := S3c.out; have := S03.out; have := hx9.out; have := S_ya.out; have := S_yb.out; have := S_yc.out; have := S_yd.out; have := S_yp.out; have := Up.out; omega)))
    replace M9 := hid (M9.out.below (hb.out.mono (by have := SG.out; have := S3c.out; have := S03.out; have := hx9.out; have := S_ya.out; have := S_yb.out; have := S_yc.out; have := S_yd.out; have := S_yp.out; have := Up.out; omega)))
    replace X9 := hid (X9.out.below hb.out X9.out.lt)
    replace N9 := hid (N9.out.below hb.out N9.out.lt)
    replace LG := hid (LG.out.below (hb.out.mono (by have := SG.out; have := S3c.out; have := S03.out; have := hx9.out; have := S_ya.out; have := S_yb.out; have := S_yc.out; have := S_yd.out; have := S_yp.out; have := Up.out; omega)))
    replace BW := hid (gbelow_on BW.out (Nat.le_refl _) hb.out)
    replace Fa := hid (Fa.out.below hb.out)
    replace Fb := hid (Fb.out.below hb.out)
    replace Fc := hid (Fc.out.below hb.out)
    replace Fd := hid (Fd.out.below hb.out)
    replace Fp := hid (Fp.out.below hb.out)
    replace Vp := hid (Vp.out.below hb.out)
    have S_zp := hid hb.out.size
    clear hb
    have t := rland_any (w := zp) n LG.out (by have := SG.out; have := S3c.out; have := S03.out; have := hx9.out; have := S_ya.out; have := S_yb.out; have := S_yc.out; have := S_yd.out; have := S_yp.out; have := Up.out; have := S_zp.out; omega) HZ.out
    rw [← HLp.out, ← HXp.out, ← Hqp.out] at t
    have CT := hid t
    clear t
    go_wp2_with fail
    refine CT.out.mono ?_
    rintro e yq ⟨vq, rsq, ⟨xq, iq, jq, Dq⟩, mq, rfl, H1⟩
    obtain ⟨Aq, cq, rfl, hll⟩ := H1.out.1.form
    have hb := hid H1.out.2.1
    have Fq := hid H1.out.1
    obtain ⟨Cq, hC1, hC2, hC3⟩ := H1.out.2.2.2.1.least H1.out.1.ahead
    have Tq := hid hC3
    have Uq := hid (And.intro hC1 (And.intro hC2 H1.out.2.2.2.2))
    have Vq := hid H1.out.2.2.1
    have Wq := hid Vq.out.ahead
    have hmq := hll.max
    have hcq := hll.cap
    clear H1 CT hll hC1 hC2 hC3
    replace O9 := hid (O9.out.below (hb.out.mono (by have := SG.out; have := S3c.out; have := S03.out; have := hx9.out; have := S_ya.out; have := S_yb.out; have := S_yc.out; have := S_yd.out; have := S_yp.out; have := Up.out; have := S_zp.out; omega)))
    replace M9 := hid (M9.out.below (hb.out.mono (by have := SG.out; have := S3c.out; have := S03.out; have := hx9.out; have := S_ya.out; have := S_yb.out; have := S_yc.out; have := S_yd.out; have := S_yp.out; have := Up.out; have := S_zp.out; omega)))
    replace X9 := hid (X9.out.below hb.out X9.out.lt)
    replace N9 := hid (N9.out.below hb.out N9.out.lt)
    replace LG := hid (LG.out.below (hb.out.mono (by have := SG.out; have := S3c.out; have := S03.out; have := hx9.out; have := S_ya.out; have := S_yb.out; have := S_yc.out; have := S_yd.out; have := S_yp.out; have := Up.out; have := S_zp.out; omega)))
    replace BW := hid (gbelow_on BW.out (Nat.le_refl _) hb.out)
    replace Fa := hid (Fa.out.below hb.out)
    replace Fb := hid (Fb.out.below hb.out)
    replace Fc := hid (Fc.out.below hb.out)
    replace Fd := hid (Fd.out.below hb.out)
    replace Fp := hid (Fp.out.below hb.out)
    replace Vp := hid (Vp.out.below hb.out)
    replace Gp := hid (Gp.out.below hb.out Gp.out.lt)
    have S_yq := hid hb.out.size
    clear hb
    have Y1 := hid (Lbx.new yq 0 0 0 D0)
    have B1 := hid ((Below.refl _ yq).alloc (Nat.le_refl yq.heap.size) (.cells (lcells 0 0 0 D0) 40))
    go_upto_region 10 with (first
      | (refine gput_row (P := Try.prog) rfl _ (.tmp 23) (.tmp 83) rfl yq.heap.size 40 _ (lcells xq iq jq Dq) rfl rfl Y1.out rfl (loadSize xq iq jq Dq) (lcells_one xq iq jq Dq) ?_
         intro zq x4 q4
         have hb := hid (q4.bel B1.out (Nat.le_refl _))
         have Gq := hid (show Lbx zq yq.heap.size xq iq jq Dq from x4)
         clear x4 q4)
      | fail)
    clear Y1 B1
    replace O9 := hid (O9.out.below (hb.out.mono (by have := SG.out; have := S3c.out; have := S03.out; have := hx9.out; have := S_ya.out; have := S_yb.out; have := S_yc.out; have := S_yd.out; have := S_yp.out; have := Up.out; have := S_zp.out; have := S_yq.out; have := Uq.out; omega)))
    replace M9 := hid (M9.out.below (hb.out.mono (by have := SG.out; have := S3c.out; have := S03.out; have := hx9.out; have := S_ya.out; have := S_yb.out; have := S_yc.out; have := S_yd.out; have := S_yp.out; have := Up.out; have := S_zp.out; have := S_yq.out; have := Uq.out; omega)))
    replace X9 := hid (X9.out.below hb.out X9.out.lt)
    replace N9 := hid (N9.out.below hb.out N9.out.lt)
    replace LG := hid (LG.out.below (hb.out.mono (by have := SG.out; have := S3c.out; have := S03.out; have := hx9.out; have := S_ya.out; have := S_yb.out; have := S_yc.out; have := S_yd.out; have := S_yp.out; have := Up.out; have := S_zp.out; have := S_yq.out; have := Uq.out; omega)))
    replace BW := hid (gbelow_on BW.out (Nat.le_refl _) hb.out)
    replace Fa := hid (Fa.out.below hb.out)
    replace Fb := hid (Fb.out.below hb.out)
    replace Fc := hid (Fc.out.below hb.out)
    replace Fd := hid (Fd.out.below hb.out)
    replace Fp := hid (Fp.out.below hb.out)
    replace Vp := hid (Vp.out.below hb.out)
    replace Gp := hid (Gp.out.below hb.out Gp.out.lt)
    replace Fq := hid (Fq.out.below hb.out)
    replace Vq := hid (Vq.out.below hb.out)
    have S_zq := hid hb.out.size
    clear hb
    have t := lose_any (w := zq) n O9.out (by have := SG.out; have := S3c.out; have := S03.out; have := hx9.out; have := S_ya.out; have := S_yb.out; have := S_yc.out; have := S_yd.out; have := S_yp.out; have := Up.out; have := S_zp.out; have := S_yq.out; have := Uq.out; have := S_zq.out; omega) HZ.out
    rw [← HLs.out, ← HXs.out, ← Hqs.out] at t
    have CT := hid t
    clear t
    go_wp2_with fail
    refine CT.out.mono ?_
    rintro e ys ⟨vs, rss, ⟨xs, is, js, Ds⟩, ms, rfl, H1⟩
    obtain ⟨As, cs, rfl, hll⟩ := H1.out.1.form
    have hb := hid H1.out.2.1
    have Fs := hid H1.out.1
    obtain ⟨Cs, hC1, hC2, hC3⟩ := H1.out.2.2.2.1.least H1.out.1.ahead
    have Ts := hid hC3
    have Us := hid (And.intro hC1 (And.intro hC2 H1.out.2.2.2.2))
    have Vs := hid H1.out.2.2.1
    have Ws := hid Vs.out.ahead
    have hms := hll.max
    have hcs := hll.cap
    clear H1 CT hll hC1 hC2 hC3
    replace O9 := hid (O9.out.below (hb.out.mono (by have := SG.out; have := S3c.out; have := S03.out; have := hx9.out; have := S_ya.out; have := S_yb.out; have := S_yc.out; have := S_yd.out; have := S_yp.out; have := Up.out; have := S_zp.out; have := S_yq.out; have := Uq.out; have := S_zq.out; omega)))
    replace M9 := hid (M9.out.below (hb.out.mono (by have := SG.out; have := S3c.out; have := S03.out; have := hx9.out; have := S_ya.out; have := S_yb.out; have := S_yc.out; have := S_yd.out; have := S_yp.out; have := Up.out; have := S_zp.out; have := S_yq.out; have := Uq.out; have := S_zq.out; omega)))
    replace X9 := hid (X9.out.below hb.out X9.out.lt)
    replace N9 := hid (N9.out.below hb.out N9.out.lt)
    replace LG := hid (LG.out.below (hb.out.mono (by have := SG.out; have := S3c.out; have := S03.out; have := hx9.out; have := S_ya.out; have := S_yb.out; have := S_yc.out; have := S_yd.out; have := S_yp.out; have := Up.out; have := S_zp.out; have := S_yq.out; have := Uq.out; have := S_zq.out; omega)))
    replace BW := hid (gbelow_on BW.out (Nat.le_refl _) hb.out)
    replace Fa := hid (Fa.out.below hb.out)
    replace Fb := hid (Fb.out.below hb.out)
    replace Fc := hid (Fc.out.below hb.out)
    replace Fd := hid (Fd.out.below hb.out)
    replace Fp := hid (Fp.out.below hb.out)
    replace Vp := hid (Vp.out.below hb.out)
    replace Gp := hid (Gp.out.below hb.out Gp.out.lt)
    replace Fq := hid (Fq.out.below hb.out)
    replace Vq := hid (Vq.out.below hb.out)
    replace Gq := hid (Gq.out.below hb.out Gq.out.lt)
    have S_ys := hid hb.out.size
    clear hb
    have Y1 := hid (Lbx.new ys 0 0 0 D0)
    have B1 := hid ((Below.refl _ ys).alloc (Nat.le_refl ys.heap.size) (.cells (lcells 0 0 0 D0) 40))
    go_upto_region 11 with (first
      | (refine gput_row (P := Try.prog) rfl _ (.tmp 26) (.tmp 90) rfl ys.heap.size 40 _ (lcells xs is js Ds) rfl rfl Y1.out rfl (loadSize xs is js Ds) (lcells_one xs is js Ds) ?_
         intro zs x4 q4
         have hb := hid (q4.bel B1.out (Nat.le_refl _))
         have Gs := hid (show Lbx zs ys.heap.size xs is js Ds from x4)
         clear x4 q4)
      | fail)
    clear Y1 B1
    replace O9 := hid (O9.out.below (hb.out.mono (by have := SG.out; have := S3c.out; have := S03.out; have := hx9.out; have := S_ya.out; have := S_yb.out; have := S_yc.out; have := S_yd.out; have := S_yp.out; have := Up.out; have := S_zp.out; have := S_yq.out; have := Uq.out; have := S_zq.out; have := S_ys.out; have := Us.out; omega)))
    replace M9 := hid (M9.out.below (hb.out.mono (by have := SG.out; have := S3c.out; have := S03.out; have := hx9.out; have := S_ya.out; have := S_yb.out; have := S_yc.out; have := S_yd.out; have := S_yp.out; have := Up.out; have := S_zp.out; have := S_yq.out; have := Uq.out; have := S_zq.out; have := S_ys.out; have := Us.out; omega)))
    replace X9 := hid (X9.out.below hb.out X9.out.lt)
    replace N9 := hid (N9.out.below hb.out N9.out.lt)
    replace LG := hid (LG.out.below (hb.out.mono (by have := SG.out; have := S3c.out; have := S03.out; have := hx9.out; have := S_ya.out; have := S_yb.out; have := S_yc.out; have := S_yd.out; have := S_yp.out; have := Up.out; have := S_zp.out; have := S_yq.out; have := Uq.out; have := S_zq.out; have := S_ys.out; have := Us.out; omega)))
    replace BW := hid (gbelow_on BW.out (Nat.le_refl _) hb.out)
    replace Fa := hid (Fa.out.below hb.out)
    replace Fb := hid (Fb.out.below hb.out)
    replace Fc := hid (Fc.out.below hb.out)
    replace Fd := hid (Fd.out.below hb.out)
    replace Fp := hid (Fp.out.below hb.out)
    replace Vp := hid (Vp.out.below hb.out)
    replace Gp := hid (Gp.out.below hb.out Gp.out.lt)
    replace Fq := hid (Fq.out.below hb.out)
    replace Vq := hid (Vq.out.below hb.out)
    replace Gq := hid (Gq.out.below hb.out Gq.out.lt)
    replace Fs := hid (Fs.out.below hb.out)
    replace Vs := hid (Vs.out.below hb.out)
    have S_zs := hid hb.out.size
    clear hb
    have t := rlose_any (w := zs) n LG.out (by have := SG.out; have := S3c.out; have := S03.out; have := hx9.out; have := S_ya.out; have := S_yb.out; have := S_yc.out; have := S_yd.out; have := S_yp.out; have := Up.out; have := S_zp.out; have := S_yq.out; have := Uq.out; have := S_zq.out; have := S_ys.out; have := Us.out; have := S_zs.out; omega) HZ.out
    rw [← HLs.out, ← HXs.out, ← Hqs.out] at t
    have CT := hid t
    clear t
    go_wp2_with fail
    refine CT.out.mono ?_
    rintro e yt ⟨vt, rst, ⟨xt, it, jt, Dt⟩, mt, rfl, H1⟩
    obtain ⟨At, ct, rfl, hll⟩ := H1.out.1.form
    have hb := hid H1.out.2.1
    have Ft := hid H1.out.1
    obtain ⟨Ct, hC1, hC2, hC3⟩ := H1.out.2.2.2.1.least H1.out.1.ahead
    have Tt := hid hC3
    have Ut := hid (And.intro hC1 (And.intro hC2 H1.out.2.2.2.2))
    have Vt := hid H1.out.2.2.1
    have Wt := hid Vt.out.ahead
    have hmt := hll.max
    have hct := hll.cap
    clear H1 CT hll hC1 hC2 hC3
    replace O9 := hid (O9.out.below (hb.out.mono (by have := SG.out; have := S3c.out; have := S03.out; have := hx9.out; have := S_ya.out; have := S_yb.out; have := S_yc.out; have := S_yd.out; have := S_yp.out; have := Up.out; have := S_zp.out; have := S_yq.out; have := Uq.out; have := S_zq.out; have := S_ys.out; have := Us.out; have := S_zs.out; omega)))
    replace M9 := hid (M9.out.below (hb.out.mono (by have := SG.out; have := S3c.out; have := S03.out; have := hx9.out; have := S_ya.out; have := S_yb.out; have := S_yc.out; have := S_yd.out; have := S_yp.out; have := Up.out; have := S_zp.out; have := S_yq.out; have := Uq.out; have := S_zq.out; have := S_ys.out; have := Us.out; have := S_zs.out; omega)))
    replace X9 := hid (X9.out.below hb.out X9.out.lt)
    replace N9 := hid (N9.out.below hb.out N9.out.lt)
    replace LG := hid (LG.out.below (hb.out.mono (by have := SG.out; have := S3c.out; have := S03.out; have := hx9.out; have := S_ya.out; have := S_yb.out; have := S_yc.out; have := S_yd.out; have := S_yp.out; have := Up.out; have := S_zp.out; have := S_yq.out; have := Uq.out; have := S_zq.out; have := S_ys.out; have := Us.out; have := S_zs.out; omega)))
    replace BW := hid (gbelow_on BW.out (Nat.le_refl _) hb.out)
    replace Fa := hid (Fa.out.below hb.out)
    replace Fb := hid (Fb.out.below hb.out)
    replace Fc := hid (Fc.out.below hb.out)
    replace Fd := hid (Fd.out.below hb.out)
    replace Fp := hid (Fp.out.below hb.out)
    replace Vp := hid (Vp.out.below hb.out)
    replace Gp := hid (Gp.out.below hb.out Gp.out.lt)
    replace Fq := hid (Fq.out.below hb.out)
    replace Vq := hid (Vq.out.below hb.out)
    replace Gq := hid (Gq.out.below hb.out Gq.out.lt)
    replace Fs := hid (Fs.out.below hb.out)
    replace Vs := hid (Vs.out.below hb.out)
    replace Gs := hid (Gs.out.below hb.out Gs.out.lt)
    have S_yt := hid hb.out.size
    clear hb
    have Y1 := hid (Lbx.new yt 0 0 0 D0)
    have B1 := hid ((Below.refl _ yt).alloc (Nat.le_refl yt.heap.size) (.cells (lcells 0 0 0 D0) 40))
    go_upto_region 12 with (first
      | (refine gput_row (P := Try.prog) rfl _ (.tmp 29) (.tmp 97) rfl yt.heap.size 40 _ (lcells xt it jt Dt) rfl rfl Y1.out rfl (loadSize xt it jt Dt) (lcells_one xt it jt Dt) ?_
         intro zt x4 q4
         have hb := hid (q4.bel B1.out (Nat.le_refl _))
         have Gt := hid (show Lbx zt yt.heap.size xt it jt Dt from x4)
         clear x4 q4)
      | fail)
    clear Y1 B1
    replace O9 := hid (O9.out.below (hb.out.mono (by have := SG.out; have := S3c.out; have := S03.out; have := hx9.out; have := S_ya.out; have := S_yb.out; have := S_yc.out; have := S_yd.out; have := S_yp.out; have := Up.out; have := S_zp.out; have := S_yq.out; have := Uq.out; have := S_zq.out; have := S_ys.out; have := Us.out; have := S_zs.out; have := S_yt.out; have := Ut.out; omega)))
    replace M9 := hid (M9.out.below (hb.out.mono (by have := SG.out; have := S3c.out; have := S03.out; have := hx9.out; have := S_ya.out; have := S_yb.out; have := S_yc.out; have := S_yd.out; have := S_yp.out; have := Up.out; have := S_zp.out; have := S_yq.out; have := Uq.out; have := S_zq.out; have := S_ys.out; have := Us.out; have := S_zs.out; have := S_yt.out; have := Ut.out; omega)))
    replace X9 := hid (X9.out.below hb.out X9.out.lt)
    replace N9 := hid (N9.out.below hb.out N9.out.lt)
    replace LG := hid (LG.out.below (hb.out.mono (by have := SG.out; have := S3c.out; have := S03.out; have := hx9.out; have := S_ya.out; have := S_yb.out; have := S_yc.out; have := S_yd.out; have := S_yp.out; have := Up.out; have := S_zp.out; have := S_yq.out; have := Uq.out; have := S_zq.out; have := S_ys.out; have := Us.out; have := S_zs.out; have := S_yt.out; have := Ut.out; omega)))
    replace BW := hid (gbelow_on BW.out (Nat.le_refl _) hb.out)
    replace Fa := hid (Fa.out.below hb.out)
    replace Fb := hid (Fb.out.below hb.out)
    replace Fc := hid (Fc.out.below hb.out)
    replace Fd := hid (Fd.out.below hb.out)
    replace Fp := hid (Fp.out.below hb.out)
    replace Vp := hid (Vp.out.below hb.out)
    replace Gp := hid (Gp.out.below hb.out Gp.out.lt)
    replace Fq := hid (Fq.out.below hb.out)
    replace Vq := hid (Vq.out.below hb.out)
    replace Gq := hid (Gq.out.below hb.out Gq.out.lt)
    replace Fs := hid (Fs.out.below hb.out)
    replace Vs := hid (Vs.out.below hb.out)
    replace Gs := hid (Gs.out.below hb.out Gs.out.lt)
    replace Ft := hid (Ft.out.below hb.out)
    replace Vt := hid (Vt.out.below hb.out)
    have S_zt := hid hb.out.size
    clear hb
    have CT := hid (same_yes (w := zt) Fa.out.lls2 Fb.out.lls2 (Nat.le_refl _) (Nat.le_refl _))
    go_wp2_with fail
    refine CT.out.mono ?_
    rintro e k1 ⟨rfl, hb⟩
    clear CT
    replace O9 := hid (O9.out.below (hb.out.mono (by have := SG.out; have := S3c.out; have := S03.out; have := hx9.out; have := S_ya.out; have := S_yb.out; have := S_yc.out; have := S_yd.out; have := S_yp.out; have := Up.out; have := S_zp.out; have := S_yq.out; have := Uq.out; have := S_zq.out; have := S_ys.out; have := Us.out; have := S_zs.out; have := S_yt.out; have := Ut.out; have := S_zt.out; omega)))
    replace M9 := hid (M9.out.below (hb.out.mono (by have := SG.out; have := S3c.out; have := S03.out; have := hx9.out; have := S_ya.out; have := S_yb.out; have := S_yc.out; have := S_yd.out; have := S_yp.out; have := Up.out; have := S_zp.out; have := S_yq.out; have := Uq.out; have := S_zq.out; have := S_ys.out; have := Us.out; have := S_zs.out; have := S_yt.out; have := Ut.out; have := S_zt.out; omega)))
    replace X9 := hid (X9.out.below hb.out X9.out.lt)
    replace N9 := hid (N9.out.below hb.out N9.out.lt)
    replace LG := hid (LG.out.below (hb.out.mono (by have := SG.out; have := S3c.out; have := S03.out; have := hx9.out; have := S_ya.out; have := S_yb.out; have := S_yc.out; have := S_yd.out; have := S_yp.out; have := Up.out; have := S_zp.out; have := S_yq.out; have := Uq.out; have := S_zq.out; have := S_ys.out; have := Us.out; have := S_zs.out; have := S_yt.out; have := Ut.out; have := S_zt.out; omega)))
    replace BW := hid (gbelow_on BW.out (Nat.le_refl _) hb.out)
    replace Fa := hid (Fa.out.below hb.out)
    replace Fb := hid (Fb.out.below hb.out)
    replace Fc := hid (Fc.out.below hb.out)
    replace Fd := hid (Fd.out.below hb.out)
    replace Fp := hid (Fp.out.below hb.out)
    replace Vp := hid (Vp.out.below hb.out)
    replace Gp := hid (Gp.out.below hb.out Gp.out.lt)
    replace Fq := hid (Fq.out.below hb.out)
    replace Vq := hid (Vq.out.below hb.out)
    replace Gq := hid (Gq.out.below hb.out Gq.out.lt)
    replace Fs := hid (Fs.out.below hb.out)
    replace Vs := hid (Vs.out.below hb.out)
    replace Gs := hid (Gs.out.below hb.out Gs.out.lt)
    replace Ft := hid (Ft.out.below hb.out)
    replace Vt := hid (Vt.out.below hb.out)
    replace Gt := hid (Gt.out.below hb.out Gt.out.lt)
    have S_k1 := hid hb.out.size
    clear hb
    have CT := hid (same_yes (w := k1) Fc.out.lls2 Fd.out.lls2 (Nat.le_refl _) (Nat.le_refl _))
    go_wp2_with fail
    refine CT.out.mono ?_
    rintro e k2 ⟨rfl, hb⟩
    clear CT
    replace O9 := hid (O9.out.below (hb.out.mono (by have := SG.out; have := S3c.out; have := S03.out; have := hx9.out; have := S_ya.out; have := S_yb.out; have := S_yc.out; have := S_yd.out; have := S_yp.out; have := Up.out; have := S_zp.out; have := S_yq.out; have := Uq.out; have := S_zq.out; have := S_ys.out; have := Us.out; have := S_zs.out; have := S_yt.out; have := Ut.out; have := S_zt.out; have := S_k1.out; omega)))
    replace M9 := hid (M9.out.below (hb.out.mono (by have := SG.out; have := S3c.out; have := S03.out; have := hx9.out; have := S_ya.out; have := S_yb.out; have := S_yc.out; have := S_yd.out; have := S_yp.out; have := Up.out; have := S_zp.out; have := S_yq.out; have := Uq.out; have := S_zq.out; have := S_ys.out; have := Us.out; have := S_zs.out; have := S_yt.out; have := Ut.out; have := S_zt.out; have := S_k1.out; omega)))
    replace X9 := hid (X9.out.below hb.out X9.out.lt)
    replace N9 := hid (N9.out.below hb.out N9.out.lt)
    replace LG := hid (LG.out.below (hb.out.mono (by have := SG.out; have := S3c.out; have := S03.out; have := hx9.out; have := S_ya.out; have := S_yb.out; have := S_yc.out; have := S_yd.out; have := S_yp.out; have := Up.out; have := S_zp.out; have := S_yq.out; have := Uq.out; have := S_zq.out; have := S_ys.out; have := Us.out; have := S_zs.out; have := S_yt.out; have := Ut.out; have := S_zt.out; have := S_k1.out; omega)))
    replace BW := hid (gbelow_on BW.out (Nat.le_refl _) hb.out)
    replace Fa := hid (Fa.out.below hb.out)
    replace Fb := hid (Fb.out.below hb.out)
    replace Fc := hid (Fc.out.below hb.out)
    replace Fd := hid (Fd.out.below hb.out)
    replace Fp := hid (Fp.out.below hb.out)
    replace Vp := hid (Vp.out.below hb.out)
    replace Gp := hid (Gp.out.below hb.out Gp.out.lt)
    replace Fq := hid (Fq.out.below hb.out)
    replace Vq := hid (Vq.out.below hb.out)
    replace Gq := hid (Gq.out.below hb.out Gq.out.lt)
    replace Fs := hid (Fs.out.below hb.out)
    replace Vs := hid (Vs.out.below hb.out)
    replace Gs := hid (Gs.out.below hb.out Gs.out.lt)
    replace Ft := hid (Ft.out.below hb.out)
    replace Vt := hid (Vt.out.below hb.out)
    replace Gt := hid (Gt.out.below hb.out Gt.out.lt)
    have S_k2 := hid hb.out.size
    clear hb
    go_upto_region 13 with fail
    clear Fb
    clear Fd
    have CT := hid (same_yes (w := k2) Fp.out.lls2 Fq.out.lls2 (Nat.le_refl _) (Nat.le_refl _))
    go_wp2_with fail
    refine CT.out.mono ?_
    rintro e k3 ⟨rfl, hb⟩
    clear CT
    replace O9 := hid (O9.out.below (hb.out.mono (by have := SG.out; have := S3c.out; have := S03.out; have := hx9.out; have := S_ya.out; have := S_yb.out; have := S_yc.out; have := S_yd.out; have := S_yp.out; have := Up.out; have := S_zp.out; have := S_yq.out; have := Uq.out; have := S_zq.out; have := S_ys.out; have := Us.out; have := S_zs.out; have := S_yt.out; have := Ut.out; have := S_zt.out; have := S_k1.out; have := S_k2.out; omega)))
    replace M9 := hid (M9.out.below (hb.out.mono (by have := SG.out; have := S3c.out; have := S03.out; have := hx9.out; have := S_ya.out; have := S_yb.out; have := S_yc.out; have := S_yd.out; have := S_yp.out; have := Up.out; have := S_zp.out; have := S_yq.out; have := Uq.out; have := S_zq.out; have := S_ys.out; have := Us.out; have := S_zs.out; have := S_yt.out; have := Ut.out; have := S_zt.out; have := S_k1.out; have := S_k2.out; omega)))
    replace X9 := hid (X9.out.below hb.out X9.out.lt)
    replace N9 := hid (N9.out.below hb.out N9.out.lt)
    replace LG := hid (LG.out.below (hb.out.mono (by have := SG.out; have := S3c.out; have := S03.out; have := hx9.out; have := S_ya.out; have := S_yb.out; have := S_yc.out; have := S_yd.out; have := S_yp.out; have := Up.out; have := S_zp.out; have := S_yq.out; have := Uq.out; have := S_zq.out; have := S_ys.out; have := Us.out; have := S_zs.out; have := S_yt.out; have := Ut.out; have := S_zt.out; have := S_k1.out; have := S_k2.out; omega)))
    replace BW := hid (gbelow_on BW.out (Nat.le_refl _) hb.out)
    replace Fa := hid (Fa.out.below hb.out)
    replace Fc := hid (Fc.out.below hb.out)
    replace Fp := hid (Fp.out.below hb.out)
    replace Vp := hid (Vp.out.below hb.out)
    replace Gp := hid (Gp.out.below hb.out Gp.out.lt)
    replace Fq := hid (Fq.out.below hb.out)
    replace Vq := hid (Vq.out.below hb.out)
    replace Gq := hid (Gq.out.below hb.out Gq.out.lt)
    replace Fs := hid (Fs.out.below hb.out)
    replace Vs := hid (Vs.out.below hb.out)
    replace Gs := hid (Gs.out.below hb.out Gs.out.lt)
    replace Ft := hid (Ft.out.below hb.out)
    replace Vt := hid (Vt.out.below hb.out)
    replace Gt := hid (Gt.out.below hb.out Gt.out.lt)
    have S_k3 := hid hb.out.size
    clear hb
    have la := lbx_row Gp.out
    have lb := lbx_row Gq.out
    have CT := hid (one_yes (w := k3) Vp.out.lrd Vq.out.lrd (Nat.le_refl _) (Nat.le_refl _))
    go_wp2_with (first
      | (refine wp_lloadg (by rfl) (.tmp 20) (by with_reducible rfl) yp.heap.size 0 xp ip jp Dp (by rfl) la ?_)
      | (refine wp_lloadg (by rfl) (.tmp 23) (by with_reducible rfl) yq.heap.size 0 xq iq jq Dq (by rfl) lb ?_)
      | fail)
    refine CT.out.mono ?_
    rintro e k4 ⟨rfl, hb⟩
    clear CT
    replace O9 := hid (O9.out.below (hb.out.mono (by have := SG.out; have := S3c.out; have := S03.out; have := hx9.out; have := S_ya.out; have := S_yb.out; have := S_yc.out; have := S_yd.out; have := S_yp.out; have := Up.out; have := S_zp.out; have := S_yq.out; have := Uq.out; have := S_zq.out; have := S_ys.out; have := Us.out; have := S_zs.out; have := S_yt.out; have := Ut.out; have := S_zt.out; have := S_k1.out; have := S_k2.out; have := S_k3.out; omega)))
    replace M9 := hid (M9.out.below (hb.out.mono (by have := SG.out; have := S3c.out; have := S03.out; have := hx9.out; have := S_ya.out; have := S_yb.out; have := S_yc.out; have := S_yd.out; have := S_yp.out; have := Up.out; have := S_zp.out; have := S_yq.out; have := Uq.out; have := S_zq.out; have := S_ys.out; have := Us.out; have := S_zs.out; have := S_yt.out; have := Ut.out; have := S_zt.out; have := S_k1.out; have := S_k2.out; have := S_k3.out; omega)))
    replace X9 := hid (X9.out.below hb.out X9.out.lt)
    replace N9 := hid (N9.out.below hb.out N9.out.lt)
    replace LG := hid (LG.out.below (hb.out.mono (by have := SG.out; have := S3c.out; have := S03.out; have := hx9.out; have := S_ya.out; have := S_yb.out; have := S_yc.out; have := S_yd.out; have := S_yp.out; have := Up.out; have := S_zp.out; have := S_yq.out; have := Uq.out; have := S_zq.out; have := S_ys.out; have := Us.out; have := S_zs.out; have := S_yt.out; have := Ut.out; have := S_zt.out; have := S_k1.out; have := S_k2.out; have := S_k3.out; omega)))
    replace BW := hid (gbelow_on BW.out (Nat.le_refl _) hb.out)
    replace Fa := hid (Fa.out.below hb.out)
    replace Fc := hid (Fc.out.below hb.out)
    replace Fp := hid (Fp.out.below hb.out)
    replace Vp := hid (Vp.out.below hb.out)
    replace Gp := hid (Gp.out.below hb.out Gp.out.lt)
    replace Fq := hid (Fq.out.below hb.out)
    replace Vq := hid (Vq.out.below hb.out)
    replace Gq := hid (Gq.out.below hb.out Gq.out.lt)
    replace Fs := hid (Fs.out.below hb.out)
    replace Vs := hid (Vs.out.below hb.out)
    replace Gs := hid (Gs.out.below hb.out Gs.out.lt)
    replace Ft := hid (Ft.out.below hb.out)
    replace Vt := hid (Vt.out.below hb.out)
    replace Gt := hid (Gt.out.below hb.out Gt.out.lt)
    have S_k4 := hid hb.out.size
    clear hb
    clear la lb
    have CT := hid (same_yes (w := k4) Fs.out.lls2 Ft.out.lls2 (Nat.le_refl _) (Nat.le_refl _))
    go_wp2_with fail
    refine CT.out.mono ?_
    rintro e k5 ⟨rfl, hb⟩
    clear CT
    replace O9 := hid (O9.out.below (hb.out.mono (by have := SG.out; have := S3c.out; have := S03.out; have := hx9.out; have := S_ya.out; have := S_yb.out; have := S_yc.out; have := S_yd.out; have := S_yp.out; have := Up.out; have := S_zp.out; have := S_yq.out; have := Uq.out; have := S_zq.out; have := S_ys.out; have := Us.out; have := S_zs.out; have := S_yt.out; have := Ut.out; have := S_zt.out; have := S_k1.out; have := S_k2.out; have := S_k3.out; have := S_k4.out; omega)))
    replace M9 := hid (M9.out.below (hb.out.mono (by have := SG.out; have := S3c.out; have := S03.out; have := hx9.out; have := S_ya.out; have := S_yb.out; have := S_yc.out; have := S_yd.out; have := S_yp.out; have := Up.out; have := S_zp.out; have := S_yq.out; have := Uq.out; have := S_zq.out; have := S_ys.out; have := Us.out; have := S_zs.out; have := S_yt.out; have := Ut.out; have := S_zt.out; have := S_k1.out; have := S_k2.out; have := S_k3.out; have := S_k4.out; omega)))
    replace X9 := hid (X9.out.below hb.out X9.out.lt)
    replace N9 := hid (N9.out.below hb.out N9.out.lt)
    replace LG := hid (LG.out.below (hb.out.mono (by have := SG.out; have := S3c.out; have := S03.out; have := hx9.out; have := S_ya.out; have := S_yb.out; have := S_yc.out; have := S_yd.out; have := S_yp.out; have := Up.out; have := S_zp.out; have := S_yq.out; have := Uq.out; have := S_zq.out; have := S_ys.out; have := Us.out; have := S_zs.out; have := S_yt.out; have := Ut.out; have := S_zt.out; have := S_k1.out; have := S_k2.out; have := S_k3.out; have := S_k4.out; omega)))
    replace BW := hid (gbelow_on BW.out (Nat.le_refl _) hb.out)
    replace Fa := hid (Fa.out.below hb.out)
    replace Fc := hid (Fc.out.below hb.out)
    replace Fp := hid (Fp.out.below hb.out)
    replace Vp := hid (Vp.out.below hb.out)
    replace Gp := hid (Gp.out.below hb.out Gp.out.lt)
    replace Fq := hid (Fq.out.below hb.out)
    replace Vq := hid (Vq.out.below hb.out)
    replace Gq := hid (Gq.out.below hb.out Gq.out.lt)
    replace Fs := hid (Fs.out.below hb.out)
    replace Vs := hid (Vs.out.below hb.out)
    replace Gs := hid (Gs.out.below hb.out Gs.out.lt)
    replace Ft := hid (Ft.out.below hb.out)
    replace Vt := hid (Vt.out.below hb.out)
    replace Gt := hid (Gt.out.below hb.out Gt.out.lt)
    have S_k5 := hid hb.out.size
    clear hb
    have la := lbx_row Gs.out
    have lb := lbx_row Gt.out
    have CT := hid (one_yes (w := k5) Vs.out.lrd Vt.out.lrd (Nat.le_refl _) (Nat.le_refl _))
    go_wp2_with (first
      | (refine wp_lloadg (by rfl) (.tmp 26) (by with_reducible rfl) ys.heap.size 0 xs is js Ds (by rfl) la ?_)
      | (refine wp_lloadg (by rfl) (.tmp 29) (by with_reducible rfl) yt.heap.size 0 xt it jt Dt (by rfl) lb ?_)
      | fail)
    refine CT.out.mono ?_
    rintro e k6 ⟨rfl, hb⟩
    clear CT
    replace O9 := hid (O9.out.below (hb.out.mono (by have := SG.out; have := S3c.out; have := S03.out; have := hx9.out; have := S_ya.out; have := S_yb.out; have := S_yc.out; have := S_yd.out; have := S_yp.out; have := Up.out; have := S_zp.out; have := S_yq.out; have := Uq.out; have := S_zq.out; have := S_ys.out; have := Us.out; have := S_zs.out; have := S_yt.out; have := Ut.out; have := S_zt.out; have := S_k1.out; have := S_k2.out; have := S_k3.out; have := S_k4.out; have := S_k5.out; omega)))
    replace M9 := hid (M9.out.below (hb.out.mono (by have := SG.out; have := S3c.out; have := S03.out; have := hx9.out; have := S_ya.out; have := S_yb.out; have := S_yc.out; have := S_yd.out; have := S_yp.out; have := Up.out; have := S_zp.out; have := S_yq.out; have := Uq.out; have := S_zq.out; have := S_ys.out; have := Us.out; have := S_zs.out; have := S_yt.out; have := Ut.out; have := S_zt.out; have := S_k1.out; have := S_k2.out; have := S_k3.out; have := S_k4.out; have := S_k5.out; omega)))
    replace X9 := hid (X9.out.below hb.out X9.out.lt)
    replace N9 := hid (N9.out.below hb.out N9.out.lt)
    replace LG := hid (LG.out.below (hb.out.mono (by have := SG.out; have := S3c.out; have := S03.out; have := hx9.out; have := S_ya.out; have := S_yb.out; have := S_yc.out; have := S_yd.out; have := S_yp.out; have := Up.out; have := S_zp.out; have := S_yq.out; have := Uq.out; have := S_zq.out; have := S_ys.out; have := Us.out; have := S_zs.out; have := S_yt.out; have := Ut.out; have := S_zt.out; have := S_k1.out; have := S_k2.out; have := S_k3.out; have := S_k4.out; have := S_k5.out; omega)))
    replace BW := hid (gbelow_on BW.out (Nat.le_refl _) hb.out)
    replace Fa := hid (Fa.out.below hb.out)
    replace Fc := hid (Fc.out.below hb.out)
    replace Fp := hid (Fp.out.below hb.out)
    replace Vp := hid (Vp.out.below hb.out)
    replace Gp := hid (Gp.out.below hb.out Gp.out.lt)
    replace Fq := hid (Fq.out.below hb.out)
    replace Vq := hid (Vq.out.below hb.out)
    replace Gq := hid (Gq.out.below hb.out Gq.out.lt)
    replace Fs := hid (Fs.out.below hb.out)
    replace Vs := hid (Vs.out.below hb.out)
    replace Gs := hid (Gs.out.below hb.out Gs.out.lt)
    replace Ft := hid (Ft.out.below hb.out)
    replace Vt := hid (Vt.out.below hb.out)
    replace Gt := hid (Gt.out.below hb.out Gt.out.lt)
    have S_k6 := hid hb.out.size
    clear hb
    clear la lb
    have t := pcheck_any (w := k6) O9.out (by have := SG.out; have := S3c.out; have := S03.out; have := hx9.out; have := S_ya.out; have := S_yb.out; have := S_yc.out; have := S_yd.out; have := S_yp.out; have := Up.out; have := S_zp.out; have := S_yq.out; have := Uq.out; have := S_zq.out; have := S_ys.out; have := Us.out; have := S_zs.out; have := S_yt.out; have := Ut.out; have := S_zt.out; have := S_k1.out; have := S_k2.out; have := S_k3.out; have := S_k4.out; have := S_k5.out; have := S_k6.out; omega)
    rw [← Hqk.out] at t
    have CT := hid t
    clear t
    go_wp2_with fail
    refine CT.out.mono ?_
    rintro e k8 ⟨rfl, hb⟩
    clear CT
    replace O9 := hid (O9.out.below (hb.out.mono (by have := SG.out; have := S3c.out; have := S03.out; have := hx9.out; have := S_ya.out; have := S_yb.out; have := S_yc.out; have := S_yd.out; have := S_yp.out; have := Up.out; have := S_zp.out; have := S_yq.out; have := Uq.out; have := S_zq.out; have := S_ys.out; have := Us.out; have := S_zs.out; have := S_yt.out; have := Ut.out; have := S_zt.out; have := S_k1.out; have := S_k2.out; have := S_k3.out; have := S_k4.out; have := S_k5.out; have := S_k6.out; omega)))
    replace M9 := hid (M9.out.below (hb.out.mono (by have := SG.out; have := S3c.out; have := S03.out; have := hx9.out; have := S_ya.out; have := S_yb.out; have := S_yc.out; have := S_yd.out; have := S_yp.out; have := Up.out; have := S_zp.out; have := S_yq.out; have := Uq.out; have := S_zq.out; have := S_ys.out; have := Us.out; have := S_zs.out; have := S_yt.out; have := Ut.out; have := S_zt.out; have := S_k1.out; have := S_k2.out; have := S_k3.out; have := S_k4.out; have := S_k5.out; have := S_k6.out; omega)))
    replace X9 := hid (X9.out.below hb.out X9.out.lt)
    replace N9 := hid (N9.out.below hb.out N9.out.lt)
    replace LG := hid (LG.out.below (hb.out.mono (by have := SG.out; have := S3c.out; have := S03.out; have := hx9.out; have := S_ya.out; have := S_yb.out; have := S_yc.out; have := S_yd.out; have := S_yp.out; have := Up.out; have := S_zp.out; have := S_yq.out; have := Uq.out; have := S_zq.out; have := S_ys.out; have := Us.out; have := S_zs.out; have := S_yt.out; have := Ut.out; have := S_zt.out; have := S_k1.out; have := S_k2.out; have := S_k3.out; have := S_k4.out; have := S_k5.out; have := S_k6.out; omega)))
    replace BW := hid (gbelow_on BW.out (Nat.le_refl _) hb.out)
    replace Fa := hid (Fa.out.below hb.out)
    replace Fc := hid (Fc.out.below hb.out)
    replace Fp := hid (Fp.out.below hb.out)
    replace Vp := hid (Vp.out.below hb.out)
    replace Gp := hid (Gp.out.below hb.out Gp.out.lt)
    replace Fq := hid (Fq.out.below hb.out)
    replace Vq := hid (Vq.out.below hb.out)
    replace Gq := hid (Gq.out.below hb.out Gq.out.lt)
    replace Fs := hid (Fs.out.below hb.out)
    replace Vs := hid (Vs.out.below hb.out)
    replace Gs := hid (Gs.out.below hb.out Gs.out.lt)
    replace Ft := hid (Ft.out.below hb.out)
    replace Vt := hid (Vt.out.below hb.out)
    replace Gt := hid (Gt.out.below hb.out Gt.out.lt)
    have S_k8 := hid hb.out.size
    clear hb
    have t := rcheck2_any (w := k8) LG.out (by have := SG.out; have := S3c.out; have := S03.out; have := hx9.out; have := S_ya.out; have := S_yb.out; have := S_yc.out; have := S_yd.out; have := S_yp.out; have := Up.out; have := S_zp.out; have := S_yq.out; have := Uq.out; have := S_zq.out; have := S_ys.out; have := Us.out; have := S_zs.out; have := S_yt.out; have := Ut.out; have := S_zt.out; have := S_k1.out; have := S_k2.out; have := S_k3.out; have := S_k4.out; have := S_k5.out; have := S_k6.out; have := S_k8.out; omega)
    rw [← Hqk.out] at t
    have CT := hid t
    clear t
    go_wp2_with fail
    refine CT.out.mono ?_
    rintro e k9 ⟨rfl, hb⟩
    clear CT
    replace O9 := hid (O9.out.below (hb.out.mono (by have := SG.out; have := S3c.out; have := S03.out; have := hx9.out; have := S_ya.out; have := S_yb.out; have := S_yc.out; have := S_yd.out; have := S_yp.out; have := Up.out; have := S_zp.out; have := S_yq.out; have := Uq.out; have := S_zq.out; have := S_ys.out; have := Us.out; have := S_zs.out; have := S_yt.out; have := Ut.out; have := S_zt.out; have := S_k1.out; have := S_k2.out; have := S_k3.out; have := S_k4.out; have := S_k5.out; have := S_k6.out; have := S_k8.out; omega)))
    replace M9 := hid (M9.out.below (hb.out.mono (by have := SG.out; have := S3c.out; have := S03.out; have := hx9.out; have := S_ya.out; have := S_yb.out; have := S_yc.out; have := S_yd.out; have := S_yp.out; have := Up.out; have := S_zp.out; have := S_yq.out; have := Uq.out; have := S_zq.out; have := S_ys.out; have := Us.out; have := S_zs.out; have := S_yt.out; have := Ut.out; have := S_zt.out; have := S_k1.out; have := S_k2.out; have := S_k3.out; have := S_k4.out; have := S_k5.out; have := S_k6.out; have := S_k8.out; omega)))
    replace X9 := hid (X9.out.below hb.out X9.out.lt)
    replace N9 := hid (N9.out.below hb.out N9.out.lt)
    replace LG := hid (LG.out.below (hb.out.mono (by have := SG.out; have := S3c.out; have := S03.out; have := hx9.out; have := S_ya.out; have := S_yb.out; have := S_yc.out; have := S_yd.out; have := S_yp.out; have := Up.out; have := S_zp.out; have := S_yq.out; have := Uq.out; have := S_zq.out; have := S_ys.out; have := Us.out; have := S_zs.out; have := S_yt.out; have := Ut.out; have := S_zt.out; have := S_k1.out; have := S_k2.out; have := S_k3.out; have := S_k4.out; have := S_k5.out; have := S_k6.out; have := S_k8.out; omega)))
    replace BW := hid (gbelow_on BW.out (Nat.le_refl _) hb.out)
    replace Fa := hid (Fa.out.below hb.out)
    replace Fc := hid (Fc.out.below hb.out)
    replace Fp := hid (Fp.out.below hb.out)
    replace Vp := hid (Vp.out.below hb.out)
    replace Gp := hid (Gp.out.below hb.out Gp.out.lt)
    replace Fq := hid (Fq.out.below hb.out)
    replace Vq := hid (Vq.out.below hb.out)
    replace Gq := hid (Gq.out.below hb.out Gq.out.lt)
    replace Fs := hid (Fs.out.below hb.out)
    replace Vs := hid (Vs.out.below hb.out)
    replace Gs := hid (Gs.out.below hb.out Gs.out.lt)
    replace Ft := hid (Ft.out.below hb.out)
    replace Vt := hid (Vt.out.below hb.out)
    replace Gt := hid (Gt.out.below hb.out Gt.out.lt)
    have S_k9 := hid hb.out.size
    clear hb
    go_upto_region 14 with fail
    clear Fq
    clear Ft
    clear Vt
    clear Gt
    have CT := hid (spoil_lof (w := k9) Fa.out Ta.out)
    go_wp2_with fail
    refine CT.out.mono ?_
    rintro e k10 ⟨rfl, hk⟩
    clear CT Fa
    have KB := hid (hk.out.below (B := wc.heap.size) (fun q hq => by obtain ⟨h4, h5⟩ := hq; have := SG.out; have := S3c.out; have := S03.out; have := hx9.out; have := S_ya.out; have := S_yb.out; have := S_yc.out; have := S_yd.out; have := S_yp.out; have := Up.out; have := S_zp.out; have := S_yq.out; have := Uq.out; have := S_zq.out; have := S_ys.out; have := Us.out; have := S_zs.out; have := S_yt.out; have := Ut.out; have := S_zt.out; have := S_k1.out; have := S_k2.out; have := S_k3.out; have := S_k4.out; have := S_k5.out; have := S_k6.out; have := S_k8.out; have := S_k9.out; omega) (by have := SG.out; have := S3c.out; have := S03.out; have := hx9.out; have := S_ya.out; have := S_yb.out; have := S_yc.out; have := S_yd.out; have := S_yp.out; have := Up.out; have := S_zp.out; have := S_yq.out; have := Uq.out; have := S_zq.out; have := S_ys.out; have := Us.out; have := S_zs.out; have := S_yt.out; have := Ut.out; have := S_zt.out; have := S_k1.out; have := S_k2.out; have := S_k3.out; have := S_k4.out; have := S_k5.out; have := S_k6.out; have := S_k8.out; have := S_k9.out; omega))
    replace O9 := hid (O9.out.below (KB.out.mono (by have := SG.out; have := S3c.out; have := S03.out; have := hx9.out; have := S_ya.out; have := S_yb.out; have := S_yc.out; have := S_yd.out; have := S_yp.out; have := Up.out; have := S_zp.out; have := S_yq.out; have := Uq.out; have := S_zq.out; have := S_ys.out; have := Us.out; have := S_zs.out; have := S_yt.out; have := Ut.out; have := S_zt.out; have := S_k1.out; have := S_k2.out; have := S_k3.out; have := S_k4.out; have := S_k5.out; have := S_k6.out; have := S_k8.out; have := S_k9.out; omega)))
    replace M9 := hid (M9.out.below (KB.out.mono (by have := SG.out; have := S3c.out; have := S03.out; have := hx9.out; have := S_ya.out; have := S_yb.out; have := S_yc.out; have := S_yd.out; have := S_yp.out; have := Up.out; have := S_zp.out; have := S_yq.out; have := Uq.out; have := S_zq.out; have := S_ys.out; have := Us.out; have := S_zs.out; have := S_yt.out; have := Ut.out; have := S_zt.out; have := S_k1.out; have := S_k2.out; have := S_k3.out; have := S_k4.out; have := S_k5.out; have := S_k6.out; have := S_k8.out; have := S_k9.out; omega)))
    replace X9 := hid (X9.out.below KB.out (by have := SG.out; have := S3c.out; have := S03.out; have := hx9.out; have := S_ya.out; have := S_yb.out; have := S_yc.out; have := S_yd.out; have := S_yp.out; have := Up.out; have := S_zp.out; have := S_yq.out; have := Uq.out; have := S_zq.out; have := S_ys.out; have := Us.out; have := S_zs.out; have := S_yt.out; have := Ut.out; have := S_zt.out; have := S_k1.out; have := S_k2.out; have := S_k3.out; have := S_k4.out; have := S_k5.out; have := S_k6.out; have := S_k8.out; have := S_k9.out; omega))
    replace N9 := hid (N9.out.below KB.out (by have := SG.out; have := S3c.out; have := S03.out; have := hx9.out; have := S_ya.out; have := S_yb.out; have := S_yc.out; have := S_yd.out; have := S_yp.out; have := Up.out; have := S_zp.out; have := S_yq.out; have := Uq.out; have := S_zq.out; have := S_ys.out; have := Us.out; have := S_zs.out; have := S_yt.out; have := Ut.out; have := S_zt.out; have := S_k1.out; have := S_k2.out; have := S_k3.out; have := S_k4.out; have := S_k5.out; have := S_k6.out; have := S_k8.out; have := S_k9.out; omega))
    replace LG := hid (LG.out.below (KB.out.mono (by have := SG.out; have := S3c.out; have := S03.out; have := hx9.out; have := S_ya.out; have := S_yb.out; have := S_yc.out; have := S_yd.out; have := S_yp.out; have := Up.out; have := S_zp.out; have := S_yq.out; have := Uq.out; have := S_zq.out; have := S_ys.out; have := Us.out; have := S_zs.out; have := S_yt.out; have := Ut.out; have := S_zt.out; have := S_k1.out; have := S_k2.out; have := S_k3.out; have := S_k4.out; have := S_k5.out; have := S_k6.out; have := S_k8.out; have := S_k9.out; omega)))
    replace BW := hid (BW.out.trans (KB.out.mono (by have := SG.out; have := S3c.out; have := S03.out; have := hx9.out; have := S_ya.out; have := S_yb.out; have := S_yc.out; have := S_yd.out; have := S_yp.out; have := Up.out; have := S_zp.out; have := S_yq.out; have := Uq.out; have := S_zq.out; have := S_ys.out; have := Us.out; have := S_zs.out; have := S_yt.out; have := Ut.out; have := S_zt.out; have := S_k1.out; have := S_k2.out; have := S_k3.out; have := S_k4.out; have := S_k5.out; have := S_k6.out; have := S_k8.out; have := S_k9.out; omega)))
    replace Fc := hid (hk.out.lof Fc.out (fun q h1 h2 h3 => by obtain ⟨h4, h5⟩ := h3; have := SG.out; have := S3c.out; have := S03.out; have := hx9.out; have := S_ya.out; have := S_yb.out; have := S_yc.out; have := S_yd.out; have := S_yp.out; have := Up.out; have := S_zp.out; have := S_yq.out; have := Uq.out; have := S_zq.out; have := S_ys.out; have := Us.out; have := S_zs.out; have := S_yt.out; have := Ut.out; have := S_zt.out; have := S_k1.out; have := S_k2.out; have := S_k3.out; have := S_k4.out; have := S_k5.out; have := S_k6.out; have := S_k8.out; have := S_k9.out; omega))
    replace Fp := hid (hk.out.lof Fp.out (fun q h1 h2 h3 => by obtain ⟨h4, h5⟩ := h3; have := SG.out; have := S3c.out; have := S03.out; have := hx9.out; have := S_ya.out; have := S_yb.out; have := S_yc.out; have := S_yd.out; have := S_yp.out; have := Up.out; have := S_zp.out; have := S_yq.out; have := Uq.out; have := S_zq.out; have := S_ys.out; have := Us.out; have := S_zs.out; have := S_yt.out; have := Ut.out; have := S_zt.out; have := S_k1.out; have := S_k2.out; have := S_k3.out; have := S_k4.out; have := S_k5.out; have := S_k6.out; have := S_k8.out; have := S_k9.out; omega))
    replace Vp := hid (hk.out.low Vp.out (fun q h1 h2 h3 => by obtain ⟨h4, h5⟩ := h3; have := SG.out; have := S3c.out; have := S03.out; have := hx9.out; have := S_ya.out; have := S_yb.out; have := S_yc.out; have := S_yd.out; have := S_yp.out; have := Up.out; have := S_zp.out; have := S_yq.out; have := Uq.out; have := S_zq.out; have := S_ys.out; have := Us.out; have := S_zs.out; have := S_yt.out; have := Ut.out; have := S_zt.out; have := S_k1.out; have := S_k2.out; have := S_k3.out; have := S_k4.out; have := S_k5.out; have := S_k6.out; have := S_k8.out; have := S_k9.out; omega))
    replace Gp := hid (show Lbx k10 yp.heap.size xp ip jp Dp from (hk.out.block _ Gp.out.lt (fun h3 => by obtain ⟨h4, h5⟩ := h3; have := SG.out; have := S3c.out; have := S03.out; have := hx9.out; have := S_ya.out; have := S_yb.out; have := S_yc.out; have := S_yd.out; have := S_yp.out; have := Up.out; have := S_zp.out; have := S_yq.out; have := Uq.out; have := S_zq.out; have := S_ys.out; have := Us.out; have := S_zs.out; have := S_yt.out; have := Ut.out; have := S_zt.out; have := S_k1.out; have := S_k2.out; have := S_k3.out; have := S_k4.out; have := S_k5.out; have := S_k6.out; have := S_k8.out; have := S_k9.out; omega)).trans Gp.out)
    replace Vq := hid (hk.out.low Vq.out (fun q h1 h2 h3 => by obtain ⟨h4, h5⟩ := h3; have := SG.out; have := S3c.out; have := S03.out; have := hx9.out; have := S_ya.out; have := S_yb.out; have := S_yc.out; have := S_yd.out; have := S_yp.out; have := Up.out; have := S_zp.out; have := S_yq.out; have := Uq.out; have := S_zq.out; have := S_ys.out; have := Us.out; have := S_zs.out; have := S_yt.out; have := Ut.out; have := S_zt.out; have := S_k1.out; have := S_k2.out; have := S_k3.out; have := S_k4.out; have := S_k5.out; have := S_k6.out; have := S_k8.out; have := S_k9.out; omega))
    replace Gq := hid (show Lbx k10 yq.heap.size xq iq jq Dq from (hk.out.block _ Gq.out.lt (fun h3 => by obtain ⟨h4, h5⟩ := h3; have := SG.out; have := S3c.out; have := S03.out; have := hx9.out; have := S_ya.out; have := S_yb.out; have := S_yc.out; have := S_yd.out; have := S_yp.out; have := Up.out; have := S_zp.out; have := S_yq.out; have := Uq.out; have := S_zq.out; have := S_ys.out; have := Us.out; have := S_zs.out; have := S_yt.out; have := Ut.out; have := S_zt.out; have := S_k1.out; have := S_k2.out; have := S_k3.out; have := S_k4.out; have := S_k5.out; have := S_k6.out; have := S_k8.out; have := S_k9.out; omega)).trans Gq.out)
    replace Fs := hid (hk.out.lof Fs.out (fun q h1 h2 h3 => by obtain ⟨h4, h5⟩ := h3; have := SG.out; have := S3c.out; have := S03.out; have := hx9.out; have := S_ya.out; have := S_yb.out; have := S_yc.out; have := S_yd.out; have := S_yp.out; have := Up.out; have := S_zp.out; have := S_yq.out; have := Uq.out; have := S_zq.out; have := S_ys.out; have := Us.out; have := S_zs.out; have := S_yt.out; have := Ut.out; have := S_zt.out; have := S_k1.out; have := S_k2.out; have := S_k3.out; have := S_k4.out; have := S_k5.out; have := S_k6.out; have := S_k8.out; have := S_k9.out; omega))
    replace Vs := hid (hk.out.low Vs.out (fun q h1 h2 h3 => by obtain ⟨h4, h5⟩ := h3; have := SG.out; have := S3c.out; have := S03.out; have := hx9.out; have := S_ya.out; have := S_yb.out; have := S_yc.out; have := S_yd.out; have := S_yp.out; have := Up.out; have := S_zp.out; have := S_yq.out; have := Uq.out; have := S_zq.out; have := S_ys.out; have := Us.out; have := S_zs.out; have := S_yt.out; have := Ut.out; have := S_zt.out; have := S_k1.out; have := S_k2.out; have := S_k3.out; have := S_k4.out; have := S_k5.out; have := S_k6.out; have := S_k8.out; have := S_k9.out; omega))
    replace Gs := hid (show Lbx k10 ys.heap.size xs is js Ds from (hk.out.block _ Gs.out.lt (fun h3 => by obtain ⟨h4, h5⟩ := h3; have := SG.out; have := S3c.out; have := S03.out; have := hx9.out; have := S_ya.out; have := S_yb.out; have := S_yc.out; have := S_yd.out; have := S_yp.out; have := Up.out; have := S_zp.out; have := S_yq.out; have := Uq.out; have := S_zq.out; have := S_ys.out; have := Us.out; have := S_zs.out; have := S_yt.out; have := Ut.out; have := S_zt.out; have := S_k1.out; have := S_k2.out; have := S_k3.out; have := S_k4.out; have := S_k5.out; have := S_k6.out; have := S_k8.out; have := S_k9.out; omega)).trans Gs.out)
    have S_k10 := hid hk.out.size
    clear KB
    clear hk
    have CT := hid (spoil_lof (w := k10) Fc.out Tc.out)
    go_wp2_with fail
    refine CT.out.mono ?_
    rintro e k11 ⟨rfl, hk⟩
    clear CT Fc
    have KB := hid (hk.out.below (B := yb.heap.size) (fun q hq => by obtain ⟨h4, h5⟩ := hq; have := SG.out; have := S3c.out; have := S03.out; have := hx9.out; have := S_ya.out; have := S_yb.out; have := S_yc.out; have := S_yd.out; have := S_yp.out; have := Up.out; have := S_zp.out; have := S_yq.out; have := Uq.out; have := S_zq.out; have := S_ys.out; have := Us.out; have := S_zs.out; have := S_yt.out; have := Ut.out; have := S_zt.out; have := S_k1.out; have := S_k2.out; have := S_k3.out; have := S_k4.out; have := S_k5.out; have := S_k6.out; have := S_k8.out; have := S_k9.out; have := S_k10.out; omega) (by have := SG.out; have := S3c.out; have := S03.out; have := hx9.out; have := S_ya.out; have := S_yb.out; have := S_yc.out; have := S_yd.out; have := S_yp.out; have := Up.out; have := S_zp.out; have := S_yq.out; have := Uq.out; have := S_zq.out; have := S_ys.out; have := Us.out; have := S_zs.out; have := S_yt.out; have := Ut.out; have := S_zt.out; have := S_k1.out; have := S_k2.out; have := S_k3.out; have := S_k4.out; have := S_k5.out; have := S_k6.out; have := S_k8.out; have := S_k9.out; have := S_k10.out; omega))
    replace O9 := hid (O9.out.below (KB.out.mono (by have := SG.out; have := S3c.out; have := S03.out; have := hx9.out; have := S_ya.out; have := S_yb.out; have := S_yc.out; have := S_yd.out; have := S_yp.out; have := Up.out; have := S_zp.out; have := S_yq.out; have := Uq.out; have := S_zq.out; have := S_ys.out; have := Us.out; have := S_zs.out; have := S_yt.out; have := Ut.out; have := S_zt.out; have := S_k1.out; have := S_k2.out; have := S_k3.out; have := S_k4.out; have := S_k5.out; have := S_k6.out; have := S_k8.out; have := S_k9.out; have := S_k10.out; omega)))
    replace M9 := hid (M9.out.below (KB.out.mono (by have := SG.out; have := S3c.out; have := S03.out; have := hx9.out; have := S_ya.out; have := S_yb.out; have := S_yc.out; have := S_yd.out; have := S_yp.out; have := Up.out; have := S_zp.out; have := S_yq.out; have := Uq.out; have := S_zq.out; have := S_ys.out; have := Us.out; have := S_zs.out; have := S_yt.out; have := Ut.out; have := S_zt.out; have := S_k1.out; have := S_k2.out; have := S_k3.out; have := S_k4.out; have := S_k5.out; have := S_k6.out; have := S_k8.out; have := S_k9.out; have := S_k10.out; omega)))
    replace X9 := hid (X9.out.below KB.out (by have := SG.out; have := S3c.out; have := S03.out; have := hx9.out; have := S_ya.out; have := S_yb.out; have := S_yc.out; have := S_yd.out; have := S_yp.out; have := Up.out; have := S_zp.out; have := S_yq.out; have := Uq.out; have := S_zq.out; have := S_ys.out; have := Us.out; have := S_zs.out; have := S_yt.out; have := Ut.out; have := S_zt.out; have := S_k1.out; have := S_k2.out; have := S_k3.out; have := S_k4.out; have := S_k5.out; have := S_k6.out; have := S_k8.out; have := S_k9.out; have := S_k10.out; omega))
    replace N9 := hid (N9.out.below KB.out (by have := SG.out; have := S3c.out; have := S03.out; have := hx9.out; have := S_ya.out; have := S_yb.out; have := S_yc.out; have := S_yd.out; have := S_yp.out; have := Up.out; have := S_zp.out; have := S_yq.out; have := Uq.out; have := S_zq.out; have := S_ys.out; have := Us.out; have := S_zs.out; have := S_yt.out; have := Ut.out; have := S_zt.out; have := S_k1.out; have := S_k2.out; have := S_k3.out; have := S_k4.out; have := S_k5.out; have := S_k6.out; have := S_k8.out; have := S_k9.out; have := S_k10.out; omega))
    replace LG := hid (LG.out.below (KB.out.mono (by have := SG.out; have := S3c.out; have := S03.out; have := hx9.out; have := S_ya.out; have := S_yb.out; have := S_yc.out; have := S_yd.out; have := S_yp.out; have := Up.out; have := S_zp.out; have := S_yq.out; have := Uq.out; have := S_zq.out; have := S_ys.out; have := Us.out; have := S_zs.out; have := S_yt.out; have := Ut.out; have := S_zt.out; have := S_k1.out; have := S_k2.out; have := S_k3.out; have := S_k4.out; have := S_k5.out; have := S_k6.out; have := S_k8.out; have := S_k9.out; have := S_k10.out; omega)))
    replace BW := hid (BW.out.trans (KB.out.mono (by have := SG.out; have := S3c.out; have := S03.out; have := hx9.out; have := S_ya.out; have := S_yb.out; have := S_yc.out; have := S_yd.out; have := S_yp.out; have := Up.out; have := S_zp.out; have := S_yq.out; have := Uq.out; have := S_zq.out; have := S_ys.out; have := Us.out; have := S_zs.out; have := S_yt.out; have := Ut.out; have := S_zt.out; have := S_k1.out; have := S_k2.out; have := S_k3.out; have := S_k4.out; have := S_k5.out; have := S_k6.out; have := S_k8.out; have := S_k9.out; have := S_k10.out; omega)))
    replace Fp := hid (hk.out.lof Fp.out (fun q h1 h2 h3 => by obtain ⟨h4, h5⟩ := h3; have := SG.out; have := S3c.out; have := S03.out; have := hx9.out; have := S_ya.out; have := S_yb.out; have := S_yc.out; have := S_yd.out; have := S_yp.out; have := Up.out; have := S_zp.out; have := S_yq.out; have := Uq.out; have := S_zq.out; have := S_ys.out; have := Us.out; have := S_zs.out; have := S_yt.out; have := Ut.out; have := S_zt.out; have := S_k1.out; have := S_k2.out; have := S_k3.out; have := S_k4.out; have := S_k5.out; have := S_k6.out; have := S_k8.out; have := S_k9.out; have := S_k10.out; omega))
    replace Vp := hid (hk.out.low Vp.out (fun q h1 h2 h3 => by obtain ⟨h4, h5⟩ := h3; have := SG.out; have := S3c.out; have := S03.out; have := hx9.out; have := S_ya.out; have := S_yb.out; have := S_yc.out; have := S_yd.out; have := S_yp.out; have := Up.out; have := S_zp.out; have := S_yq.out; have := Uq.out; have := S_zq.out; have := S_ys.out; have := Us.out; have := S_zs.out; have := S_yt.out; have := Ut.out; have := S_zt.out; have := S_k1.out; have := S_k2.out; have := S_k3.out; have := S_k4.out; have := S_k5.out; have := S_k6.out; have := S_k8.out; have := S_k9.out; have := S_k10.out; omega))
    replace Gp := hid (show Lbx k11 yp.heap.size xp ip jp Dp from (hk.out.block _ Gp.out.lt (fun h3 => by obtain ⟨h4, h5⟩ := h3; have := SG.out; have := S3c.out; have := S03.out; have := hx9.out; have := S_ya.out; have := S_yb.out; have := S_yc.out; have := S_yd.out; have := S_yp.out; have := Up.out; have := S_zp.out; have := S_yq.out; have := Uq.out; have := S_zq.out; have := S_ys.out; have := Us.out; have := S_zs.out; have := S_yt.out; have := Ut.out; have := S_zt.out; have := S_k1.out; have := S_k2.out; have := S_k3.out; have := S_k4.out; have := S_k5.out; have := S_k6.out; have := S_k8.out; have := S_k9.out; have := S_k10.out; omega)).trans Gp.out)
    replace Vq := hid (hk.out.low Vq.out (fun q h1 h2 h3 => by obtain ⟨h4, h5⟩ := h3; have := SG.out; have := S3c.out; have := S03.out; have := hx9.out; have := S_ya.out; have := S_yb.out; have := S_yc.out; have := S_yd.out; have := S_yp.out; have := Up.out; have := S_zp.out; have := S_yq.out; have := Uq.out; have := S_zq.out; have := S_ys.out; have := Us.out; have := S_zs.out; have := S_yt.out; have := Ut.out; have := S_zt.out; have := S_k1.out; have := S_k2.out; have := S_k3.out; have := S_k4.out; have := S_k5.out; have := S_k6.out; have := S_k8.out; have := S_k9.out; have := S_k10.out; omega))
    replace Gq := hid (show Lbx k11 yq.heap.size xq iq jq Dq from (hk.out.block _ Gq.out.lt (fun h3 => by obtain ⟨h4, h5⟩ := h3; have := SG.out; have := S3c.out; have := S03.out; have := hx9.out; have := S_ya.out; have := S_yb.out; have := S_yc.out; have := S_yd.out; have := S_yp.out; have := Up.out; have := S_zp.out; have := S_yq.out; have := Uq.out; have := S_zq.out; have := S_ys.out; have := Us.out; have := S_zs.out; have := S_yt.out; have := Ut.out; have := S_zt.out; have := S_k1.out; have := S_k2.out; have := S_k3.out; have := S_k4.out; have := S_k5.out; have := S_k6.out; have := S_k8.out; have := S_k9.out; have := S_k10.out; omega)).trans Gq.out)
    replace Fs := hid (hk.out.lof Fs.out (fun q h1 h2 h3 => by obtain ⟨h4, h5⟩ := h3; have := SG.out; have := S3c.out; have := S03.out; have := hx9.out; have := S_ya.out; have := S_yb.out; have := S_yc.out; have := S_yd.out; have := S_yp.out; have := Up.out; have := S_zp.out; have := S_yq.out; have := Uq.out; have := S_zq.out; have := S_ys.out; have := Us.out; have := S_zs.out; have := S_yt.out; have := Ut.out; have := S_zt.out; have := S_k1.out; have := S_k2.out; have := S_k3.out; have := S_k4.out; have := S_k5.out; have := S_k6.out; have := S_k8.out; have := S_k9.out; have := S_k10.out; omega))
    replace Vs := hid (hk.out.low Vs.out (fun q h1 h2 h3 => by obtain ⟨h4, h5⟩ := h3; have := SG.out; have := S3c.out; have := S03.out; have := hx9.out; have := S_ya.out; have := S_yb.out; have := S_yc.out; have := S_yd.out; have := S_yp.out; have := Up.out; have := S_zp.out; have := S_yq.out; have := Uq.out; have := S_zq.out; have := S_ys.out; have := Us.out; have := S_zs.out; have := S_yt.out; have := Ut.out; have := S_zt.out; have := S_k1.out; have := S_k2.out; have := S_k3.out; have := S_k4.out; have := S_k5.out; have := S_k6.out; have := S_k8.out; have := S_k9.out; have := S_k10.out; omega))
    replace Gs := hid (show Lbx k11 ys.heap.size xs is js Ds from (hk.out.block _ Gs.out.lt (fun h3 => by obtain ⟨h4, h5⟩ := h3; have := SG.out; have := S3c.out; have := S03.out; have := hx9.out; have := S_ya.out; have := S_yb.out; have := S_yc.out; have := S_yd.out; have := S_yp.out; have := Up.out; have := S_zp.out; have := S_yq.out; have := Uq.out; have := S_zq.out; have := S_ys.out; have := Us.out; have := S_zs.out; have := S_yt.out; have := Ut.out; have := S_zt.out; have := S_k1.out; have := S_k2.out; have := S_k3.out; have := S_k4.out; have := S_k5.out; have := S_k6.out; have := S_k8.out; have := S_k9.out; have := S_k10.out; omega)).trans Gs.out)
    have S_k11 := hid hk.out.size
    clear KB
    clear hk
    have CT := hid (spoil_lof (w := k11) Fp.out Tp.out)
    go_wp2_with fail
    refine CT.out.mono ?_
    rintro e k12 ⟨rfl, hk⟩
    clear CT Fp
    have KB := hid (hk.out.below (B := yd.heap.size) (fun q hq => by obtain ⟨h4, h5⟩ := hq; have := SG.out; have := S3c.out; have := S03.out; have := hx9.out; have := S_ya.out; have := S_yb.out; have := S_yc.out; have := S_yd.out; have := S_yp.out; have := Up.out; have := S_zp.out; have := S_yq.out; have := Uq.out; have := S_zq.out; have := S_ys.out; have := Us.out; have := S_zs.out; have := S_yt.out; have := Ut.out; have := S_zt.out; have := S_k1.out; have := S_k2.out; have := S_k3.out; have := S_k4.out; have := S_k5.out; have := S_k6.out; have := S_k8.out; have := S_k9.out; have := S_k10.out; have := S_k11.out; omega) (by have := SG.out; have := S3c.out; have := S03.out; have := hx9.out; have := S_ya.out; have := S_yb.out; have := S_yc.out; have := S_yd.out; have := S_yp.out; have := Up.out; have := S_zp.out; have := S_yq.out; have := Uq.out; have := S_zq.out; have := S_ys.out; have := Us.out; have := S_zs.out; have := S_yt.out; have := Ut.out; have := S_zt.out; have := S_k1.out; have := S_k2.out; have := S_k3.out; have := S_k4.out; have := S_k5.out; have := S_k6.out; have := S_k8.out; have := S_k9.out; have := S_k10.out; have := S_k11.out; omega))
    replace O9 := hid (O9.out.below (KB.out.mono (by have := SG.out; have := S3c.out; have := S03.out; have := hx9.out; have := S_ya.out; have := S_yb.out; have := S_yc.out; have := S_yd.out; have := S_yp.out; have := Up.out; have := S_zp.out; have := S_yq.out; have := Uq.out; have := S_zq.out; have := S_ys.out; have := Us.out; have := S_zs.out; have := S_yt.out; have := Ut.out; have := S_zt.out; have := S_k1.out; have := S_k2.out; have := S_k3.out; have := S_k4.out; have := S_k5.out; have := S_k6.out; have := S_k8.out; have := S_k9.out; have := S_k10.out; have := S_k11.out; omega)))
    replace M9 := hid (M9.out.below (KB.out.mono (by have := SG.out; have := S3c.out; have := S03.out; have := hx9.out; have := S_ya.out; have := S_yb.out; have := S_yc.out; have := S_yd.out; have := S_yp.out; have := Up.out; have := S_zp.out; have := S_yq.out; have := Uq.out; have := S_zq.out; have := S_ys.out; have := Us.out; have := S_zs.out; have := S_yt.out; have := Ut.out; have := S_zt.out; have := S_k1.out; have := S_k2.out; have := S_k3.out; have := S_k4.out; have := S_k5.out; have := S_k6.out; have := S_k8.out; have := S_k9.out; have := S_k10.out; have := S_k11.out; omega)))
    replace X9 := hid (X9.out.below KB.out (by have := SG.out; have := S3c.out; have := S03.out; have := hx9.out; have := S_ya.out; have := S_yb.out; have := S_yc.out; have := S_yd.out; have := S_yp.out; have := Up.out; have := S_zp.out; have := S_yq.out; have := Uq.out; have := S_zq.out; have := S_ys.out; have := Us.out; have := S_zs.out; have := S_yt.out; have := Ut.out; have := S_zt.out; have := S_k1.out; have := S_k2.out; have := S_k3.out; have := S_k4.out; have := S_k5.out; have := S_k6.out; have := S_k8.out; have := S_k9.out; have := S_k10.out; have := S_k11.out; omega))
    replace N9 := hid (N9.out.below KB.out (by have := SG.out; have := S3c.out; have := S03.out; have := hx9.out; have := S_ya.out; have := S_yb.out; have := S_yc.out; have := S_yd.out; have := S_yp.out; have := Up.out; have := S_zp.out; have := S_yq.out; have := Uq.out; have := S_zq.out; have := S_ys.out; have := Us.out; have := S_zs.out; have := S_yt.out; have := Ut.out; have := S_zt.out; have := S_k1.out; have := S_k2.out; have := S_k3.out; have := S_k4.out; have := S_k5.out; have := S_k6.out; have := S_k8.out; have := S_k9.out; have := S_k10.out; have := S_k11.out; omega))
    replace LG := hid (LG.out.below (KB.out.mono (by have := SG.out; have := S3c.out; have := S03.out; have := hx9.out; have := S_ya.out; have := S_yb.out; have := S_yc.out; have := S_yd.out; have := S_yp.out; have := Up.out; have := S_zp.out; have := S_yq.out; have := Uq.out; have := S_zq.out; have := S_ys.out; have := Us.out; have := S_zs.out; have := S_yt.out; have := Ut.out; have := S_zt.out; have := S_k1.out; have := S_k2.out; have := S_k3.out; have := S_k4.out; have := S_k5.out; have := S_k6.out; have := S_k8.out; have := S_k9.out; have := S_k10.out; have := S_k11.out; omega)))
    replace BW := hid (BW.out.trans (KB.out.mono (by have := SG.out; have := S3c.out; have := S03.out; have := hx9.out; have := S_ya.out; have := S_yb.out; have := S_yc.out; have := S_yd.out; have := S_yp.out; have := Up.out; have := S_zp.out; have := S_yq.out; have := Uq.out; have := S_zq.out; have := S_ys.out; have := Us.out; have := S_zs.out; have := S_yt.out; have := Ut.out; have := S_zt.out; have := S_k1.out; have := S_k2.out; have := S_k3.out; have := S_k4.out; have := S_k5.out; have := S_k6.out; have := S_k8.out; have := S_k9.out; have := S_k10.out; have := S_k11.out; omega)))
    replace Vp := hid (hk.out.low Vp.out (fun q h1 h2 h3 => by obtain ⟨h4, h5⟩ := h3; have := SG.out; have := S3c.out; have := S03.out; have := hx9.out; have := S_ya.out; have := S_yb.out; have := S_yc.out; have := S_yd.out; have := S_yp.out; have := Up.out; have := S_zp.out; have := S_yq.out; have := Uq.out; have := S_zq.out; have := S_ys.out; have := Us.out; have := S_zs.out; have := S_yt.out; have := Ut.out; have := S_zt.out; have := S_k1.out; have := S_k2.out; have := S_k3.out; have := S_k4.out; have := S_k5.out; have := S_k6.out; have := S_k8.out; have := S_k9.out; have := S_k10.out; have := S_k11.out; omega))
    replace Gp := hid (show Lbx k12 yp.heap.size xp ip jp Dp from (hk.out.block _ Gp.out.lt (fun h3 => by obtain ⟨h4, h5⟩ := h3; have := SG.out; have := S3c.out; have := S03.out; have := hx9.out; have := S_ya.out; have := S_yb.out; have := S_yc.out; have := S_yd.out; have := S_yp.out; have := Up.out; have := S_zp.out; have := S_yq.out; have := Uq.out; have := S_zq.out; have := S_ys.out; have := Us.out; have := S_zs.out; have := S_yt.out; have := Ut.out; have := S_zt.out; have := S_k1.out; have := S_k2.out; have := S_k3.out; have := S_k4.out; have := S_k5.out; have := S_k6.out; have := S_k8.out; have := S_k9.out; have := S_k10.out; have := S_k11.out; omega)).trans Gp.out)
    replace Vq := hid (hk.out.low Vq.out (fun q h1 h2 h3 => by obtain ⟨h4, h5⟩ := h3; have := SG.out; have := S3c.out; have := S03.out; have := hx9.out; have := S_ya.out; have := S_yb.out; have := S_yc.out; have := S_yd.out; have := S_yp.out; have := Up.out; have := S_zp.out; have := S_yq.out; have := Uq.out; have := S_zq.out; have := S_ys.out; have := Us.out; have := S_zs.out; have := S_yt.out; have := Ut.out; have := S_zt.out; have := S_k1.out; have := S_k2.out; have := S_k3.out; have := S_k4.out; have := S_k5.out; have := S_k6.out; have := S_k8.out; have := S_k9.out; have := S_k10.out; have := S_k11.out; omega))
    replace Gq := hid (show Lbx k12 yq.heap.size xq iq jq Dq from (hk.out.block _ Gq.out.lt (fun h3 => by obtain ⟨h4, h5⟩ := h3; have := SG.out; have := S3c.out; have := S03.out; have := hx9.out; have := S_ya.out; have := S_yb.out; have := S_yc.out; have := S_yd.out; have := S_yp.out; have := Up.out; have := S_zp.out; have := S_yq.out; have := Uq.out; have := S_zq.out; have := S_ys.out; have := Us.out; have := S_zs.out; have := S_yt.out; have := Ut.out; have := S_zt.out; have := S_k1.out; have := S_k2.out; have := S_k3.out; have := S_k4.out; have := S_k5.out; have := S_k6.out; have := S_k8.out; have := S_k9.out; have := S_k10.out; have := S_k11.out; omega)).trans Gq.out)
    replace Fs := hid (hk.out.lof Fs.out (fun q h1 h2 h3 => by obtain ⟨h4, h5⟩ := h3; have := SG.out; have := S3c.out; have := S03.out; have := hx9.out; have := S_ya.out; have := S_yb.out; have := S_yc.out; have := S_yd.out; have := S_yp.out; have := Up.out; have := S_zp.out; have := S_yq.out; have := Uq.out; have := S_zq.out; have := S_ys.out; have := Us.out; have := S_zs.out; have := S_yt.out; have := Ut.out; have := S_zt.out; have := S_k1.out; have := S_k2.out; have := S_k3.out; have := S_k4.out; have := S_k5.out; have := S_k6.out; have := S_k8.out; have := S_k9.out; have := S_k10.out; have := S_k11.out; omega))
    replace Vs := hid (hk.out.low Vs.out (fun q h1 h2 h3 => by obtain ⟨h4, h5⟩ := h3; have := SG.out; have := S3c.out; have := S03.out; have := hx9.out; have := S_ya.out; have := S_yb.out; have := S_yc.out; have := S_yd.out; have := S_yp.out; have := Up.out; have := S_zp.out; have := S_yq.out; have := Uq.out; have := S_zq.out; have := S_ys.out; have := Us.out; have := S_zs.out; have := S_yt.out; have := Ut.out; have := S_zt.out; have := S_k1.out; have := S_k2.out; have := S_k3.out; have := S_k4.out; have := S_k5.out; have := S_k6.out; have := S_k8.out; have := S_k9.out; have := S_k10.out; have := S_k11.out; omega))
    replace Gs := hid (show Lbx k12 ys.heap.size xs is js Ds from (hk.out.block _ Gs.out.lt (fun h3 => by obtain ⟨h4, h5⟩ := h3; have := SG.out; have := S3c.out; have := S03.out; have := hx9.out; have := S_ya.out; have := S_yb.out; have := S_yc.out; have := S_yd.out; have := S_yp.out; have := Up.out; have := S_zp.out; have := S_yq.out; have := Uq.out; have := S_zq.out; have := S_ys.out; have := Us.out; have := S_zs.out; have := S_yt.out; have := Ut.out; have := S_zt.out; have := S_k1.out; have := S_k2.out; have := S_k3.out; have := S_k4.out; have := S_k5.out; have := S_k6.out; have := S_k8.out; have := S_k9.out; have := S_k10.out; have := S_k11.out; omega)).trans Gs.out)
    have S_k12 := hid hk.out.size
    clear KB
    clear hk
    have la := lbx_row Gp.out
    have lb := lbx_row Gq.out
    have CT := hid (one_yes (w := k12) Vp.out.lrd Vq.out.lrd (Nat.le_refl _) (Nat.le_refl _))
    go_wp2_with (first
      | (refine wp_lloadg (by rfl) (.tmp 20) (by with_reducible rfl) yp.heap.size 0 xp ip jp Dp (by rfl) la ?_)
      | (refine wp_lloadg (by rfl) (.tmp 23) (by with_reducible rfl) yq.heap.size 0 xq iq jq Dq (by rfl) lb ?_)
      | fail)
    refine CT.out.mono ?_
    rintro e k13 ⟨rfl, hb⟩
    clear CT
    replace O9 := hid (O9.out.below (hb.out.mono (by have := SG.out; have := S3c.out; have := S03.out; have := hx9.out; have := S_ya.out; have := S_yb.out; have := S_yc.out; have := S_yd.out; have := S_yp.out; have := Up.out; have := S_zp.out; have := S_yq.out; have := Uq.out; have := S_zq.out; have := S_ys.out; have := Us.out; have := S_zs.out; have := S_yt.out; have := Ut.out; have := S_zt.out; have := S_k1.out; have := S_k2.out; have := S_k3.out; have := S_k4.out; have := S_k5.out; have := S_k6.out; have := S_k8.out; have := S_k9.out; have := S_k10.out; have := S_k11.out; have := S_k12.out; omega)))
    replace M9 := hid (M9.out.below (hb.out.mono (by have := SG.out; have := S3c.out; have := S03.out; have := hx9.out; have := S_ya.out; have := S_yb.out; have := S_yc.out; have := S_yd.out; have := S_yp.out; have := Up.out; have := S_zp.out; have := S_yq.out; have := Uq.out; have := S_zq.out; have := S_ys.out; have := Us.out; have := S_zs.out; have := S_yt.out; have := Ut.out; have := S_zt.out; have := S_k1.out; have := S_k2.out; have := S_k3.out; have := S_k4.out; have := S_k5.out; have := S_k6.out; have := S_k8.out; have := S_k9.out; have := S_k10.out; have := S_k11.out; have := S_k12.out; omega)))
    replace X9 := hid (X9.out.below hb.out X9.out.lt)
    replace N9 := hid (N9.out.below hb.out N9.out.lt)
    replace LG := hid (LG.out.below (hb.out.mono (by have := SG.out; have := S3c.out; have := S03.out; have := hx9.out; have := S_ya.out; have := S_yb.out; have := S_yc.out; have := S_yd.out; have := S_yp.out; have := Up.out; have := S_zp.out; have := S_yq.out; have := Uq.out; have := S_zq.out; have := S_ys.out; have := Us.out; have := S_zs.out; have := S_yt.out; have := Ut.out; have := S_zt.out; have := S_k1.out; have := S_k2.out; have := S_k3.out; have := S_k4.out; have := S_k5.out; have := S_k6.out; have := S_k8.out; have := S_k9.out; have := S_k10.out; have := S_k11.out; have := S_k12.out; omega)))
    replace BW := hid (gbelow_on BW.out (Nat.le_refl _) hb.out)
    replace Vp := hid (Vp.out.below hb.out)
    replace Gp := hid (Gp.out.below hb.out Gp.out.lt)
    replace Vq := hid (Vq.out.below hb.out)
    replace Gq := hid (Gq.out.below hb.out Gq.out.lt)
    replace Fs := hid (Fs.out.below hb.out)
    replace Vs := hid (Vs.out.below hb.out)
    replace Gs := hid (Gs.out.below hb.out Gs.out.lt)
    have S_k13 := hid hb.out.size
    clear hb
    clear la lb
    go_upto_region 18 with fail
    clear Vq
    clear Gq
    have CT := hid (spoil_row (w := k13) Vp.out Wp.out)
    have la := lbx_row Gp.out
    go_wp2_with (first
      | (refine wp_lload (by rfl) (.tmp 20) (by with_reducible rfl) yp.heap.size 0 xp ip jp Dp (by rfl) la ?_)
      | fail)
    refine CT.out.mono ?_
    rintro e k14 ⟨rfl, hk⟩
    clear CT la Vp Gp
    have KB := hid (hk.out.below (B := yd.heap.size) (fun q hq => by obtain ⟨h4, h5⟩ := hq; have := SG.out; have := S3c.out; have := S03.out; have := hx9.out; have := S_ya.out; have := S_yb.out; have := S_yc.out; have := S_yd.out; have := S_yp.out; have := Up.out; have := S_zp.out; have := S_yq.out; have := Uq.out; have := S_zq.out; have := S_ys.out; have := Us.out; have := S_zs.out; have := S_yt.out; have := Ut.out; have := S_zt.out; have := S_k1.out; have := S_k2.out; have := S_k3.out; have := S_k4.out; have := S_k5.out; have := S_k6.out; have := S_k8.out; have := S_k9.out; have := S_k10.out; have := S_k11.out; have := S_k12.out; have := S_k13.out; omega) (by have := SG.out; have := S3c.out; have := S03.out; have := hx9.out; have := S_ya.out; have := S_yb.out; have := S_yc.out; have := S_yd.out; have := S_yp.out; have := Up.out; have := S_zp.out; have := S_yq.out; have := Uq.out; have := S_zq.out; have := S_ys.out; have := Us.out; have := S_zs.out; have := S_yt.out; have := Ut.out; have := S_zt.out; have := S_k1.out; have := S_k2.out; have := S_k3.out; have := S_k4.out; have := S_k5.out; have := S_k6.out; have := S_k8.out; have := S_k9.out; have := S_k10.out; have := S_k11.out; have := S_k12.out; have := S_k13.out; omega))
    replace O9 := hid (O9.out.below (KB.out.mono (by have := SG.out; have := S3c.out; have := S03.out; have := hx9.out; have := S_ya.out; have := S_yb.out; have := S_yc.out; have := S_yd.out; have := S_yp.out; have := Up.out; have := S_zp.out; have := S_yq.out; have := Uq.out; have := S_zq.out; have := S_ys.out; have := Us.out; have := S_zs.out; have := S_yt.out; have := Ut.out; have := S_zt.out; have := S_k1.out; have := S_k2.out; have := S_k3.out; have := S_k4.out; have := S_k5.out; have := S_k6.out; have := S_k8.out; have := S_k9.out; have := S_k10.out; have := S_k11.out; have := S_k12.out; have := S_k13.out; omega)))
    replace M9 := hid (M9.out.below (KB.out.mono (by have := SG.out; have := S3c.out; have := S03.out; have := hx9.out; have := S_ya.out; have := S_yb.out; have := S_yc.out; have := S_yd.out; have := S_yp.out; have := Up.out; have := S_zp.out; have := S_yq.out; have := Uq.out; have := S_zq.out; have := S_ys.out; have := Us.out; have := S_zs.out; have := S_yt.out; have := Ut.out; have := S_zt.out; have := S_k1.out; have := S_k2.out; have := S_k3.out; have := S_k4.out; have := S_k5.out; have := S_k6.out; have := S_k8.out; have := S_k9.out; have := S_k10.out; have := S_k11.out; have := S_k12.out; have := S_k13.out; omega)))
    replace X9 := hid (X9.out.below KB.out (by have := SG.out; have := S3c.out; have := S03.out; have := hx9.out; have := S_ya.out; have := S_yb.out; have := S_yc.out; have := S_yd.out; have := S_yp.out; have := Up.out; have := S_zp.out; have := S_yq.out; have := Uq.out; have := S_zq.out; have := S_ys.out; have := Us.out; have := S_zs.out; have := S_yt.out; have := Ut.out; have := S_zt.out; have := S_k1.out; have := S_k2.out; have := S_k3.out; have := S_k4.out; have := S_k5.out; have := S_k6.out; have := S_k8.out; have := S_k9.out; have := S_k10.out; have := S_k11.out; have := S_k12.out; have := S_k13.out; omega))
    replace N9 := hid (N9.out.below KB.out (by have := SG.out; have := S3c.out; have := S03.out; have := hx9.out; have := S_ya.out; have := S_yb.out; have := S_yc.out; have := S_yd.out; have := S_yp.out; have := Up.out; have := S_zp.out; have := S_yq.out; have := Uq.out; have := S_zq.out; have := S_ys.out; have := Us.out; have := S_zs.out; have := S_yt.out; have := Ut.out; have := S_zt.out; have := S_k1.out; have := S_k2.out; have := S_k3.out; have := S_k4.out; have := S_k5.out; have := S_k6.out; have := S_k8.out; have := S_k9.out; have := S_k10.out; have := S_k11.out; have := S_k12.out; have := S_k13.out; omega))
    replace LG := hid (LG.out.below (KB.out.mono (by have := SG.out; have := S3c.out; have := S03.out; have := hx9.out; have := S_ya.out; have := S_yb.out; have := S_yc.out; have := S_yd.out; have := S_yp.out; have := Up.out; have := S_zp.out; have := S_yq.out; have := Uq.out; have := S_zq.out; have := S_ys.out; have := Us.out; have := S_zs.out; have := S_yt.out; have := Ut.out; have := S_zt.out; have := S_k1.out; have := S_k2.out; have := S_k3.out; have := S_k4.out; have := S_k5.out; have := S_k6.out; have := S_k8.out; have := S_k9.out; have := S_k10.out; have := S_k11.out; have := S_k12.out; have := S_k13.out; omega)))
    replace BW := hid (BW.out.trans (KB.out.mono (by have := SG.out; have := S3c.out; have := S03.out; have := hx9.out; have := S_ya.out; have := S_yb.out; have := S_yc.out; have := S_yd.out; have := S_yp.out; have := Up.out; have := S_zp.out; have := S_yq.out; have := Uq.out; have := S_zq.out; have := S_ys.out; have := Us.out; have := S_zs.out; have := S_yt.out; have := Ut.out; have := S_zt.out; have := S_k1.out; have := S_k2.out; have := S_k3.out; have := S_k4.out; have := S_k5.out; have := S_k6.out; have := S_k8.out; have := S_k9.out; have := S_k10.out; have := S_k11.out; have := S_k12.out; have := S_k13.out; omega)))
    replace Fs := hid (hk.out.lof Fs.out (fun q h1 h2 h3 => by obtain ⟨h4, h5⟩ := h3; have := SG.out; have := S3c.out; have := S03.out; have := hx9.out; have := S_ya.out; have := S_yb.out; have := S_yc.out; have := S_yd.out; have := S_yp.out; have := Up.out; have := S_zp.out; have := S_yq.out; have := Uq.out; have := S_zq.out; have := S_ys.out; have := Us.out; have := S_zs.out; have := S_yt.out; have := Ut.out; have := S_zt.out; have := S_k1.out; have := S_k2.out; have := S_k3.out; have := S_k4.out; have := S_k5.out; have := S_k6.out; have := S_k8.out; have := S_k9.out; have := S_k10.out; have := S_k11.out; have := S_k12.out; have := S_k13.out; omega))
    replace Vs := hid (hk.out.low Vs.out (fun q h1 h2 h3 => by obtain ⟨h4, h5⟩ := h3; have := SG.out; have := S3c.out; have := S03.out; have := hx9.out; have := S_ya.out; have := S_yb.out; have := S_yc.out; have := S_yd.out; have := S_yp.out; have := Up.out; have := S_zp.out; have := S_yq.out; have := Uq.out; have := S_zq.out; have := S_ys.out; have := Us.out; have := S_zs.out; have := S_yt.out; have := Ut.out; have := S_zt.out; have := S_k1.out; have := S_k2.out; have := S_k3.out; have := S_k4.out; have := S_k5.out; have := S_k6.out; have := S_k8.out; have := S_k9.out; have := S_k10.out; have := S_k11.out; have := S_k12.out; have := S_k13.out; omega))
    replace Gs := hid (show Lbx k14 ys.heap.size xs is js Ds from (hk.out.block _ Gs.out.lt (fun h3 => by obtain ⟨h4, h5⟩ := h3; have := SG.out; have := S3c.out; have := S03.out; have := hx9.out; have := S_ya.out; have := S_yb.out; have := S_yc.out; have := S_yd.out; have := S_yp.out; have := Up.out; have := S_zp.out; have := S_yq.out; have := Uq.out; have := S_zq.out; have := S_ys.out; have := Us.out; have := S_zs.out; have := S_yt.out; have := Ut.out; have := S_zt.out; have := S_k1.out; have := S_k2.out; have := S_k3.out; have := S_k4.out; have := S_k5.out; have := S_k6.out; have := S_k8.out; have := S_k9.out; have := S_k10.out; have := S_k11.out; have := S_k12.out; have := S_k13.out; omega)).trans Gs.out)
    have S_k14 := hid hk.out.size
    clear KB
    clear hk
    have CT := hid (spoil_lof (w := k14) Fs.out Ts.out)
    go_wp2_with fail
    refine CT.out.mono ?_
    rintro e k15 ⟨rfl, hk⟩
    clear CT Fs
    have KB := hid (hk.out.below (B := zq.heap.size) (fun q hq => by obtain ⟨h4, h5⟩ := hq; have := SG.out; have := S3c.out; have := S03.out; have := hx9.out; have := S_ya.out; have := S_yb.out; have := S_yc.out; have := S_yd.out; have := S_yp.out; have := Up.out; have := S_zp.out; have := S_yq.out; have := Uq.out; have := S_zq.out; have := S_ys.out; have := Us.out; have := S_zs.out; have := S_yt.out; have := Ut.out; have := S_zt.out; have := S_k1.out; have := S_k2.out; have := S_k3.out; have := S_k4.out; have := S_k5.out; have := S_k6.out; have := S_k8.out; have := S_k9.out; have := S_k10.out; have := S_k11.out; have := S_k12.out; have := S_k13.out; have := S_k14.out; omega) (by have := SG.out; have := S3c.out; have := S03.out; have := hx9.out; have := S_ya.out; have := S_yb.out; have := S_yc.out; have := S_yd.out; have := S_yp.out; have := Up.out; have := S_zp.out; have := S_yq.out; have := Uq.out; have := S_zq.out; have := S_ys.out; have := Us.out; have := S_zs.out; have := S_yt.out; have := Ut.out; have := S_zt.out; have := S_k1.out; have := S_k2.out; have := S_k3.out; have := S_k4.out; have := S_k5.out; have := S_k6.out; have := S_k8.out; have := S_k9.out; have := S_k10.out; have := S_k11.out; have := S_k12.out; have := S_k13.out; have := S_k14.out; omega))
    replace O9 := hid (O9.out.below (KB.out.mono (by have := SG.out; have := S3c.out; have := S03.out; have := hx9.out; have := S_ya.out; have := S_yb.out; have := S_yc.out; have := S_yd.out; have := S_yp.out; have := Up.out; have := S_zp.out; have := S_yq.out; have := Uq.out; have := S_zq.out; have := S_ys.out; have := Us.out; have := S_zs.out; have := S_yt.out; have := Ut.out; have := S_zt.out; have := S_k1.out; have := S_k2.out; have := S_k3.out; have := S_k4.out; have := S_k5.out; have := S_k6.out; have := S_k8.out; have := S_k9.out; have := S_k10.out; have := S_k11.out; have := S_k12.out; have := S_k13.out; have := S_k14.out; omega)))
    replace M9 := hid (M9.out.below (KB.out.mono (by have := SG.out; have := S3c.out; have := S03.out; have := hx9.out; have := S_ya.out; have := S_yb.out; have := S_yc.out; have := S_yd.out; have := S_yp.out; have := Up.out; have := S_zp.out; have := S_yq.out; have := Uq.out; have := S_zq.out; have := S_ys.out; have := Us.out; have := S_zs.out; have := S_yt.out; have := Ut.out; have := S_zt.out; have := S_k1.out; have := S_k2.out; have := S_k3.out; have := S_k4.out; have := S_k5.out; have := S_k6.out; have := S_k8.out; have := S_k9.out; have := S_k10.out; have := S_k11.out; have := S_k12.out; have := S_k13.out; have := S_k14.out; omega)))
    replace X9 := hid (X9.out.below KB.out (by have := SG.out; have := S3c.out; have := S03.out; have := hx9.out; have := S_ya.out; have := S_yb.out; have := S_yc.out; have := S_yd.out; have := S_yp.out; have := Up.out; have := S_zp.out; have := S_yq.out; have := Uq.out; have := S_zq.out; have := S_ys.out; have := Us.out; have := S_zs.out; have := S_yt.out; have := Ut.out; have := S_zt.out; have := S_k1.out; have := S_k2.out; have := S_k3.out; have := S_k4.out; have := S_k5.out; have := S_k6.out; have := S_k8.out; have := S_k9.out; have := S_k10.out; have := S_k11.out; have := S_k12.out; have := S_k13.out; have := S_k14.out; omega))
    replace N9 := hid (N9.out.below KB.out (by have := SG.out; have := S3c.out; have := S03.out; have := hx9.out; have := S_ya.out; have := S_yb.out; have := S_yc.out; have := S_yd.out; have := S_yp.out; have := Up.out; have := S_zp.out; have := S_yq.out; have := Uq.out; have := S_zq.out; have := S_ys.out; have := Us.out; have := S_zs.out; have := S_yt.out; have := Ut.out; have := S_zt.out; have := S_k1.out; have := S_k2.out; have := S_k3.out; have := S_k4.out; have := S_k5.out; have := S_k6.out; have := S_k8.out; have := S_k9.out; have := S_k10.out; have := S_k11.out; have := S_k12.out; have := S_k13.out; have := S_k14.out; omega))
    replace LG := hid (LG.out.below (KB.out.mono (by have := SG.out; have := S3c.out; have := S03.out; have := hx9.out; have := S_ya.out; have := S_yb.out; have := S_yc.out; have := S_yd.out; have := S_yp.out; have := Up.out; have := S_zp.out; have := S_yq.out; have := Uq.out; have := S_zq.out; have := S_ys.out; have := Us.out; have := S_zs.out; have := S_yt.out; have := Ut.out; have := S_zt.out; have := S_k1.out; have := S_k2.out; have := S_k3.out; have := S_k4.out; have := S_k5.out; have := S_k6.out; have := S_k8.out; have := S_k9.out; have := S_k10.out; have := S_k11.out; have := S_k12.out; have := S_k13.out; have := S_k14.out; omega)))
    replace BW := hid (BW.out.trans (KB.out.mono (by have := SG.out; have := S3c.out; have := S03.out; have := hx9.out; have := S_ya.out; have := S_yb.out; have := S_yc.out; have := S_yd.out; have := S_yp.out; have := Up.out; have := S_zp.out; have := S_yq.out; have := Uq.out; have := S_zq.out; have := S_ys.out; have := Us.out; have := S_zs.out; have := S_yt.out; have := Ut.out; have := S_zt.out; have := S_k1.out; have := S_k2.out; have := S_k3.out; have := S_k4.out; have := S_k5.out; have := S_k6.out; have := S_k8.out; have := S_k9.out; have := S_k10.out; have := S_k11.out; have := S_k12.out; have := S_k13.out; have := S_k14.out; omega)))
    replace Vs := hid (hk.out.low Vs.out (fun q h1 h2 h3 => by obtain ⟨h4, h5⟩ := h3; have := SG.out; have := S3c.out; have := S03.out; have := hx9.out; have := S_ya.out; have := S_yb.out; have := S_yc.out; have := S_yd.out; have := S_yp.out; have := Up.out; have := S_zp.out; have := S_yq.out; have := Uq.out; have := S_zq.out; have := S_ys.out; have := Us.out; have := S_zs.out; have := S_yt.out; have := Ut.out; have := S_zt.out; have := S_k1.out; have := S_k2.out; have := S_k3.out; have := S_k4.out; have := S_k5.out; have := S_k6.out; have := S_k8.out; have := S_k9.out; have := S_k10.out; have := S_k11.out; have := S_k12.out; have := S_k13.out; have := S_k14.out; omega))
    replace Gs := hid (show Lbx k15 ys.heap.size xs is js Ds from (hk.out.block _ Gs.out.lt (fun h3 => by obtain ⟨h4, h5⟩ := h3; have := SG.out; have := S3c.out; have := S03.out; have := hx9.out; have := S_ya.out; have := S_yb.out; have := S_yc.out; have := S_yd.out; have := S_yp.out; have := Up.out; have := S_zp.out; have := S_yq.out; have := Uq.out; have := S_zq.out; have := S_ys.out; have := Us.out; have := S_zs.out; have := S_yt.out; have := Ut.out; have := S_zt.out; have := S_k1.out; have := S_k2.out; have := S_k3.out; have := S_k4.out; have := S_k5.out; have := S_k6.out; have := S_k8.out; have := S_k9.out; have := S_k10.out; have := S_k11.out; have := S_k12.out; have := S_k13.out; have := S_k14.out; omega)).trans Gs.out)
    have S_k15 := hid hk.out.size
    clear KB
    clear hk
    have CT := hid (spoil_row (w := k15) Vs.out Ws.out)
    have la := lbx_row Gs.out
    go_wp2_with (first
      | (refine wp_lload (by rfl) (.tmp 26) (by with_reducible rfl) ys.heap.size 0 xs is js Ds (by rfl) la ?_)
      | fail)
    refine CT.out.mono ?_
    rintro e k16 ⟨rfl, hk⟩
    clear CT la Vs Gs
    have KB := hid (hk.out.below (B := zq.heap.size) (fun q hq => by obtain ⟨h4, h5⟩ := hq; have := SG.out; have := S3c.out; have := S03.out; have := hx9.out; have := S_ya.out; have := S_yb.out; have := S_yc.out; have := S_yd.out; have := S_yp.out; have := Up.out; have := S_zp.out; have := S_yq.out; have := Uq.out; have := S_zq.out; have := S_ys.out; have := Us.out; have := S_zs.out; have := S_yt.out; have := Ut.out; have := S_zt.out; have := S_k1.out; have := S_k2.out; have := S_k3.out; have := S_k4.out; have := S_k5.out; have := S_k6.out; have := S_k8.out; have := S_k9.out; have := S_k10.out; have := S_k11.out; have := S_k12.out; have := S_k13.out; have := S_k14.out; have := S_k15.out; omega) (by have := SG.out; have := S3c.out; have := S03.out; have := hx9.out; have := S_ya.out; have := S_yb.out; have := S_yc.out; have := S_yd.out; have := S_yp.out; have := Up.out; have := S_zp.out; have := S_yq.out; have := Uq.out; have := S_zq.out; have := S_ys.out; have := Us.out; have := S_zs.out; have := S_yt.out; have := Ut.out; have := S_zt.out; have := S_k1.out; have := S_k2.out; have := S_k3.out; have := S_k4.out; have := S_k5.out; have := S_k6.out; have := S_k8.out; have := S_k9.out; have := S_k10.out; have := S_k11.out; have := S_k12.out; have := S_k13.out; have := S_k14.out; have := S_k15.out; omega))
    replace O9 := hid (O9.out.below (KB.out.mono (by have := SG.out; have := S3c.out; have := S03.out; have := hx9.out; have := S_ya.out; have := S_yb.out; have := S_yc.out; have := S_yd.out; have := S_yp.out; have := Up.out; have := S_zp.out; have := S_yq.out; have := Uq.out; have := S_zq.out; have := S_ys.out; have := Us.out; have := S_zs.out; have := S_yt.out; have := Ut.out; have := S_zt.out; have := S_k1.out; have := S_k2.out; have := S_k3.out; have := S_k4.out; have := S_k5.out; have := S_k6.out; have := S_k8.out; have := S_k9.out; have := S_k10.out; have := S_k11.out; have := S_k12.out; have := S_k13.out; have := S_k14.out; have := S_k15.out; omega)))
    replace M9 := hid (M9.out.below (KB.out.mono (by have := SG.out; have := S3c.out; have := S03.out; have := hx9.out; have := S_ya.out; have := S_yb.out; have := S_yc.out; have := S_yd.out; have := S_yp.out; have := Up.out; have := S_zp.out; have := S_yq.out; have := Uq.out; have := S_zq.out; have := S_ys.out; have := Us.out; have := S_zs.out; have := S_yt.out; have := Ut.out; have := S_zt.out; have := S_k1.out; have := S_k2.out; have := S_k3.out; have := S_k4.out; have := S_k5.out; have := S_k6.out; have := S_k8.out; have := S_k9.out; have := S_k10.out; have := S_k11.out; have := S_k12.out; have := S_k13.out; have := S_k14.out; have := S_k15.out; omega)))
    replace X9 := hid (X9.out.below KB.out (by have := SG.out; have := S3c.out; have := S03.out; have := hx9.out; have := S_ya.out; have := S_yb.out; have := S_yc.out; have := S_yd.out; have := S_yp.out; have := Up.out; have := S_zp.out; have := S_yq.out; have := Uq.out; have := S_zq.out; have := S_ys.out; have := Us.out; have := S_zs.out; have := S_yt.out; have := Ut.out; have := S_zt.out; have := S_k1.out; have := S_k2.out; have := S_k3.out; have := S_k4.out; have := S_k5.out; have := S_k6.out; have := S_k8.out; have := S_k9.out; have := S_k10.out; have := S_k11.out; have := S_k12.out; have := S_k13.out; have := S_k14.out; have := S_k15.out; omega))
    replace N9 := hid (N9.out.below KB.out (by have := SG.out; have := S3c.out; have := S03.out; have := hx9.out; have := S_ya.out; have := S_yb.out; have := S_yc.out; have := S_yd.out; have := S_yp.out; have := Up.out; have := S_zp.out; have := S_yq.out; have := Uq.out; have := S_zq.out; have := S_ys.out; have := Us.out; have := S_zs.out; have := S_yt.out; have := Ut.out; have := S_zt.out; have := S_k1.out; have := S_k2.out; have := S_k3.out; have := S_k4.out; have := S_k5.out; have := S_k6.out; have := S_k8.out; have := S_k9.out; have := S_k10.out; have := S_k11.out; have := S_k12.out; have := S_k13.out; have := S_k14.out; have := S_k15.out; omega))
    replace LG := hid (LG.out.below (KB.out.mono (by have := SG.out; have := S3c.out; have := S03.out; have := hx9.out; have := S_ya.out; have := S_yb.out; have := S_yc.out; have := S_yd.out; have := S_yp.out; have := Up.out; have := S_zp.out; have := S_yq.out; have := Uq.out; have := S_zq.out; have := S_ys.out; have := Us.out; have := S_zs.out; have := S_yt.out; have := Ut.out; have := S_zt.out; have := S_k1.out; have := S_k2.out; have := S_k3.out; have := S_k4.out; have := S_k5.out; have := S_k6.out; have := S_k8.out; have := S_k9.out; have := S_k10.out; have := S_k11.out; have := S_k12.out; have := S_k13.out; have := S_k14.out; have := S_k15.out; omega)))
    replace BW := hid (BW.out.trans (KB.out.mono (by have := SG.out; have := S3c.out; have := S03.out; have := hx9.out; have := S_ya.out; have := S_yb.out; have := S_yc.out; have := S_yd.out; have := S_yp.out; have := Up.out; have := S_zp.out; have := S_yq.out; have := Uq.out; have := S_zq.out; have := S_ys.out; have := Us.out; have := S_zs.out; have := S_yt.out; have := Ut.out; have := S_zt.out; have := S_k1.out; have := S_k2.out; have := S_k3.out; have := S_k4.out; have := S_k5.out; have := S_k6.out; have := S_k8.out; have := S_k9.out; have := S_k10.out; have := S_k11.out; have := S_k12.out; have := S_k13.out; have := S_k14.out; have := S_k15.out; omega)))
    have S_k16 := hid hk.out.size
    clear KB
    clear hk
    have CT := hid (same_yes (w := k16) O9.out LG.out (by have := SG.out; have := S3c.out; have := S03.out; have := hx9.out; have := S_ya.out; have := S_yb.out; have := S_yc.out; have := S_yd.out; have := S_yp.out; have := Up.out; have := S_zp.out; have := S_yq.out; have := Uq.out; have := S_zq.out; have := S_ys.out; have := Us.out; have := S_zs.out; have := S_yt.out; have := Ut.out; have := S_zt.out; have := S_k1.out; have := S_k2.out; have := S_k3.out; have := S_k4.out; have := S_k5.out; have := S_k6.out; have := S_k8.out; have := S_k9.out; have := S_k10.out; have := S_k11.out; have := S_k12.out; have := S_k13.out; have := S_k14.out; have := S_k15.out; have := S_k16.out; omega) (by have := SG.out; have := S3c.out; have := S03.out; have := hx9.out; have := S_ya.out; have := S_yb.out; have := S_yc.out; have := S_yd.out; have := S_yp.out; have := Up.out; have := S_zp.out; have := S_yq.out; have := Uq.out; have := S_zq.out; have := S_ys.out; have := Us.out; have := S_zs.out; have := S_yt.out; have := Ut.out; have := S_zt.out; have := S_k1.out; have := S_k2.out; have := S_k3.out; have := S_k4.out; have := S_k5.out; have := S_k6.out; have := S_k8.out; have := S_k9.out; have := S_k10.out; have := S_k11.out; have := S_k12.out; have := S_k13.out; have := S_k14.out; have := S_k15.out; have := S_k16.out; omega))
    go_wp2_with fail
    refine CT.out.mono ?_
    rintro e k17 ⟨rfl, hb⟩
    clear CT
    replace O9 := hid (O9.out.below (hb.out.mono (by have := SG.out; have := S3c.out; have := S03.out; have := hx9.out; have := S_ya.out; have := S_yb.out; have := S_yc.out; have := S_yd.out; have := S_yp.out; have := Up.out; have := S_zp.out; have := S_yq.out; have := Uq.out; have := S_zq.out; have := S_ys.out; have := Us.out; have := S_zs.out; have := S_yt.out; have := Ut.out; have := S_zt.out; have := S_k1.out; have := S_k2.out; have := S_k3.out; have := S_k4.out; have := S_k5.out; have := S_k6.out; have := S_k8.out; have := S_k9.out; have := S_k10.out; have := S_k11.out; have := S_k12.out; have := S_k13.out; have := S_k14.out; have := S_k15.out; have := S_k16.out; omega)))
    replace M9 := hid (M9.out.below (hb.out.mono (by have := SG.out; have := S3c.out; have := S03.out; have := hx9.out; have := S_ya.out; have := S_yb.out; have := S_yc.out; have := S_yd.out; have := S_yp.out; have := Up.out; have := S_zp.out; have := S_yq.out; have := Uq.out; have := S_zq.out; have := S_ys.out; have := Us.out; have := S_zs.out; have := S_yt.out; have := Ut.out; have := S_zt.out; have := S_k1.out; have := S_k2.out; have := S_k3.out; have := S_k4.out; have := S_k5.out; have := S_k6.out; have := S_k8.out; have := S_k9.out; have := S_k10.out; have := S_k11.out; have := S_k12.out; have := S_k13.out; have := S_k14.out; have := S_k15.out; have := S_k16.out; omega)))
    replace X9 := hid (X9.out.below hb.out X9.out.lt)
    replace N9 := hid (N9.out.below hb.out N9.out.lt)
    replace LG := hid (LG.out.below (hb.out.mono (by have := SG.out; have := S3c.out; have := S03.out; have := hx9.out; have := S_ya.out; have := S_yb.out; have := S_yc.out; have := S_yd.out; have := S_yp.out; have := Up.out; have := S_zp.out; have := S_yq.out; have := Uq.out; have := S_zq.out; have := S_ys.out; have := Us.out; have := S_zs.out; have := S_yt.out; have := Ut.out; have := S_zt.out; have := S_k1.out; have := S_k2.out; have := S_k3.out; have := S_k4.out; have := S_k5.out; have := S_k6.out; have := S_k8.out; have := S_k9.out; have := S_k10.out; have := S_k11.out; have := S_k12.out; have := S_k13.out; have := S_k14.out; have := S_k15.out; have := S_k16.out; omega)))
    replace BW := hid (gbelow_on BW.out (Nat.le_refl _) hb.out)
    have S_k17 := hid hb.out.size
    clear hb
    have la := mbox_row X9.out
    have lb := mbox_row N9.out
    have CT := hid (mass_yes (w := k17) M9.out.rd (fun j hj => (HM.out j hj).below BW.out) (by have := SG.out; have := S3c.out; have := S03.out; have := hx9.out; have := S_ya.out; have := S_yb.out; have := S_yc.out; have := S_yd.out; have := S_yp.out; have := Up.out; have := S_zp.out; have := S_yq.out; have := Uq.out; have := S_zq.out; have := S_ys.out; have := Us.out; have := S_zs.out; have := S_yt.out; have := Ut.out; have := S_zt.out; have := S_k1.out; have := S_k2.out; have := S_k3.out; have := S_k4.out; have := S_k5.out; have := S_k6.out; have := S_k8.out; have := S_k9.out; have := S_k10.out; have := S_k11.out; have := S_k12.out; have := S_k13.out; have := S_k14.out; have := S_k15.out; have := S_k16.out; have := S_k17.out; omega) (by have := SG.out; have := S3c.out; have := S03.out; have := hx9.out; have := S_ya.out; have := S_yb.out; have := S_yc.out; have := S_yd.out; have := S_yp.out; have := Up.out; have := S_zp.out; have := S_yq.out; have := Uq.out; have := S_zq.out; have := S_ys.out; have := Us.out; have := S_zs.out; have := S_yt.out; have := Ut.out; have := S_zt.out; have := S_k1.out; have := S_k2.out; have := S_k3.out; have := S_k4.out; have := S_k5.out; have := S_k6.out; have := S_k8.out; have := S_k9.out; have := S_k10.out; have := S_k11.out; have := S_k12.out; have := S_k13.out; have := S_k14.out; have := S_k15.out; have := S_k16.out; have := S_k17.out; omega) HPL.out)
    go_wp2_with (first
      | (refine wp_lmg (by rfl) (.tmp 10) (by with_reducible rfl) g10 0 R (by rfl) la ?_)
      | (refine wp_lmg (by rfl) (.tmp 7) (by with_reducible rfl) w.heap.size 0 M (by rfl) lb ?_)
      | fail)
    refine CT.out.mono ?_
    rintro e k18 ⟨rfl, hb⟩
    clear CT
    replace O9 := hid (O9.out.below (hb.out.mono (by have := SG.out; have := S3c.out; have := S03.out; have := hx9.out; have := S_ya.out; have := S_yb.out; have := S_yc.out; have := S_yd.out; have := S_yp.out; have := Up.out; have := S_zp.out; have := S_yq.out; have := Uq.out; have := S_zq.out; have := S_ys.out; have := Us.out; have := S_zs.out; have := S_yt.out; have := Ut.out; have := S_zt.out; have := S_k1.out; have := S_k2.out; have := S_k3.out; have := S_k4.out; have := S_k5.out; have := S_k6.out; have := S_k8.out; have := S_k9.out; have := S_k10.out; have := S_k11.out; have := S_k12.out; have := S_k13.out; have := S_k14.out; have := S_k15.out; have := S_k16.out; have := S_k17.out; omega)))
    replace M9 := hid (M9.out.below (hb.out.mono (by have := SG.out; have := S3c.out; have := S03.out; have := hx9.out; have := S_ya.out; have := S_yb.out; have := S_yc.out; have := S_yd.out; have := S_yp.out; have := Up.out; have := S_zp.out; have := S_yq.out; have := Uq.out; have := S_zq.out; have := S_ys.out; have := Us.out; have := S_zs.out; have := S_yt.out; have := Ut.out; have := S_zt.out; have := S_k1.out; have := S_k2.out; have := S_k3.out; have := S_k4.out; have := S_k5.out; have := S_k6.out; have := S_k8.out; have := S_k9.out; have := S_k10.out; have := S_k11.out; have := S_k12.out; have := S_k13.out; have := S_k14.out; have := S_k15.out; have := S_k16.out; have := S_k17.out; omega)))
    replace X9 := hid (X9.out.below hb.out X9.out.lt)
    replace N9 := hid (N9.out.below hb.out N9.out.lt)
    replace LG := hid (LG.out.below (hb.out.mono (by have := SG.out; have := S3c.out; have := S03.out; have := hx9.out; have := S_ya.out; have := S_yb.out; have := S_yc.out; have := S_yd.out; have := S_yp.out; have := Up.out; have := S_zp.out; have := S_yq.out; have := Uq.out; have := S_zq.out; have := S_ys.out; have := Us.out; have := S_zs.out; have := S_yt.out; have := Ut.out; have := S_zt.out; have := S_k1.out; have := S_k2.out; have := S_k3.out; have := S_k4.out; have := S_k5.out; have := S_k6.out; have := S_k8.out; have := S_k9.out; have := S_k10.out; have := S_k11.out; have := S_k12.out; have := S_k13.out; have := S_k14.out; have := S_k15.out; have := S_k16.out; have := S_k17.out; omega)))
    replace BW := hid (gbelow_on BW.out (Nat.le_refl _) hb.out)
    have S_k18 := hid hb.out.size
    clear hb
    go_wp2
    go_ret
    exact ⟨rfl, BW.out⟩
end Go.Proofs.Ytdcolnipdipkhaa.Fli
