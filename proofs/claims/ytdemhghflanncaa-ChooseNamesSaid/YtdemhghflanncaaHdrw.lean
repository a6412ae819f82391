/- The document's Draws. -/
import Derived.Test.YtdemhghflanncaaHsom
namespace Go.Proofs.Ytdemhghflanncaa
open Go.RowKit Go.Shelf Go.Lib

/-- What Draws answers. -/
def dwE (o p : Int) (l r : List De) : Int := if CMay o p l then if (drs l r).isSome = true then 0 else 6 else 8
def dwL (o p : Int) (l r : List De) : List Nat := if CMay o p l then (drs l r).getD [] else []
theorem drs_nil (l : List De) : drs l [] = some [] := by unfold drs; rfl
theorem drs_cons (l : List De) (x : De) (r : List De) : drs l (x :: r) = if la x l l.length < 0 then none else (drs (l.eraseIdx (la x l l.length).toNat) r).map ((la x l l.length).toNat :: ·) := by rw [drs]
theorem la_lt (x : De) (l : List De) : ∀ n, la x l n < n
  | 0 => by rw [la]; omega
  | n + 1 => by
    have := la_lt x l n
    rw [la]
    split <;> omega
theorem la_ge (x : De) (l : List De) : ∀ n, -1 ≤ la x l n
  | 0 => by rw [la]; omega
  | n + 1 => by
    have := la_ge x l n
    rw [la]
    split <;> omega
theorem Ds.turnU {w w' : World} {v v' : Value} {B n c : Nat} {A : Option Addr} {l : List De} {l' : List Nat} (h : Ds w w.heap.size A n c l) (hT : TurnU w w' B v v' l') (hne : ∀ a, A = some a → v.ownBlock ≠ some a.block) : Ds w' w'.heap.size A n c l :=
  ⟨h.len, h.cap, h.max, h.nil, fun hn => by
    obtain ⟨b, off, rfl, hB, hc⟩ := h.at_ hn
    have hb := hT.grown.block b hB (fun e => hne _ rfl e.symm)
    refine ⟨b, off, rfl, Nat.lt_of_lt_of_le hB hT.grown.size, fun i d hd => ?_⟩
    obtain ⟨h1, h2⟩ := hc i d hd
    exact ⟨(World.cell?_of_block (a := ⟨b, off + i * 2, none⟩) hb).trans h1, (World.cell?_of_block (a := ⟨b, off + i * 2 + 1, none⟩) hb).trans h2⟩⟩

set_option maxHeartbeats 6400000 in
set_option maxRecDepth 100000 in
theorem rdraws_any {w : World} {B C n c m d : Nat} {A D : Option Addr} {l r : List De} (o p : Int) (h : Ds w B A n c l) (k : Ds w C D m d r) (hB : B ≤ w.heap.size) (hC : C ≤ w.heap.size) (hm : m ≤ 1000) :
    Calls Try.prog 17 #[cav o p (.slice A n c), .slice D m d] w fun e w' => ∃ v, e = .returned (.tuple #[v, .int .i64 (dwE o p l r)]) ∧ Hid (Ou w' w.heap.size v (dwL o p l r) ∧ Below w.heap.size w w') := by
  have mixed : Try.prog.follows .mixedOrders = true := by kernel_rfl
  have H := hid (h.mono hB)
  have K := hid (k.mono hC)
  have HL := hid h.len
  have HR := hid k.len
  have hcap := h.cap
  have hcap2 := k.cap
  clear h hB k hC
  obtain ⟨W, hW⟩ : ∃ W, W = w.alloc (.cells #[.int .i64 o, .int .i64 p, .slice A n c] 29) := ⟨_, rfl⟩
  have B0 := hid (show Below w.heap.size w W from hW ▸ (Below.refl _ w).alloc (Nat.le_refl _) _)
  have X0 := hid (show Cbox W w.heap.size o p (.slice A n c) from hW ▸ heap_alloc_new w _)
  have x0 := X0.out.c0
  have x1 := X0.out.c1
  have x2 := X0.out.c2
  have HW := hid hW
  clear hW
  have CM := hid (rmay_any o p (H.out.below B0.out) B0.out.size)
  by_cases hq : CMay o p l
  case neg =>
    have hE : dwE o p l r = 8 := if_neg hq
    have hF : dwL o p l r = [] := if_neg hq
    rw [hE, hF]
    rw [decide_eq_false hq] at CM
    clear hq hE hF
    unfold cav at CM ⊢
    go_enter Try.func17, Try.ntmps17
    go_upto_region 1 with fail
    rw [← HW.out]
    clear HW
    go_wp2_with fail
    refine CM.out.mono ?_
    rintro e w1 ⟨rfl, hb⟩
    go_wp2
    go_ret2
    exact ⟨_, rfl, hid ⟨Ou.nil _ _, B0.out.trans (hb.out.mono B0.out.size)⟩⟩
  rw [decide_eq_true hq] at CM
  have hn6 : n ≤ 6 := by
    obtain ⟨_, _, _, a4, a5, _⟩ := hq
    have := HL.out
    omega
  have HE := hid (show dwE o p l r = (if (drs l r).isSome = true then 0 else 6) from if_pos hq)
  have HF := hid (show dwL o p l r = (drs l r).getD [] from if_pos hq)
  clear hq
  unfold cav at CM ⊢
  go_enter Try.func17, Try.ntmps17
  go_upto_region 1 with fail
  rw [← HW.out]
  clear HW
  go_wp2_with fail
  refine CM.out.mono ?_
  rintro e w1 ⟨rfl, hb⟩
  have B1 := hid (B0.out.trans (hb.out.mono B0.out.size))
  have X1 := hid (X0.out.below hb.out X0.out.lt)
  have H1 := hid ((H.out.below B1.out).mono B1.out.size)
  have K1 := hid (K.out.below B1.out)
  clear x0 x1 x2 hb
  have x2 := X1.out.c2
  go_wp2
  clear x2
  go_loopg [6, 7, 8, 9, 10] m (fun gg s6 s7 s8 _ _ wr => ∃ (i q c' : Nat) (A' : Option Addr) (t : List De) (u : List Nat), i ≤ m ∧ m - i ≤ gg ∧ s8 = .int .i64 i ∧ s6 = .slice A' q c' ∧ q ≤ 1000 ∧ q ≤ c' ∧ Hid (Ds wr wr.heap.size A' q c' t) ∧ Hid (∀ a, A' = some a → s7.ownBlock ≠ some a.block) ∧ Hid (Ou wr w.heap.size s7 u ∧ u.length ≤ i) ∧ Hid (Below w.heap.size w wr) ∧ Hid (drs l r = (drs t (r.drop i)).map (u ++ ·)))
  case atStart => exact ⟨0, n, c, A, l, [], Nat.zero_le _, by omega, rfl, rfl, by omega, hcap, H1, hid (fun _ _ => by simp [Value.ownBlock]), hid ⟨Ou.nil w1 _, Nat.zero_le _⟩, B1, hid (by simp)⟩
  case round =>
    clear hcap hn6 H1 B0 X0 H CM X1 B1
    obtain ⟨i, q, c', A', t, u, hi, hg, rfl, rfl, hq, hcap, HT, HAp, HU, BW, HD⟩ := hrel
    obtain ⟨A5, n5, c5, hv5, o5, _, _⟩ := HU.out.1.form
    subst hv5
    by_cases hlt : i < m
    case neg =>
      have hltz : ¬ (i : Int) < (m : Int) := by omega
      obtain rfl : i = m := by omega
      have hs : drs l r = some u := by
        rw [HD.out, List.drop_of_length_le (by rw [HR.out]; exact Nat.le_refl _), drs_nil]
        simp
      have HS := hid hs
      clear hs o5
      go_wp2
      go_ret2
      refine ⟨_, by rw [HE.out, HS.out]; rfl, hid ⟨?_, BW.out⟩⟩
      rw [HF.out, HS.out]
      exact HU.out.1
    have hltz : (i : Int) < (m : Int) := by omega
    obtain ⟨x, hx⟩ := K.out.get hlt
    have HXr := hid (show r.drop i = x :: r.drop (i + 1) from by
      obtain ⟨h2, rfl⟩ := List.getElem?_eq_some_iff.1 hx
      exact List.drop_eq_getElem_cons h2)
    obtain ⟨db, doff, rfl, hdb, hdc⟩ := (K.out.below BW.out).at_ (by omega)
    obtain ⟨d1, d2⟩ := hdc i x hx
    obtain ⟨x1, x2⟩ := x
    change wr.cell? ⟨db, doff + i * 2, none⟩ = some (.int .i64 x1) at d1
    change wr.cell? ⟨db, doff + i * 2 + 1, none⟩ = some (.int .i64 x2) at d2
    have hdw : db < wr.heap.size := Nat.lt_of_lt_of_le hdb BW.out.size
    have DD := hid (And.intro d1 d2)
    have HQ := hid HT.out.len
    clear d1 d2 hdc hx o5 hdb
    go_upto_block 2 with fail
    go_cut [9, 10] from 22 to 37 (fun s9 _ wx => s9 = .int .i64 (la (x1, x2) t q) ∧ Hid (Below wr.heap.size wr wx))
    case first =>
      go_wp2_with fail
      go_loopg [9, 10] q (fun gg s9 s10 wx => ∃ j : Nat, j ≤ q ∧ q - j ≤ gg ∧ s10 = .int .i64 j ∧ s9 = .int .i64 (la (x1, x2) t j) ∧ Hid (Below wr.heap.size wr wx))
      case atStart => exact ⟨0, Nat.zero_le _, by omega, rfl, rfl, hid (Below.refl _ wr)⟩
      case round =>
        obtain ⟨j, hj, hg2, rfl, rfl, BX⟩ := hrel
        by_cases hjq : j < q
        · have hjz : (j : Int) < (q : Int) := by omega
          obtain ⟨y, hy⟩ := HT.out.get hjq
          obtain ⟨b, off, rfl, hbB, hc⟩ := (HT.out.below BX.out).at_ (by omega)
          obtain ⟨c1, c2⟩ := hc j y hy
          have d1 := (BX.out.cell (p := ⟨db, doff + i * 2, none⟩) hdw).trans DD.out.1
          have d2 := (BX.out.cell (p := ⟨db, doff + i * 2 + 1, none⟩) hdw).trans DD.out.2
          have HY := hid hy
          clear hc hy hbB
          obtain ⟨y1, y2⟩ := y
          change wr.cell? ⟨b, off + j * 2, none⟩ = some (.int .i64 y1) at c1
          change wr.cell? ⟨b, off + j * 2 + 1, none⟩ = some (.int .i64 y2) at c2
          have hgd := grdD
          by_cases hxy : (y1, y2) = (x1, x2)
          · have hq2 : ∀ W, Sem.run Try.prog (binOp .eql 23 (.agg #[.int .i64 y1, .int .i64 y2]) (.agg #[.int .i64 x1, .int .i64 x2])) W = .ok (.bool true) W := fun W => by rw [eqlD, decide_eq_true hxy]
            have HLA := hid (show la (x1, x2) t (j + 1) = (j : Int) from by rw [la, if_pos (by rw [HY.out, hxy])])
            clear hxy
            go_wp2_with fail
            go_quiet_o (fail)
            go_wp2
            go_roundg (q - (j + 1))
            case measure => omega
            case rel => exact ⟨j + 1, by omega, by omega, by go_num, by rw [HLA.out], hid (below_drewN BX.out _)⟩
          · have hq2 : ∀ W, Sem.run Try.prog (binOp .eql 23 (.agg #[.int .i64 y1, .int .i64 y2]) (.agg #[.int .i64 x1, .int .i64 x2])) W = .ok (.bool false) W := fun W => by rw [eqlD, decide_eq_false hxy]
            have HLA := hid (show la (x1, x2) t (j + 1) = la (x1, x2) t j from by rw [la, if_neg (fun e => hxy (Option.some.inj (HY.out.symm.trans e)))])
            clear hxy
            go_wp2_with fail
            go_quiet_o (fail)
            go_wp2
            go_roundg (q - (j + 1))
            case measure => omega
            case rel => exact ⟨j + 1, by omega, by omega, by go_num, by rw [HLA.out], hid (below_drewN BX.out _)⟩
        · have hjz : ¬ (j : Int) < (q : Int) := by omega
          obtain rfl : j = q := by omega
          go_wp2
          go_meet
          exact ⟨rfl, BX⟩
    case rest =>
      obtain ⟨rfl, BX⟩ := hcut
      have HLT := hid (la_lt (x1, x2) t q)
      have BWc := hid (BW.out.trans (BX.out.mono BW.out.size))
      have HTc := hid ((HT.out.below BX.out).mono BX.out.size)
      have HUc := hid (HU.out.1.below BX.out)
      have HU5 := hid HU.out.2
      have HDc := hid (show drs l r = (drs t ((x1, x2) :: r.drop (i + 1))).map (u ++ ·) from by rw [HD.out, HXr.out])
      clear HT HU BW HD HXr DD hdw
      by_cases hneg : la (x1, x2) t q < 0
      · have HS := hid (show drs l r = none from by rw [HDc.out, drs_cons, HQ.out, if_pos hneg]; rfl)
        go_wp2
        go_ret2
        refine ⟨_, by rw [HE.out, HS.out]; rfl, hid ⟨?_, BWc.out⟩⟩
        rw [HF.out, HS.out]
        exact Ou.nil _ _
      obtain ⟨a, ha⟩ : ∃ a : Nat, la (x1, x2) t q = (a : Int) := ⟨(la (x1, x2) t q).toNat, by omega⟩
      have haq : a < q := by have := HLT.out; omega
      have HDS := hid (show drs l r = (drs (t.eraseIdx a) (r.drop (i + 1))).map (fun z => u ++ a :: z) from by
        rw [HDc.out, drs_cons, HQ.out, if_neg hneg, ha, Int.toNat_natCast, Option.map_map]
        rfl)
      rw [ha]
      clear ha hneg HLT HDc
      have hang : ¬ (a : Int) < 0 := by omega
      have hw2 : IntKind.u64.wrap (a : Int) = (a : Int) := by rw [IntKind.wrap_u64]; omega
      have hul : u.length ≤ 1000 := by have := HU5.out; omega
      obtain ⟨b, off, rfl, hbB, _⟩ := HTc.out.at_ (by omega)
      have HM : Hid (Us (wc.alloc (.cells #[.int .u64 (a : Int)] 30)) (wc.alloc (.cells #[.int .u64 (a : Int)] 30)).heap.size (some ⟨wc.heap.size, 0, none⟩) 1 1 [a]) := hid (us_row (l := [a]) (heap_alloc_new wc _) (by simp) (by intro z hz; rw [List.mem_singleton] at hz; omega))
      have HOd := hid (HUc.out.below ((Below.refl wc.heap.size wc).alloc (Nat.le_refl _) (.cells #[.int .u64 (a : Int)] 30)))
      have HBd := hid (BWc.out.alloc BWc.out.size (.cells #[.int .u64 (a : Int)] 30))
      have HTd := hid (HTc.out.below ((Below.refl wc.heap.size wc).alloc (Nat.le_refl _) (.cells #[.int .u64 (a : Int)] 30)))
      have haz : (a : Int) < (q : Int) := by omega
      go_upto_region 17 with (first | (at_builtin; refine list_appU rfl (.tmp 40) (.tmp 43) rfl (v := .slice A5 n5 c5) (B := w.heap.size) (l := u) (r := [a]) rfl rfl HOd.out HM.out (by omega) HBd.out.size ?_; intro v34 w34 HTU) | fail)
      have HU1 := hid HTU.out.own
      have b34 := hid (HTU.out.below HOd.out HBd.out.size)
      have BXX := hid (HBd.out.trans b34.out)
      have HNT := hid ((HTd.out.mono (by simp)).turnU HTU.out HAp.out)
      have HV34 := hid (fun k (hk : v34.ownBlock = some k) => (ou_lt HU1.out k hk).2)
      clear HTU HOd HTd HM b34 HTc HUc HBd BX BWc
      obtain ⟨s, hs⟩ : ∃ s, s = t.eraseIdx a := ⟨_, rfl⟩
      have HSE := hid (show t.take a ++ t.drop (a + 1) = s from by rw [hs]; exact erase_two t a)
      rw [← hs] at HDS
      have hsl : t.length = q := HNT.out.len
      have HSL := hid (show s.length = q - 1 from by rw [hs, List.length_eraseIdx, if_pos (by omega), hsl])
      clear hs
      have hw3 : IntKind.i64.wrap ((a : Int) + 1) = (a : Int) + 1 := by rw [IntKind.wrap_i64]; omega
      have htn : ((a : Int) + 1).toNat = a + 1 := by omega
      have hb1 : (0 : Int) ≤ (a : Int) + 1 := by omega
      have hb2 : (a : Int) + 1 ≤ (q : Int) := by omega
      have hb3 : (a : Int) ≤ (c' : Int) := by omega
      have ha1 : a + 1 ≤ c' := by omega
      have HN1 : Hid ((w34.alloc (.cells #[] 23)).drew.heap[w34.heap.size]? = some (.cells #[] 23 (0, 0))) := hid (heap_alloc_new w34 _)
      have HB1 : Hid (Below w34.heap.size w34 (w34.alloc (.cells #[] 23)).drew) := hid (((Below.refl _ w34).alloc (Nat.le_refl _) _).drew)
      have HS1 : Hid (∀ X, Below w34.heap.size w34 X → Ds X w34.heap.size (some ⟨b, off, none⟩) a c' (t.take a)) := hid fun X hb => (HNT.out.first (by omega)).below hb
      clear hsl
      by_cases hpc : c' = a + 1
      · subst hpc
        have HS3 : Hid (∀ (X : World) (z : Addr) (k : Nat), Ds X w34.heap.size (some z) 0 k (t.drop (a + 1))) := hid fun X z k => by rw [List.drop_of_length_le (by rw [HNT.out.len]; omega)]; exact Ds.none' _ _ _ _
        obtain rfl : q = a + 1 := by omega
        have hb4 : (a : Int) ≤ (a : Int) + 1 := by omega
        go_upto_region 17 with fail
        go_region_law (first
          | (refine step_appD rfl (.tmp 45) (.tmp 48) rfl rfl rfl (v := .slice (some ⟨w34.heap.size, 0, none⟩) 0 0) (B := w34.heap.size) (C := w34.heap.size) (l := []) (r := t.take a) (by with_reducible exact od_at HN1.out (Nat.le_refl _)) (by with_reducible exact HS1.out _ HB1.out) (by simp only [List.length_nil]; omega) (by with_reducible exact HB1.out.size) ?_
             intro v39 w39 HT1
             have HO39 : Hid (Od w39 w34.heap.size v39 (t.take a)) := hid HT1.out.own
             have HBw : Hid (Below w34.heap.size w34 w39) := hid (HB1.out.trans (HT1.out.below (own_new (Nat.le_refl _)) HB1.out.size)))
          | (refine step_appD rfl (.tmp 49) (.tmp 53) rfl rfl rfl (v := v39) (B := w34.heap.size) (l := t.take a) (r := t.drop (a + 1)) HO39.out (HS3.out _ _ _) (by rw [List.length_take]; omega) HBw.out.size ?_
             intro v44 w44 HT2
             have HO44 : Hid (Od w44 w34.heap.size v44 s) := hid (by rw [← HSE.out]; exact HT2.out.own)
             have HBx : Hid (Below w34.heap.size w34 w44) := hid (HBw.out.trans (HT2.out.below (fun k hk => (own_lt HO39.out k hk).1) HBw.out.size))))
        all_goals
          obtain ⟨A4, n4, c4, hv4, o4, d4⟩ := od_lett HO44.out
          subst hv4
          have D4 := hid d4
          have HN4 := hid (show n4 = (a + 1) - 1 from d4.len.symm.trans HSL.out)
          have hc4 := d4.cap
          have HO4 := hid o4
          clear d4 o4 HT1 HT2
          go_wp2
          go_roundg (m - (i + 1))
          case measure => omega
          case rel =>
            refine ⟨i + 1, n4, c4, A4, s, u ++ [a], by omega, by omega, by go_num, rfl, by have := HN4.out; omega, hc4, D4, hid (fun a0 ha0 e => ?_), hid ⟨HU1.out.below (HBx.out), by rw [List.length_append, List.length_singleton]; have := HU5.out; omega⟩, hid (BXX.out.trans (HBx.out.mono BXX.out.size)), hid ?_⟩
            · have h1 := HV34.out _ e
              have h2 := own_at HO4.out a0 ha0
              omega
            · rw [HDS.out]
              cases drs s (r.drop (i + 1)) with
              | none => rfl
              | some z => simp
      · have HS3 : Hid (∀ X, Below w34.heap.size w34 X → Ds X w34.heap.size (some ⟨b, off + (a + 1) * 2, none⟩) (q - (a + 1)) (c' - (a + 1)) (t.drop (a + 1))) := hid fun X hb => (HNT.out.dropo (by omega)).below hb
        go_upto_region 17 with fail
        go_region_law (first
          | (refine step_appD rfl (.tmp 45) (.tmp 48) rfl rfl rfl (v := .slice (some ⟨w34.heap.size, 0, none⟩) 0 0) (B := w34.heap.size) (C := w34.heap.size) (l := []) (r := t.take a) (by with_reducible exact od_at HN1.out (Nat.le_refl _)) (by with_reducible exact HS1.out _ HB1.out) (by simp only [List.length_nil]; omega) (by with_reducible exact HB1.out.size) ?_
             intro v39 w39 HT1
             have HO39 : Hid (Od w39 w34.heap.size v39 (t.take a)) := hid HT1.out.own
             have HBw : Hid (Below w34.heap.size w34 w39) := hid (HB1.out.trans (HT1.out.below (own_new (Nat.le_refl _)) HB1.out.size)))
          | (refine step_appD rfl (.tmp 49) (.tmp 53) rfl rfl rfl (v := v39) (B := w34.heap.size) (l := t.take a) (r := t.drop (a + 1)) HO39.out (HS3.out _ HBw.out) (by rw [List.length_take]; omega) HBw.out.size ?_
             intro v44 w44 HT2
             have HO44 : Hid (Od w44 w34.heap.size v44 s) := hid (by rw [← HSE.out]; exact HT2.out.own)
             have HBx : Hid (Below w34.heap.size w34 w44) := hid (HBw.out.trans (HT2.out.below (fun k hk => (own_lt HO39.out k hk).1) HBw.out.size))))
        all_goals
          obtain ⟨A4, n4, c4, hv4, o4, d4⟩ := od_lett HO44.out
          subst hv4
          have D4 := hid d4
          have HN4 := hid (show n4 = q - 1 from d4.len.symm.trans HSL.out)
          have hc4 := d4.cap
          have HO4 := hid o4
          clear d4 o4 HT1 HT2
          go_wp2
          go_roundg (m - (i + 1))
          case measure => omega
          case rel =>
            refine ⟨i + 1, n4, c4, A4, s, u ++ [a], by omega, by omega, by go_num, rfl, by have := HN4.out; omega, hc4, D4, hid (fun a0 ha0 e => ?_), hid ⟨HU1.out.below (HBx.out), by rw [List.length_append, List.length_singleton]; have := HU5.out; omega⟩, hid (BXX.out.trans (HBx.out.mono BXX.out.size)), hid ?_⟩
            · have h1 := HV34.out _ e
              have h2 := own_at HO4.out a0 ha0
              omega
            · rw [HDS.out]
              cases drs s (r.drop (i + 1)) with
              | none => rfl
              | some z => simp
end Go.Proofs.Ytdemhghflanncaa
