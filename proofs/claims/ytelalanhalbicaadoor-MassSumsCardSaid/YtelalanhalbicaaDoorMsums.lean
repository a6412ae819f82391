/- MassSums, walked. -/
import Derived.Test.YtelalanhalbicaaDoorMres
import Derived.Test.YtelalanhalbicaaDoorMy3
import Derived.Test.YtelalanhalbicaaDoorMspoil
import Derived.Test.YtelalanhalbicaaDoorMtwb
import Derived.Test.YtelalanhalbicaaDoorMlframe
namespace Go.Proofs.YtelalanhalbicaaDoor
open Go.RowKit Go.Shelf

/-- The cells of masses in a row. -/
def cellsM (n : Nat) (R : Nat → Nat → Dy) : List Value := (List.range n).flatMap fun i => (mcells (R i)).toList
theorem mcells_len (D : Nat → Dy) : (mcells D).toList.length = 12 := rfl
theorem cellsM_succ (n : Nat) (R : Nat → Nat → Dy) : cellsM (n + 1) R = cellsM n R ++ (mcells (R n)).toList := by
  unfold cellsM
  rw [List.range_succ, List.flatMap_append]
  simp
theorem cellsM_length (R : Nat → Nat → Dy) : ∀ n, (cellsM n R).length = n * 12
  | 0 => rfl
  | n + 1 => by
    rw [cellsM_succ, List.length_append, cellsM_length R n, mcells_len]
    omega
theorem cellsM_congr {n : Nat} {R S : Nat → Nat → Dy} (h : ∀ i, i < n → R i = S i) : cellsM n R = cellsM n S := by
  unfold cellsM
  rw [List.flatMap_def, List.flatMap_def, List.map_congr_left fun i hi => by rw [h i (List.mem_range.1 hi)]]
theorem cellsM_get {R : Nat → Nat → Dy} : ∀ {n i j : Nat} {v : Value}, i < n → (mcells (R i)).toList[j]? = some v → (cellsM n R)[i * 12 + j]? = some v
  | 0, i, _, _, hi, _ => absurd hi (Nat.not_lt_zero i)
  | n + 1, i, j, v, hi, hv => by
    have hj : j < 12 := (List.getElem?_eq_some_iff.1 hv).1
    rw [cellsM_succ]
    by_cases h : i < n
    · rw [List.getElem?_append_left (by rw [cellsM_length]; omega)]
      exact cellsM_get h hv
    · obtain rfl : i = n := by omega
      rw [List.getElem?_append_right (by rw [cellsM_length]; omega), cellsM_length, show i * 12 + j - i * 12 = j by omega]
      exact hv
theorem mcells_ones (D : Nat → Dy) : ∀ u ∈ (mcells D).toList, u.oneCell' = true := by
  intro u hu
  simp at hu
  rcases hu with rfl | rfl | rfl | rfl | rfl | rfl | rfl | rfl | rfl | rfl | rfl | rfl <;> rfl
/-- A row of masses of the call's own. -/
structure Om (w : World) (B : Nat) (v : Value) (n : Nat) (R : Nat → Nat → Dy) : Prop where
  own : w.ownsRow B 26 12 v n (cellsM n R)
theorem Om.nil (w : World) (B : Nat) (R : Nat → Nat → Dy) : Om w B (.slice none 0 0) 0 R := ⟨World.ownsRow_nil w B _ _⟩
theorem Om.below {w w' : World} {B n : Nat} {v : Value} {R : Nat → Nat → Dy} (h : Om w B v n R) (hb : Below w.heap.size w w') : Om w' B v n R :=
  ⟨h.own.kept (row := none) ⟨hb.os, hb.tape, hb.output, hb.size, fun k hk _ => hb.block k hk⟩ (by cases v.ownBlock <;> simp)⟩
theorem Om.form {w : World} {B n : Nat} {v : Value} {R : Nat → Nat → Dy} (h : Om w B v n R) : ∃ A c, v = .slice A n c ∧ n ≤ c ∧ Mlist w A n R := by
  obtain ⟨hl, hor⟩ := h.own
  rcases hor with ⟨rfl, rfl⟩ | ⟨g, cap, cur, rfl, hB, hg, hn, hc, hs, ht⟩
  · exact ⟨none, 0, rfl, Nat.le_refl _, fun h => absurd h (Nat.lt_irrefl _)⟩
  · refine ⟨some ⟨g, 0, none⟩, cap, rfl, hn, fun _ => ⟨g, 0, rfl, lt_of_heap hg, fun i hi j v hv => ?_⟩⟩
    have hj : j < 12 := (List.getElem?_eq_some_iff.1 hv).1
    have hv := cellsM_get hi hv
    rw [← ht, List.getElem?_take, if_pos (by omega)] at hv
    rw [cell_of_row w g _ cur _ (0, 0) hg, Nat.zero_add]
    simpa using hv
theorem Mk.grown_own {w w' : World} {B C n c k : Nat} {A : Option Addr} {f : Nat → Nat} {v : Value} {R : Nat → Nat → Dy} (h : Mk w 71 B A n c f) (ho : Om w C v k R) (hg : w.grownBy w' v.ownBlock) : Mk w' 71 B A n c f :=
  ⟨h.cap, h.max, h.lt, h.out, by
    rcases h.own with h0 | ⟨b, cs, hA, hB, hh, hs, hc⟩
    · exact .inl h0
    · refine .inr ⟨b, cs, hA, hB, (hg.block b (lt_of_heap hh) ?_).trans hh, hs, hc⟩
      intro e
      rcases ho.own.2 with ⟨e0, _⟩ | ⟨g, cap, cur, e0, _, hm, _⟩
      · rw [e0] at e
        cases e
      · rw [e0] at e
        injection e with e
        have e : b = g := e
        subst e
        rw [hm] at hh
        injection hh with hh
        injection hh with _ ht
        exact absurd ht (by decide)⟩
theorem Twd.grown_own {w w' : World} {B C k : Nat} {d r : Dy} {v : Value} {R : Nat → Nat → Dy} (h : Twd B w d r) (ho : Om w C v k R) (hg : w.grownBy w' v.ownBlock) : Twd B w' d r := ⟨h.lim.grown_own ho hg, h.s, h.n, h.x, h.f⟩
theorem om_below {w w' : World} {B k : Nat} {v : Value} {R : Nat → Nat → Dy} (ho : Om w B v k R) (hg : w.grownBy w' v.ownBlock) (hB : B ≤ w.heap.size) : Below B w w' :=
  ⟨hg.os, hg.tape, hg.output, hg.size, fun j hj => hg.block j (by omega) (fun e => by have := (ho.own.lt j e.symm).1; omega)⟩
theorem infoM : (Tryd.prog.info? 26).map (fun i => (i.zero, i.size, i.bytes)) = some (some (.agg (mcells D0)), 12, 160) := by kernel_rfl
theorem info_partsM {P : Program} {e : TypeId} {z : Option Value} {s b : Nat} (h : (P.info? e).map (fun i => (i.zero, i.size, i.bytes)) = some (z, s, b)) : ∃ i0, P.info? e = some i0 ∧ i0.zero = z ∧ i0.size = s ∧ i0.bytes = b := by
  cases hq : P.info? e with
  | none => rw [hq] at h; cases h
  | some i0 =>
    rw [hq] at h
    injection h with h
    injection h with h1 h2
    injection h2 with h2 h3
    exact ⟨i0, rfl, h1, h2, h3⟩
/-- One more mass. -/
theorem wp_append_mass {ops : Array Oper} {rest : List Oper} {o : Oper} {a : Act} {Q : Exit → Act → World → Prop} {w : World} (hgd : o.guard = none) (s x : Operand)
    (ho : o.op = .call { callee := .builtin .append, args := #[s, x], argTypes := #[45, 45] }) {B k N : Nat} {v : Value} {R : Nat → Nat → Dy} {D : Nat → Dy} (hs : a.eval s = v) (hx : a.eval x = .slice (some ⟨N, 0, none⟩) 1 1)
    (hO : Om w B v k R) (hD : Mbox w N D) (hk : k + 1 ≤ 879609302208) (hB : B ≤ w.heap.size)
    (h : ∀ v' w', Hid (Om w' B v' (k + 1) (fun i => if i = k then D else R i)) → Hid (w.grownBy w' v.ownBlock) → wpList Tryd.prog ops Q rest (a.put o.dst v') w') : wpList Tryd.prog ops Q (o :: rest) a w := by
  obtain ⟨i0, hi0, hz0, hzs, hzb⟩ := info_partsM infoM
  refine wpList_append_own _ hgd s x 45 ho B 26 i0 (.agg (mcells D0)) 12 160 Tryd.underlying45 hi0 hz0 hzs hzb rfl (by decide) v k _ hs hO.own ⟨N, 0, none⟩ 1 1 (mcells D).toList hx rfl (fun j u hu => ?_) (mcells_ones D) (by unfold maxLen; omega) (by omega) hB ?_
  · have hj : j < 12 := (List.getElem?_eq_some_iff.1 hu).1
    rw [Addr.add_lit, cell_of_row w N _ _ _ (0, 0) hD, Nat.zero_add]
    simpa using hu
  · intro v' w' h1 h2 _
    refine h v' w' ⟨?_⟩ h2
    rw [cellsM_succ, if_pos rfl, cellsM_congr (n := k) (S := R) (fun i hi => if_neg (by omega))]
    exact h1
theorem msum_all {w : World} {A : Option Addr} {n c : Nat} {D : Nat → Nat → Dy} {q : Nat → Nat → Prop} {M : Nat → Nat → Int} (h : Mlist w A n D) (hn : n ≤ 140737488355328) (hM : ∀ i, i < n → Mar w (q i) (M i) (D i)) (hT : Tab w) :
    Calls Tryd.prog 21 #[.slice A n c] w (MRes w (SumE n q M) (psum M n)) := by
  rcases Nat.lt_or_ge 4096 n with h0 | h0
  · refine (msum_many h0 hn).mono ?_
    rintro e w' ⟨rfl, hb⟩
    exact ⟨D0, 4, rfl, ⟨fun _ => rfl, fun h => absurd h (by omega), fun h => absurd h (by omega)⟩, (by rw [resM_bad (by decide)]; exact Mow.zero _ _), hb⟩
  · exact msum_any h h0 hM hT
theorem emsum_all {w : World} {A : Option Addr} {n c : Nat} {D : Nat → Nat → Dy} {q : Nat → Nat → Prop} {M : Nat → Nat → Int} (h : Mlist w A n D) (hn : n ≤ 140737488355328) (hM : ∀ i, i < n → Mrr w (q i) (M i) (D i)) :
    Calls Tryd.prog 22 #[.slice A n c] w (EMRes w (SumE n q M) (psum M n)) := by
  rcases Nat.lt_or_ge 4096 n with h0 | h0
  · refine (emsum_many h0 hn).mono ?_
    rintro e w' ⟨rfl, hb⟩
    exact ⟨D0, 4, rfl, ⟨fun _ => rfl, fun h => absurd h (by omega), fun h => absurd h (by omega)⟩, (by rw [resM_bad (by decide)]; exact (mar_zero _).mrr), hb⟩
  · exact emsum_any h h0 hM
theorem SumE.uniq {n : Nat} {q : Nat → Nat → Prop} {M : Nat → Nat → Int} {a b : Int} (h : SumE n q M a) (k : SumE n q M b) : a = b := by
  rcases Nat.lt_or_ge 4096 n with h0 | h0
  · rw [h.1 h0, k.1 h0]
  · by_cases hq : ∀ i, i < n → All4 (q i)
    · rcases h.2.2 h0 hq with ⟨h1, rfl⟩ | ⟨h1, rfl⟩ <;> rcases k.2.2 h0 hq with ⟨k1, rfl⟩ | ⟨k1, rfl⟩
      · rfl
      · exact absurd h1 k1
      · exact absurd k1 h1
      · rfl
    · rw [h.2.1 h0 hq, k.2.1 h0 hq]

set_option maxRecDepth 100000 in
set_option maxHeartbeats 12800000 in
theorem msums_walk {w : World} {A : Option Addr} {n c : Nat} {D : Nat → Nat → Dy} (h : Mls w A n c D) (hT : Tab w) :
    Calls Tryd.prog 4 #[.slice A n c] w fun e w' => e = .returned (.bool true) ∧ Below w.heap.size w w' := by
  have hm := h.max
  have hcap := h.cap
  have HL := hid h.lie
  have HR := hid h.rd
  have HN := hid h.nil
  have HB := hid h.big
  have HTb := hid hT
  clear h hT
  go_enter Tryd.func4, Tryd.ntmps4
  go_wp2
  go_loopg [3] n (fun gg s3 wr => ∃ k : Nat, k ≤ n ∧ k ≤ 40 ∧ n - k ≤ gg ∧ s3 = .int .i64 (k : Int) ∧ Hid (Below w.heap.size w wr))
  case atStart => exact ⟨0, Nat.zero_le _, by omega, by omega, rfl, hid (Below.refl _ _)⟩
  case round =>
    obtain ⟨k, hk, hk40, hg, rfl, RK⟩ := hrel
    by_cases hlt : k < n ∧ k < 40
    case pos =>
      have hltz : (k : Int) < (n : Int) := by omega
      have hltz2 : (k : Int) < 40 := by omega
      obtain ⟨b, off, rfl, hbl, hcs⟩ := HL.out.below RK.out (by omega)
      have HX := hid (hcs k hlt.1)
      have CG := hid (mgreat_any (w := wr) (D := D k) (fun j hj => (HR.out k hlt.1 j hj).max))
      clear hcs hbl
      go_wp2_with (first
        | (with_reducible refine wp_mload_at rfl (.tmp 24) rfl b (off + k * 12) (D k) rfl HX.out ?_)
        | fail)
      refine CG.out.mono ?_
      rintro e w1 ⟨r, rfl, Hr, hb⟩
      have RK1 := hid (RK.out.trans (hb.out.mono RK.out.size))
      clear RK hb CG HX Hr
      cases r with
      | true =>
        go_wp2
        exact ret_bool rfl rfl rfl ⟨rfl, RK1.out⟩
      | false =>
        go_wp2
        go_roundg (n - (k + 1))
        case measure => omega
        case rel => exact ⟨k + 1, by omega, by omega, by omega, by go_num, RK1⟩
    by_cases hmid : 40 < n ∧ n ≤ 4096
    case pos =>
      have h1 : (40 : Int) < (n : Int) := by omega
      have h2 : (n : Int) ≤ 4096 := by omega
      have hc : ((k : Int) < (n : Int) ∧ ¬ (k : Int) < 40) ∨ ¬ (k : Int) < (n : Int) := by omega
      rcases hc with ⟨h3, h4⟩ | h3
      · go_wp2
        exact ret_bool rfl rfl rfl ⟨rfl, RK.out⟩
      · go_wp2
        exact ret_bool rfl rfl rfl ⟨rfl, RK.out⟩
    have hend : ((k : Int) < (n : Int) ∧ ¬ (k : Int) < 40 ∧ (40 : Int) < (n : Int) ∧ ¬ (n : Int) ≤ 4096) ∨ (¬ (k : Int) < (n : Int) ∧ ¬ (40 : Int) < (n : Int)) := by omega
    clear hlt hmid hg hk hk40
    have HQ : ∀ i, i < n → ∃ x : (Nat → Prop) × (Nat → Int), Mar w x.1 x.2 (D i) := fun i hi => by
      obtain ⟨q, M, h⟩ := mar_of (HR.out i hi) (HN.out i hi)
      exact ⟨(q, M), h⟩
    obtain ⟨qM, hqM⟩ := Go.Deep.choose_lt HQ
    have HM := hid hqM
    clear hqM HQ
    rcases hend with ⟨h1, h2, h3, h4⟩ | ⟨h1, h2⟩
    · go_upto_region 9 with fail
      clear h1 h2 h3 h4
      go_wp2
      go_loopg [4, 5] n (fun gg s4 s5 wx => ∃ (j : Nat) (R : Nat → Nat → Dy), j ≤ n ∧ n - j ≤ gg ∧ s5 = .int .i64 (j : Int) ∧ Hid (Om wx w.heap.size s4 j R) ∧ Hid (∀ i, i < j → ∀ x, x < 4 → Twd w.heap.size wx (D i x) (R i x)) ∧ Hid (Below w.heap.size w wx))
      case atStart => exact ⟨0, fun _ => D0, Nat.zero_le _, by omega, rfl, hid (Om.nil _ _ _), hid (fun i hi => absurd hi (Nat.not_lt_zero i)), RK⟩
      case round =>
        clear RK
        obtain ⟨j, R, hj, hg, rfl, HO, HT, RK⟩ := hrel
        by_cases hlt : j < n
        case pos =>
          have hltz : (j : Int) < (n : Int) := by omega
          obtain ⟨b, off, rfl, hbl, hcs⟩ := HL.out.below RK.out (by omega)
          have HX := hid (hcs j hlt)
          have CT := hid (emtwin_big (w := wr) (D := D j) (fun x hx => ((HR.out j hlt x hx).below RK.out).mono RK.out.size) (HN.out j hlt) (HB.out j hlt))
          clear hcs hbl
          obtain ⟨A4, c4, hs4, _, _⟩ := HO.out.form
          go_wp2_with (first
            | (with_reducible refine wp_mload_at rfl (.tmp 44) rfl b (off + j * 12) (D j) rfl HX.out ?_)
            | fail)
          refine CT.out.mono ?_
          rintro e w1 ⟨S, rfl, HS, hb⟩
          have HO1 := hid (HO.out.below hb.out)
          have HT1 := hid (fun i hi x hx => (HT.out i hi x hx).below hb.out)
          have HS1 := hid (fun x hx => (HS.out x hx).mono RK.out.size)
          have RK1 := hid (RK.out.trans (hb.out.mono RK.out.size))
          clear HO HT RK hb CT HX HS
          have HNa : Hid (Mbox (w1.alloc (.cells (mcells S) 26)) w1.heap.size S) := hid (heap_alloc_new w1 _)
          have hba : Hid (Below w1.heap.size w1 (w1.alloc (.cells (mcells S) 26))) := hid ((Below.refl _ w1).alloc (Nat.le_refl _) _)
          have HOa := hid (HO1.out.below hba.out)
          have HTa := hid (fun i hi x hx => (HT1.out i hi x hx).below hba.out)
          have HSa := hid (fun x hx => (HS1.out x hx).below hba.out)
          have RKa := hid (RK1.out.trans (hba.out.mono RK1.out.size))
          clear HO1 HT1 HS1 RK1 hba
          have hj1 : j + 1 ≤ 879609302208 := by omega
          rw [hs4] at HOa
          go_wp2_with (at_builtin; refine wp_append_mass rfl (.tmp 41) (.tmp 47) rfl (B := w.heap.size) (k := j) (N := w1.heap.size) (R := R) (D := S) rfl rfl HOa.out HNa.out hj1 RKa.out.size ?_; intro v4 w4 HO4 HG4)
          go_roundg (n - (j + 1))
          case measure => omega
          case rel => exact ⟨j + 1, fun i => if i = j then S else R i, by omega, by omega, by go_num, HO4, hid (fun i hi x hx => by
            by_cases e : i = j
            · subst e
              dsimp only
              rw [if_pos rfl]
              exact (HSa.out x hx).grown_own HOa.out HG4.out
            · dsimp only
              rw [if_neg e]
              exact (HTa.out i (by omega) x hx).grown_own HOa.out HG4.out), hid (RKa.out.trans (om_below HOa.out HG4.out RKa.out.size))⟩
        have hltz : ¬ (j : Int) < (n : Int) := by omega
        obtain rfl : j = n := by omega
        clear hlt hg
        obtain ⟨A4, c4, rfl, hc4, hl4⟩ := HO.out.form
        have HLo := hid hl4
        clear hl4
        obtain ⟨wo, hwo⟩ : ∃ wo, wo = wr := ⟨_, rfl⟩
        rw [← hwo] at HO HT RK HLo ⊢
        clear hwo
        have HMo := hid (fun i hi => show Mar wo (qM i).1 (qM i).2 (R i) from fun x hx => (HT.out i hi x hx).read (HM.out i hi x hx))
        have HTbo := hid (HTb.out.below RK.out HTb.out.lt)
        have CS := hid (msum_all (c := c4) HLo.out (by omega) HMo.out HTbo.out)
        go_wp2_with fail
        refine CS.out.mono ?_
        rintro e y1 ⟨Da, er, rfl, HE, HV, hb⟩
        have Sw1 : Hid (∀ k, k < 4 → Sw wo.heap.size y1.heap.size y1 (Da k)) := hid (fun k hk => (HV.out k hk).sw (HV.out k hk).ahead)
        have KB := hid hb.out
        have Hs1 := hid hb.out.size
        clear hb CS
        have Hs2 := hid (Nat.le_refl y1.heap.size)
        have F_P6 := hid (fresh_mass y1)
        go_upto_region 14 with (first
          | (with_reducible refine wp_mstore rfl (.tmp 6) (.tmp 52) rfl y1.heap.size D0 Da rfl rfl F_P6.out ?_)
          | fail)
        obtain ⟨Y1, hY1⟩ : ∃ W, W = mstore (y1.alloc (.cells #[.bool false, .slice none 0 0, .int .i64 0, .bool false, .slice none 0 0, .int .i64 0, .bool false, .slice none 0 0, .int .i64 0, .bool false, .slice none 0 0, .int .i64 0] 26)) y1.heap.size Da := ⟨_, rfl⟩
        rw [← hY1]
        have P6 : Hid (Mbox Y1 y1.heap.size Da) := hid (hY1 ▸ (new_mass y1 Da).1)
        have hn : Hid (Below y1.heap.size y1 Y1) := hid (hY1 ▸ (new_mass y1 Da).2)
        clear hY1 F_P6
        replace KB := hid (KB.out.trans (hn.out.mono KB.out.size))
        replace HV := hid (HV.out.below hn.out)
        replace Sw1 := hid (fun k hk => (Sw1.out k hk).below hn.out)
        replace Hs2 := hid (Nat.le_trans Hs2.out hn.out.size)
        clear hn
        have CR := hid (emsum_all (w := Y1) (c := c) (HL.out.below (RK.out.trans (KB.out.mono RK.out.size))) (by omega) (fun i hi => ((HM.out i hi).mrr).below (RK.out.trans (KB.out.mono RK.out.size))))
        go_wp2_with fail
        refine CR.out.mono ?_
        rintro e y2 ⟨Db, es, rfl, HE2, HV2, hb⟩
        replace KB := hid (KB.out.trans (hb.out.mono KB.out.size))
        replace HV := hid (HV.out.below hb.out)
        replace P6 := hid (P6.out.below hb.out P6.out.lt)
        replace Sw1 := hid (fun k hk => (Sw1.out k hk).below hb.out)
        replace Hs2 := hid (Nat.le_trans Hs2.out hb.out.size)
        obtain rfl : es = er := HE2.out.uniq HE.out
        clear hb CR HE HE2
        have F_P8 := hid (fresh_mass y2)
        go_upto_region 15 with (first
          | (with_reducible refine wp_mstore rfl (.tmp 8) (.tmp 57) rfl y2.heap.size D0 Db rfl rfl F_P8.out ?_)
          | (with_reducible refine wp_mload rfl (.tmp 6) rfl y1.heap.size Da rfl P6.out ?_)
          | (with_reducible refine wp_mload_g (by kernel_rfl) (.tmp 6) rfl y1.heap.size Da rfl P6.out ?_)
          | fail)
        obtain ⟨Y2, hY2⟩ : ∃ W, W = mstore (y2.alloc (.cells #[.bool false, .slice none 0 0, .int .i64 0, .bool false, .slice none 0 0, .int .i64 0, .bool false, .slice none 0 0, .int .i64 0, .bool false, .slice none 0 0, .int .i64 0] 26)) y2.heap.size Db := ⟨_, rfl⟩
        rw [← hY2]
        have P8 : Hid (Mbox Y2 y2.heap.size Db) := hid (hY2 ▸ (new_mass y2 Db).1)
        have hn : Hid (Below y2.heap.size y2 Y2) := hid (hY2 ▸ (new_mass y2 Db).2)
        clear hY2 F_P8
        replace KB := hid (KB.out.trans (hn.out.mono KB.out.size))
        replace HV := hid (HV.out.below hn.out)
        replace P6 := hid (P6.out.below hn.out P6.out.lt)
        replace HV2 := hid (HV2.out.below hn.out)
        replace Sw1 := hid (fun k hk => (Sw1.out k hk).below hn.out)
        replace Hs2 := hid (Nat.le_trans Hs2.out hn.out.size)
        clear hn
        go_wp2_with (first
          | (with_reducible refine wp_mload rfl (.tmp 6) rfl y1.heap.size Da rfl P6.out ?_)
          | (with_reducible refine wp_mload rfl (.tmp 8) rfl y2.heap.size Db rfl P8.out ?_)
          | (with_reducible refine wp_mload_g (by kernel_rfl) (.tmp 6) rfl y1.heap.size Da rfl P6.out ?_)
          | (with_reducible refine wp_mload_g (by kernel_rfl) (.tmp 8) rfl y2.heap.size Db rfl P8.out ?_)
          | fail)
        refine (emsame_true HV.out.mar.mrr HV2.out (fun _ _ => trivial) (fun _ _ => trivial) (fun _ _ => rfl)).mono ?_
        rintro e y3 ⟨rfl, hb⟩
        replace KB := hid (KB.out.trans (hb.out.mono KB.out.size))
        replace HV := hid (HV.out.below hb.out)
        replace P6 := hid (P6.out.below hb.out P6.out.lt)
        replace HV2 := hid (HV2.out.below hb.out)
        replace P8 := hid (P8.out.below hb.out P8.out.lt)
        replace Sw1 := hid (fun k hk => (Sw1.out k hk).below hb.out)
        replace Hs2 := hid (Nat.le_trans Hs2.out hb.out.size)
        clear hb
        clear HV2 P8
        go_wp2_with (first
          | (with_reducible refine wp_mload rfl (.tmp 6) rfl y1.heap.size Da rfl P6.out ?_)
          | (with_reducible refine wp_mload_g (by kernel_rfl) (.tmp 6) rfl y1.heap.size Da rfl P6.out ?_)
          | fail)
        refine (mspoil_any Sw1.out Hs1.out Hs2.out).mono ?_
        rintro e y4 ⟨rfl, ho⟩
        replace KB := hid (KB.out.trans (ho.out.1))
        clear ho Sw1 Hs1 Hs2 HV P6
        have HMA := hid (fun X (hb : Below wo.heap.size wo X) => show Mlist X A4 j R from HLo.out.below hb)
        have HMB := hid (fun X (hb : Below wo.heap.size wo X) => show Mlist X A j D from HL.out.below (RK.out.trans (hb.mono RK.out.size)))
        have HS := hid (fun X (hb : Below wo.heap.size wo X) (i : Nat) (hi : i < j) => emsame_twin (w := X) (fun x hx => ((HR.out i hi x hx).below (RK.out.trans (hb.mono RK.out.size))).mono (Nat.le_trans RK.out.size hb.size)) (HT.out i hi) ((HMo.out i hi).below hb).mrd)
        clear HMo HM HN HB HTb HTbo HLo HO
        go_wp2
        go_loopg [11] j (fun gg s11 wx => ∃ i : Nat, i ≤ j ∧ j - i ≤ gg ∧ s11 = .int .i64 (i : Int) ∧ Hid (Below wo.heap.size wo wx))
        case atStart => exact ⟨0, Nat.zero_le _, by omega, rfl, KB⟩
        case round =>
          obtain ⟨i, hi, hg, rfl, KX⟩ := hrel
          clear KB
          by_cases hlt : i < j
          case neg =>
            have hltz : ¬ (i : Int) < (j : Int) := by omega
            obtain rfl : i = j := by omega
            go_wp2
            exact ret_bool rfl rfl rfl ⟨rfl, RK.out.trans (KX.out.mono RK.out.size)⟩
          have hltz : (i : Int) < (j : Int) := by omega
          obtain ⟨b, off, rfl, hbl, hcs⟩ := HMA.out _ KX.out (by omega)
          obtain ⟨b2, off2, rfl, hbl2, hcs2⟩ := HMB.out _ KX.out (by omega)
          have HX := hid (And.intro hbl (And.intro hbl2 (And.intro (hcs i hlt) (hcs2 i hlt))))
          clear hcs hcs2 hbl hbl2
          go_upto_region 20 with fail
          have CF : Hid (∀ X, Below wr.heap.size wr X → (X.rangeAt b (off + i * 12) (mcells (R i)).toList ∧ X.rangeAt b2 (off2 + i * 12) (mcells (D i)).toList)) := hid fun X hb => ⟨fun t v hv => (hb.cell (p := ⟨b, off + i * 12 + t, none⟩) HX.out.1).trans (HX.out.2.2.1 t v hv), fun t v hv => (hb.cell (p := ⟨b2, off2 + i * 12 + t, none⟩) HX.out.2.1).trans (HX.out.2.2.2 t v hv)⟩
          have BX : Hid (Below wr.heap.size wr wr.drew) := hid (Below.refl wr.heap.size wr).drew
          refine wp_region_held_drew (S := fun X => X.rangeAt b (off + i * 12) (mcells (R i)).toList ∧ X.rangeAt b2 (off2 + i * 12) (mcells (D i)).toList) (by kernel_rfl) (CF.out _ BX.out) (fun hHeld => ?_)
          generalize wr.drew = V at *
          refine wpAnyH_take (i := 0) (v := ?v1) rfl (by kernel_rfl) (by kernel_rfl) (by kernel_rfl) (fun _ _ _ h => h) (Or.inl ⟨by rfl, ?y1⟩) (by assumption) ?r1
          case y1 => (intro w0 hSw; (try dsimp only at hSw); (try simp only [List.getElem_toArray, List.getElem_cons_zero]); go_simp; try with_reducible rfl)
          (try simp only [Act.put, List.setIfInBounds_toArray, List.set_cons_zero, List.set_cons_succ, List.getElem_toArray, List.getElem_cons_zero])
          refine wpAnyH_take (i := 1) (v := ?v2) rfl (by kernel_rfl) (by kernel_rfl) (by kernel_rfl) (fun _ _ _ h => h) (Or.inl ⟨by rfl, ?y2⟩) (by assumption) ?r2
          case y2 => (intro w0 hSw; (try dsimp only at hSw); (try simp only [List.getElem_toArray, List.getElem_cons_succ, List.getElem_cons_zero]); go_simp; try with_reducible rfl)
          (try simp only [Act.put, List.setIfInBounds_toArray, List.set_cons_zero, List.set_cons_succ, List.getElem_toArray, List.getElem_cons_succ, List.getElem_cons_zero])
          refine wpAnyH_take (i := 2) (v := ?v3) rfl (by kernel_rfl) (by kernel_rfl) (by kernel_rfl) (fun _ _ _ h => h) (Or.inl ⟨by rfl, ?y3⟩) (by assumption) ?r3
          case y3 => (intro w0 hSw; (try dsimp only at hSw); (try simp only [List.getElem_toArray, List.getElem_cons_succ, List.getElem_cons_zero]); go_simp; try with_reducible rfl)
          (try simp only [Act.put, List.setIfInBounds_toArray, List.set_cons_zero, List.set_cons_succ, List.getElem_toArray, List.getElem_cons_succ, List.getElem_cons_zero])
          refine wpAnyH_take (i := 3) rfl (by kernel_rfl) (by kernel_rfl) (by kernel_rfl) (fun _ _ _ h => h) (yields_mload_at (by rfl) (.tmp 77) rfl b (off + i * 12) (R i) rfl (fun X hX => hX.1)) hHeld ?_
          (try simp only [Act.put, List.setIfInBounds_toArray, List.set_cons_zero, List.set_cons_succ, List.getElem_toArray, List.getElem_cons_succ, List.getElem_cons_zero])
          refine wpAnyH_take (i := 4) (v := ?v4) rfl (by kernel_rfl) (by kernel_rfl) (by kernel_rfl) (fun _ _ _ h => h) (Or.inl ⟨by rfl, ?y4⟩) (by assumption) ?r4
          case y4 => (intro w0 hSw; (try dsimp only at hSw); (try simp only [List.getElem_toArray, List.getElem_cons_succ, List.getElem_cons_zero]); go_simp; try with_reducible rfl)
          (try simp only [Act.put, List.setIfInBounds_toArray, List.set_cons_zero, List.set_cons_succ, List.getElem_toArray, List.getElem_cons_succ, List.getElem_cons_zero])
          refine wpAnyH_take (i := 5) (v := ?v5) rfl (by kernel_rfl) (by kernel_rfl) (by kernel_rfl) (fun _ _ _ h => h) (Or.inl ⟨by rfl, ?y5⟩) (by assumption) ?r5
          case y5 => (intro w0 hSw; (try dsimp only at hSw); (try simp only [List.getElem_toArray, List.getElem_cons_succ, List.getElem_cons_zero]); go_simp; try with_reducible rfl)
          (try simp only [Act.put, List.setIfInBounds_toArray, List.set_cons_zero, List.set_cons_succ, List.getElem_toArray, List.getElem_cons_succ, List.getElem_cons_zero])
          refine wpAnyH_take (i := 6) (v := ?v6) rfl (by kernel_rfl) (by kernel_rfl) (by kernel_rfl) (fun _ _ _ h => h) (Or.inl ⟨by rfl, ?y6⟩) (by assumption) ?r6
          case y6 => (intro w0 hSw; (try dsimp only at hSw); (try simp only [List.getElem_toArray, List.getElem_cons_succ, List.getElem_cons_zero]); go_simp; try with_reducible rfl)
          (try simp only [Act.put, List.setIfInBounds_toArray, List.set_cons_zero, List.set_cons_succ, List.getElem_toArray, List.getElem_cons_succ, List.getElem_cons_zero])
          refine wpAnyH_take (i := 7) rfl (by kernel_rfl) (by kernel_rfl) (by kernel_rfl) (fun _ _ _ h => h) (yields_mload_at (by rfl) (.tmp 81) rfl b2 (off2 + i * 12) (D i) rfl (fun X hX => hX.2)) hHeld ?_
          (try simp only [Act.put, List.setIfInBounds_toArray, List.set_cons_zero, List.set_cons_succ, List.getElem_toArray, List.getElem_cons_succ, List.getElem_cons_zero])
          refine wpAnyH_ready (rs := [8]) (by kernel_rfl) (by simp) ?_
          refine AllReadyH.cons rfl (fun K' hK => ?_) AllReadyH.nil
          (try simp only [Act.put, List.setIfInBounds_toArray, List.set_cons_zero, List.set_cons_succ, List.getElem_toArray, List.getElem_cons_succ, List.getElem_cons_zero])
          go_simp
          refine (HS.out _ (KX.out.trans (BX.out.mono KX.out.size)) i hlt).mono ?_
          rintro e v1 ⟨rfl, hb⟩
          replace BX := hid (BX.out.trans (hb.out.mono BX.out.size))
          try dsimp only
          refine hK.out _ _ (CF.out _ BX.out) (fun hHeld => ?_)
          clear hK K' hb
          (try simp only [Act.put, List.setIfInBounds_toArray, List.set_cons_zero, List.set_cons_succ, List.getElem_toArray, List.getElem_cons_succ, List.getElem_cons_zero])
          refine wpAnyH_take (i := 9) (v := ?v7) rfl (by kernel_rfl) (by kernel_rfl) (by kernel_rfl) (fun _ _ _ h => h) (Or.inl ⟨by rfl, ?y7⟩) (by assumption) ?r7
          case y7 => (intro w0 hSw; (try dsimp only at hSw); (try simp only [List.getElem_toArray, List.getElem_cons_succ, List.getElem_cons_zero]); go_simp; try with_reducible rfl)
          (try simp only [Act.put, List.setIfInBounds_toArray, List.set_cons_zero, List.set_cons_succ, List.getElem_toArray, List.getElem_cons_succ, List.getElem_cons_zero])
          refine wpAnyH_done (by kernel_rfl) ?_ _
          go_wp2
          go_roundg (j - (i + 1))
          case measure => omega
          case rel => exact ⟨i + 1, by omega, by omega, by go_num, hid (KX.out.trans (BX.out.mono KX.out.size))⟩
    · go_upto_region 9 with fail
      clear h1 h2
      go_wp2
      go_loopg [4, 5] n (fun gg s4 s5 wx => ∃ (j : Nat) (R : Nat → Nat → Dy), j ≤ n ∧ n - j ≤ gg ∧ s5 = .int .i64 (j : Int) ∧ Hid (Om wx w.heap.size s4 j R) ∧ Hid (∀ i, i < j → ∀ x, x < 4 → Twd w.heap.size wx (D i x) (R i x)) ∧ Hid (Below w.heap.size w wx))
      case atStart => exact ⟨0, fun _ => D0, Nat.zero_le _, by omega, rfl, hid (Om.nil _ _ _), hid (fun i hi => absurd hi (Nat.not_lt_zero i)), RK⟩
      case round =>
        clear RK
        obtain ⟨j, R, hj, hg, rfl, HO, HT, RK⟩ := hrel
        by_cases hlt : j < n
        case pos =>
          have hltz : (j : Int) < (n : Int) := by omega
          obtain ⟨b, off, rfl, hbl, hcs⟩ := HL.out.below RK.out (by omega)
          have HX := hid (hcs j hlt)
          have CT := hid (emtwin_big (w := wr) (D := D j) (fun x hx => ((HR.out j hlt x hx).below RK.out).mono RK.out.size) (HN.out j hlt) (HB.out j hlt))
          clear hcs hbl
          obtain ⟨A4, c4, hs4, _, _⟩ := HO.out.form
          go_wp2_with (first
            | (with_reducible refine wp_mload_at rfl (.tmp 44) rfl b (off + j * 12) (D j) rfl HX.out ?_)
            | fail)
          refine CT.out.mono ?_
          rintro e w1 ⟨S, rfl, HS, hb⟩
          have HO1 := hid (HO.out.below hb.out)
          have HT1 := hid (fun i hi x hx => (HT.out i hi x hx).below hb.out)
          have HS1 := hid (fun x hx => (HS.out x hx).mono RK.out.size)
          have RK1 := hid (RK.out.trans (hb.out.mono RK.out.size))
          clear HO HT RK hb CT HX HS
          have HNa : Hid (Mbox (w1.alloc (.cells (mcells S) 26)) w1.heap.size S) := hid (heap_alloc_new w1 _)
          have hba : Hid (Below w1.heap.size w1 (w1.alloc (.cells (mcells S) 26))) := hid ((Below.refl _ w1).alloc (Nat.le_refl _) _)
          have HOa := hid (HO1.out.below hba.out)
          have HTa := hid (fun i hi x hx => (HT1.out i hi x hx).below hba.out)
          have HSa := hid (fun x hx => (HS1.out x hx).below hba.out)
          have RKa := hid (RK1.out.trans (hba.out.mono RK1.out.size))
          clear HO1 HT1 HS1 RK1 hba
          have hj1 : j + 1 ≤ 879609302208 := by omega
          rw [hs4] at HOa
          go_wp2_with (at_builtin; refine wp_append_mass rfl (.tmp 41) (.tmp 47) rfl (B := w.heap.size) (k := j) (N := w1.heap.size) (R := R) (D := S) rfl rfl HOa.out HNa.out hj1 RKa.out.size ?_; intro v4 w4 HO4 HG4)
          go_roundg (n - (j + 1))
          case measure => omega
          case rel => exact ⟨j + 1, fun i => if i = j then S else R i, by omega, by omega, by go_num, HO4, hid (fun i hi x hx => by
            by_cases e : i = j
            · subst e
              dsimp only
              rw [if_pos rfl]
              exact (HSa.out x hx).grown_own HOa.out HG4.out
            · dsimp only
              rw [if_neg e]
              exact (HTa.out i (by omega) x hx).grown_own HOa.out HG4.out), hid (RKa.out.trans (om_below HOa.out HG4.out RKa.out.size))⟩
        have hltz : ¬ (j : Int) < (n : Int) := by omega
        obtain rfl : j = n := by omega
        clear hlt hg
        obtain ⟨A4, c4, rfl, hc4, hl4⟩ := HO.out.form
        have HLo := hid hl4
        clear hl4
        obtain ⟨wo, hwo⟩ : ∃ wo, wo = wr := ⟨_, rfl⟩
        rw [← hwo] at HO HT RK HLo ⊢
        clear hwo
        have HMo := hid (fun i hi => show Mar wo (qM i).1 (qM i).2 (R i) from fun x hx => (HT.out i hi x hx).read (HM.out i hi x hx))
        have HTbo := hid (HTb.out.below RK.out HTb.out.lt)
        have CS := hid (msum_all (c := c4) HLo.out (by omega) HMo.out HTbo.out)
        go_wp2_with fail
        refine CS.out.mono ?_
        rintro e y1 ⟨Da, er, rfl, HE, HV, hb⟩
        have Sw1 : Hid (∀ k, k < 4 → Sw wo.heap.size y1.heap.size y1 (Da k)) := hid (fun k hk => (HV.out k hk).sw (HV.out k hk).ahead)
        have KB := hid hb.out
        have Hs1 := hid hb.out.size
        clear hb CS
        have Hs2 := hid (Nat.le_refl y1.heap.size)
        have F_P6 := hid (fresh_mass y1)
        go_upto_region 14 with (first
          | (with_reducible refine wp_mstore rfl (.tmp 6) (.tmp 52) rfl y1.heap.size D0 Da rfl rfl F_P6.out ?_)
          | fail)
        obtain ⟨Y1, hY1⟩ : ∃ W, W = mstore (y1.alloc (.cells #[.bool false, .slice none 0 0, .int .i64 0, .bool false, .slice none 0 0, .int .i64 0, .bool false, .slice none 0 0, .int .i64 0, .bool false, .slice none 0 0, .int .i64 0] 26)) y1.heap.size Da := ⟨_, rfl⟩
        rw [← hY1]
        have P6 : Hid (Mbox Y1 y1.heap.size Da) := hid (hY1 ▸ (new_mass y1 Da).1)
        have hn : Hid (Below y1.heap.size y1 Y1) := hid (hY1 ▸ (new_mass y1 Da).2)
        clear hY1 F_P6
        replace KB := hid (KB.out.trans (hn.out.mono KB.out.size))
        replace HV := hid (HV.out.below hn.out)
        replace Sw1 := hid (fun k hk => (Sw1.out k hk).below hn.out)
        replace Hs2 := hid (Nat.le_trans Hs2.out hn.out.size)
        clear hn
        have CR := hid (emsum_all (w := Y1) (c := c) (HL.out.below (RK.out.trans (KB.out.mono RK.out.size))) (by omega) (fun i hi => ((HM.out i hi).mrr).below (RK.out.trans (KB.out.mono RK.out.size))))
        go_wp2_with fail
        refine CR.out.mono ?_
        rintro e y2 ⟨Db, es, rfl, HE2, HV2, hb⟩
        replace KB := hid (KB.out.trans (hb.out.mono KB.out.size))
        replace HV := hid (HV.out.below hb.out)
        replace P6 := hid (P6.out.below hb.out P6.out.lt)
        replace Sw1 := hid (fun k hk => (Sw1.out k hk).below hb.out)
        replace Hs2 := hid (Nat.le_trans Hs2.out hb.out.size)
        obtain rfl : es = er := HE2.out.uniq HE.out
        clear hb CR HE HE2
        have F_P8 := hid (fresh_mass y2)
        go_upto_region 15 with (first
          | (with_reducible refine wp_mstore rfl (.tmp 8) (.tmp 57) rfl y2.heap.size D0 Db rfl rfl F_P8.out ?_)
          | (with_reducible refine wp_mload rfl (.tmp 6) rfl y1.heap.size Da rfl P6.out ?_)
          | (with_reducible refine wp_mload_g (by kernel_rfl) (.tmp 6) rfl y1.heap.size Da rfl P6.out ?_)
          | fail)
        obtain ⟨Y2, hY2⟩ : ∃ W, W = mstore (y2.alloc (.cells #[.bool false, .slice none 0 0, .int .i64 0, .bool false, .slice none 0 0, .int .i64 0, .bool false, .slice none 0 0, .int .i64 0, .bool false, .slice none 0 0, .int .i64 0] 26)) y2.heap.size Db := ⟨_, rfl⟩
        rw [← hY2]
        have P8 : Hid (Mbox Y2 y2.heap.size Db) := hid (hY2 ▸ (new_mass y2 Db).1)
        have hn : Hid (Below y2.heap.size y2 Y2) := hid (hY2 ▸ (new_mass y2 Db).2)
        clear hY2 F_P8
        replace KB := hid (KB.out.trans (hn.out.mono KB.out.size))
        replace HV := hid (HV.out.below hn.out)
        replace P6 := hid (P6.out.below hn.out P6.out.lt)
        replace HV2 := hid (HV2.out.below hn.out)
        replace Sw1 := hid (fun k hk => (Sw1.out k hk).below hn.out)
        replace Hs2 := hid (Nat.le_trans Hs2.out hn.out.size)
        clear hn
        go_wp2_with (first
          | (with_reducible refine wp_mload rfl (.tmp 6) rfl y1.heap.size Da rfl P6.out ?_)
          | (with_reducible refine wp_mload rfl (.tmp 8) rfl y2.heap.size Db rfl P8.out ?_)
          | (with_reducible refine wp_mload_g (by kernel_rfl) (.tmp 6) rfl y1.heap.size Da rfl P6.out ?_)
          | (with_reducible refine wp_mload_g (by kernel_rfl) (.tmp 8) rfl y2.heap.size Db rfl P8.out ?_)
          | fail)
        refine (emsame_true HV.out.mar.mrr HV2.out (fun _ _ => trivial) (fun _ _ => trivial) (fun _ _ => rfl)).mono ?_
        rintro e y3 ⟨rfl, hb⟩
        replace KB := hid (KB.out.trans (hb.out.mono KB.out.size))
        replace HV := hid (HV.out.below hb.out)
        replace P6 := hid (P6.out.below hb.out P6.out.lt)
        replace HV2 := hid (HV2.out.below hb.out)
        replace P8 := hid (P8.out.below hb.out P8.out.lt)
        replace Sw1 := hid (fun k hk => (Sw1.out k hk).below hb.out)
        replace Hs2 := hid (Nat.le_trans Hs2.out hb.out.size)
        clear hb
        clear HV2 P8
        go_wp2_with (first
          | (with_reducible refine wp_mload rfl (.tmp 6) rfl y1.heap.size Da rfl P6.out ?_)
          | (with_reducible refine wp_mload_g (by kernel_rfl) (.tmp 6) rfl y1.heap.size Da rfl P6.out ?_)
          | fail)
        refine (mspoil_any Sw1.out Hs1.out Hs2.out).mono ?_
        rintro e y4 ⟨rfl, ho⟩
        replace KB := hid (KB.out.trans (ho.out.1))
        clear ho Sw1 Hs1 Hs2 HV P6
        have HMA := hid (fun X (hb : Below wo.heap.size wo X) => show Mlist X A4 j R from HLo.out.below hb)
        have HMB := hid (fun X (hb : Below wo.heap.size wo X) => show Mlist X A j D from HL.out.below (RK.out.trans (hb.mono RK.out.size)))
        have HS := hid (fun X (hb : Below wo.heap.size wo X) (i : Nat) (hi : i < j) => emsame_twin (w := X) (fun x hx => ((HR.out i hi x hx).below (RK.out.trans (hb.mono RK.out.size))).mono (Nat.le_trans RK.out.size hb.size)) (HT.out i hi) ((HMo.out i hi).below hb).mrd)
        clear HMo HM HN HB HTb HTbo HLo HO
        go_wp2
        go_loopg [11] j (fun gg s11 wx => ∃ i : Nat, i ≤ j ∧ j - i ≤ gg ∧ s11 = .int .i64 (i : Int) ∧ Hid (Below wo.heap.size wo wx))
        case atStart => exact ⟨0, Nat.zero_le _, by omega, rfl, KB⟩
        case round =>
          obtain ⟨i, hi, hg, rfl, KX⟩ := hrel
          clear KB
          by_cases hlt : i < j
          case neg =>
            have hltz : ¬ (i : Int) < (j : Int) := by omega
            obtain rfl : i = j := by omega
            go_wp2
            exact ret_bool rfl rfl rfl ⟨rfl, RK.out.trans (KX.out.mono RK.out.size)⟩
          have hltz : (i : Int) < (j : Int) := by omega
          obtain ⟨b, off, rfl, hbl, hcs⟩ := HMA.out _ KX.out (by omega)
          obtain ⟨b2, off2, rfl, hbl2, hcs2⟩ := HMB.out _ KX.out (by omega)
          have HX := hid (And.intro hbl (And.intro hbl2 (And.intro (hcs i hlt) (hcs2 i hlt))))
          clear hcs hcs2 hbl hbl2
          go_upto_region 20 with fail
          have CF : Hid (∀ X, Below wr.heap.size wr X → (X.rangeAt b (off + i * 12) (mcells (R i)).toList ∧ X.rangeAt b2 (off2 + i * 12) (mcells (D i)).toList)) := hid fun X hb => ⟨fun t v hv => (hb.cell (p := ⟨b, off + i * 12 + t, none⟩) HX.out.1).trans (HX.out.2.2.1 t v hv), fun t v hv => (hb.cell (p := ⟨b2, off2 + i * 12 + t, none⟩) HX.out.2.1).trans (HX.out.2.2.2 t v hv)⟩
          have BX : Hid (Below wr.heap.size wr wr.drew) := hid (Below.refl wr.heap.size wr).drew
          refine wp_region_held_drew (S := fun X => X.rangeAt b (off + i * 12) (mcells (R i)).toList ∧ X.rangeAt b2 (off2 + i * 12) (mcells (D i)).toList) (by kernel_rfl) (CF.out _ BX.out) (fun hHeld => ?_)
          generalize wr.drew = V at *
          refine wpAnyH_take (i := 0) (v := ?v501) rfl (by kernel_rfl) (by kernel_rfl) (by kernel_rfl) (fun _ _ _ h => h) (Or.inl ⟨by rfl, ?y501⟩) (by assumption) ?r501
          case y501 => (intro w0 hSw; (try dsimp only at hSw); (try simp only [List.getElem_toArray, List.getElem_cons_zero]); go_simp; try with_reducible rfl)
          (try simp only [Act.put, List.setIfInBounds_toArray, List.set_cons_zero, List.set_cons_succ, List.getElem_toArray, List.getElem_cons_zero])
          refine wpAnyH_take (i := 1) (v := ?v502) rfl (by kernel_rfl) (by kernel_rfl) (by kernel_rfl) (fun _ _ _ h => h) (Or.inl ⟨by rfl, ?y502⟩) (by assumption) ?r502
          case y502 => (intro w0 hSw; (try dsimp only at hSw); (try simp only [List.getElem_toArray, List.getElem_cons_succ, List.getElem_cons_zero]); go_simp; try with_reducible rfl)
          (try simp only [Act.put, List.setIfInBounds_toArray, List.set_cons_zero, List.set_cons_succ, List.getElem_toArray, List.getElem_cons_succ, List.getElem_cons_zero])
          refine wpAnyH_take (i := 2) (v := ?v503) rfl (by kernel_rfl) (by kernel_rfl) (by kernel_rfl) (fun _ _ _ h => h) (Or.inl ⟨by rfl, ?y503⟩) (by assumption) ?r503
          case y503 => (intro w0 hSw; (try dsimp only at hSw); (try simp only [List.getElem_toArray, List.getElem_cons_succ, List.getElem_cons_zero]); go_simp; try with_reducible rfl)
          (try simp only [Act.put, List.setIfInBounds_toArray, List.set_cons_zero, List.set_cons_succ, List.getElem_toArray, List.getElem_cons_succ, List.getElem_cons_zero])
          refine wpAnyH_take (i := 3) rfl (by kernel_rfl) (by kernel_rfl) (by kernel_rfl) (fun _ _ _ h => h) (yields_mload_at (by rfl) (.tmp 77) rfl b (off + i * 12) (R i) rfl (fun X hX => hX.1)) hHeld ?_
          (try simp only [Act.put, List.setIfInBounds_toArray, List.set_cons_zero, List.set_cons_succ, List.getElem_toArray, List.getElem_cons_succ, List.getElem_cons_zero])
          refine wpAnyH_take (i := 4) (v := ?v504) rfl (by kernel_rfl) (by kernel_rfl) (by kernel_rfl) (fun _ _ _ h => h) (Or.inl ⟨by rfl, ?y504⟩) (by assumption) ?r504
          case y504 => (intro w0 hSw; (try dsimp only at hSw); (try simp only [List.getElem_toArray, List.getElem_cons_succ, List.getElem_cons_zero]); go_simp; try with_reducible rfl)
          (try simp only [Act.put, List.setIfInBounds_toArray, List.set_cons_zero, List.set_cons_succ, List.getElem_toArray, List.getElem_cons_succ, List.getElem_cons_zero])
          refine wpAnyH_take (i := 5) (v := ?v505) rfl (by kernel_rfl) (by kernel_rfl) (by kernel_rfl) (fun _ _ _ h => h) (Or.inl ⟨by rfl, ?y505⟩) (by assumption) ?r505
          case y505 => (intro w0 hSw; (try dsimp only at hSw); (try simp only [List.getElem_toArray, List.getElem_cons_succ, List.getElem_cons_zero]); go_simp; try with_reducible rfl)
          (try simp only [Act.put, List.setIfInBounds_toArray, List.set_cons_zero, List.set_cons_succ, List.getElem_toArray, List.getElem_cons_succ, List.getElem_cons_zero])
          refine wpAnyH_take (i := 6) (v := ?v506) rfl (by kernel_rfl) (by kernel_rfl) (by kernel_rfl) (fun _ _ _ h => h) (Or.inl ⟨by rfl, ?y506⟩) (by assumption) ?r506
          case y506 => (intro w0 hSw; (try dsimp only at hSw); (try simp only [List.getElem_toArray, List.getElem_cons_succ, List.getElem_cons_zero]); go_simp; try with_reducible rfl)
          (try simp only [Act.put, List.setIfInBounds_toArray, List.set_cons_zero, List.set_cons_succ, List.getElem_toArray, List.getElem_cons_succ, List.getElem_cons_zero])
          refine wpAnyH_take (i := 7) rfl (by kernel_rfl) (by kernel_rfl) (by kernel_rfl) (fun _ _ _ h => h) (yields_mload_at (by rfl) (.tmp 81) rfl b2 (off2 + i * 12) (D i) rfl (fun X hX => hX.2)) hHeld ?_
          (try simp only [Act.put, List.setIfInBounds_toArray, List.set_cons_zero, List.set_cons_succ, List.getElem_toArray, List.getElem_cons_succ, List.getElem_cons_zero])
          refine wpAnyH_ready (rs := [8]) (by kernel_rfl) (by simp) ?_
          refine AllReadyH.cons rfl (fun K' hK => ?_) AllReadyH.nil
          (try simp only [Act.put, List.setIfInBounds_toArray, List.set_cons_zero, List.set_cons_succ, List.getElem_toArray, List.getElem_cons_succ, List.getElem_cons_zero])
          go_simp
          refine (HS.out _ (KX.out.trans (BX.out.mono KX.out.size)) i hlt).mono ?_
          rintro e v1 ⟨rfl, hb⟩
          replace BX := hid (BX.out.trans (hb.out.mono BX.out.size))
          try dsimp only
          refine hK.out _ _ (CF.out _ BX.out) (fun hHeld => ?_)
          clear hK K' hb
          (try simp only [Act.put, List.setIfInBounds_toArray, List.set_cons_zero, List.set_cons_succ, List.getElem_toArray, List.getElem_cons_succ, List.getElem_cons_zero])
          refine wpAnyH_take (i := 9) (v := ?v507) rfl (by kernel_rfl) (by kernel_rfl) (by kernel_rfl) (fun _ _ _ h => h) (Or.inl ⟨by rfl, ?y507⟩) (by assumption) ?r507
          case y507 => (intro w0 hSw; (try dsimp only at hSw); (try simp only [List.getElem_toArray, List.getElem_cons_succ, List.getElem_cons_zero]); go_simp; try with_reducible rfl)
          (try simp only [Act.put, List.setIfInBounds_toArray, List.set_cons_zero, List.set_cons_succ, List.getElem_toArray, List.getElem_cons_succ, List.getElem_cons_zero])
          refine wpAnyH_done (by kernel_rfl) ?_ _
          go_wp2
          go_roundg (j - (i + 1))
          case measure => omega
          case rel => exact ⟨i + 1, by omega, by omega, by go_num, hid (KX.out.trans (BX.out.mono KX.out.size))⟩

end Go.Proofs.YtelalanhalbicaaDoor
