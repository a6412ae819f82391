/- The document's masses: Sum. -/
import Derived.Test.YtelalanhalbicaaDoorMy3
import Derived.Test.YtelalanhalbicaaDoorMy1
namespace Go.Proofs.YtelalanhalbicaaDoor
open Go.RowKit Go.Shelf

theorem mass_size_l (D : Nat → Dy) : (Tryd.prog.info? 26).map (·.size) = some (mcells D).toList.length := mass_size
theorem yields_mload_at {ops : Array Oper} {S : World → Prop} {o : Oper} {a : Act} (hw : Region.wanted o (yielded ops a.tmps) = true) (x : Operand) (ho : o.op = .load 26 x)
    (b off : Nat) (D : Nat → Dy) (hx : a.eval x = .pointer (some ⟨b, off, none⟩)) (hS : ∀ w, S w → w.rangeAt b off (mcells D).toList) : YieldsIf Tryd.prog ops S o (.agg (mcells D)) a :=
  yieldsIf_load_mid hw _ x ho b off hx _ _ hS Tryd.underlying26 rfl (mass_size_l D)

set_option maxHeartbeats 1600000 in
theorem emsum_many {w : World} {A : Option Addr} {n c : Nat} (h : 4096 < n) (hn : n ≤ 140737488355328) : Calls Tryd.prog 22 #[.slice A n c] w fun e w' => e = .returned (.tuple #[.agg (mcells D0), .int .i64 4]) ∧ Hid (Below w.heap.size w w') := by
  have F0 := hid (fresh_mass w)
  go_enter Tryd.func22, Tryd.ntmps22
  go_wp2_with (first
    | (with_reducible refine wp_mzero rfl (.tmp 2) (.tmp 12) rfl w.heap.size D0 rfl rfl F0.out ?_)
    | fail)
  exact ret_mass rfl rfl rfl rfl (F0.out.store D0) ⟨rfl, (new_mass w D0).2⟩

/-- What the second loop's addition leaves: the sum in a variable of its own. -/
def AddI (W X : World) (g2 g5 : Nat) (T : Nat → Dy) (M : Nat → Int) (g7 : Nat) (R : Nat → Dy) (er : Int) : Prop :=
  Mbox X g7 R ∧ Mbox X g2 D0 ∧ Mbox X g5 T ∧ Merr M er ∧ Mrr X (fun _ => True) (resM er M) R ∧ W.heap.size ≤ g7 ∧ Below W.heap.size W X
theorem add_store {W X : World} {g2 g5 g7 : Nat} {T R : Nat → Dy} {M : Nat → Int} {er : Int} (h7 : Mbox X g7 D0) (h2 : Mbox X g2 D0) (h5 : Mbox X g5 T) (he : Merr M er) (hr : Mrr X (fun _ => True) (resM er M) R) (hs : W.heap.size ≤ g7) (hb : Below W.heap.size W X) (l2 : g2 < W.heap.size) (l5 : g5 < W.heap.size) :
    Below W.heap.size W (mstore X g7 R) ∧ AddI W (mstore X g7 R) g2 g5 T M g7 R er := by
  have u := grown_mstore X g7 R
  have b := below_row hb u hb.size hs
  exact ⟨b, h7.store R, h2.grown u (by omega), h5.grown u (by omega), he, fun k hk => (hr k hk).box h7 u, hs, b⟩

set_option maxRecDepth 100000 in
set_option maxHeartbeats 6400000 in
theorem emsum_any {w : World} {A : Option Addr} {n c : Nat} {D : Nat → Nat → Dy} {q : Nat → Nat → Prop} {M : Nat → Nat → Int} (h : Mlist w A n D) (hn : n ≤ 4096) (hM : ∀ i, i < n → Mrr w (q i) (M i) (D i)) :
    Calls Tryd.prog 22 #[.slice A n c] w (EMRes w (SumE n q M) (psum M n)) := by
  obtain ⟨W, hW⟩ : ∃ W, W = w.alloc (.cells #[.bool false, .slice none 0 0, .int .i64 0, .bool false, .slice none 0 0, .int .i64 0, .bool false, .slice none 0 0, .int .i64 0, .bool false, .slice none 0 0, .int .i64 0] 26) := ⟨_, rfl⟩
  have HW := hid hW
  have K := hid (show Below w.heap.size w W from hW ▸ (Below.refl _ w).alloc (Nat.le_refl _) _)
  have F0 := hid (show Mbox W w.heap.size D0 from hW ▸ fresh_mass w)
  have HL := hid h
  have HM := hid hM
  have Hn := hid hn
  clear hW h hM
  go_enter Tryd.func22, Tryd.ntmps22
  go_upto_region 1 with fail
  rw [← HW.out]
  go_wp2
  go_loopg [4] n (fun gg s4 wr => ∃ k : Nat, k ≤ n ∧ n - k ≤ gg ∧ s4 = .int .i64 (k : Int) ∧ Hid (Mbox wr w.heap.size D0) ∧ Hid (∀ j, j < k → All4 (q j)) ∧ Hid (Below w.heap.size w wr))
  case atStart => exact ⟨0, Nat.zero_le _, by omega, rfl, F0, hid (fun j hj => absurd hj (Nat.not_lt_zero _)), K⟩
  case round =>
    obtain ⟨k, hk, hg, rfl, R0, RA, RK⟩ := hrel
    clear F0 K
    by_cases hlt : k < n
    case pos =>
      have hltz : (k : Int) < (n : Int) := by omega
      obtain ⟨b, off, rfl, hbl, hcs⟩ := HL.out.below RK.out (by omega)
      have HR := hid (hcs k hlt)
      clear hcs hbl
      have CM := hid (emmay_any (w := wr) (D := D k) ((HM.out k hlt).below RK.out).mrd)
      go_wp2_with (first
        | (with_reducible refine wp_mload_at rfl (.tmp 21) rfl b (off + k * 12) (D k) rfl HR.out ?_)
        | fail)
      refine CM.out.mono ?_
      rintro e w1 ⟨r, rfl, Hr, hb⟩
      have R1 := hid (R0.out.below hb.out R0.out.lt)
      have RK1 := hid (RK.out.trans (hb.out.mono RK.out.size))
      clear R0 RK hb CM HR
      cases r with
      | true =>
        have HA := hid (show All4 (q k) from (HM.out k hlt).may.2 (Hr.out.1 rfl))
        clear Hr
        go_wp2
        go_roundg (n - (k + 1))
        case measure => omega
        case rel => exact ⟨k + 1, by omega, by omega, by go_num, R1, hid (fun j hj => (Nat.lt_succ_iff_lt_or_eq.1 hj).elim (fun h => RA.out j h) (fun e => e ▸ HA.out)), RK1⟩
      | false =>
        have HB := hid (show ¬ ∀ i, i < n → All4 (q i) from fun hall => by
          have := Hr.out.2 ((HM.out k hlt).may.1 (hall k hlt))
          cases this)
        clear Hr
        go_wp2_with (first
          | (with_reducible refine wp_mzero rfl (.tmp 2) (.tmp 25) rfl w.heap.size D0 rfl rfl R1.out ?_)
          | fail)
        have g := grown_mstore w1 w.heap.size D0
        exact ret_mass rfl rfl rfl rfl (R1.out.store D0) ⟨D0, 8, rfl, ⟨fun h => absurd h (by have := Hn.out; omega), fun _ _ => rfl, fun _ h => absurd h HB.out⟩, (mar_zero _).mrr, below_row RK1.out g RK1.out.size (Nat.le_refl _)⟩
    have hltz : ¬ (k : Int) < (n : Int) := by omega
    obtain rfl : k = n := by omega
    go_upto_region 9 with fail
    obtain ⟨W2, hW2⟩ : ∃ W2, W2 = wr.alloc (.cells #[.bool false, .slice none 0 0, .int .i64 0, .bool false, .slice none 0 0, .int .i64 0, .bool false, .slice none 0 0, .int .i64 0, .bool false, .slice none 0 0, .int .i64 0] 26) := ⟨_, rfl⟩
    rw [← hW2]
    have G0 := hid (show Mbox W2 wr.heap.size D0 from hW2 ▸ fresh_mass wr)
    have hb2 := hid (show Below wr.heap.size wr W2 from hW2 ▸ (Below.refl _ wr).alloc (Nat.le_refl _) _)
    have K2 := hid (RK.out.trans (hb2.out.mono RK.out.size))
    have F2 := hid (R0.out.below hb2.out R0.out.lt)
    have Hne := hid (show w.heap.size < wr.heap.size from R0.out.lt)
    have HA := hid RA.out
    generalize wr.heap.size = g5 at *
    clear hW2 hb2 RK R0 RA hk hlt hltz
    go_wp2
    go_loopg [6, 7, 8] k (fun gg s6 _ _ wx => ∃ (j : Nat) (T : Nat → Dy), j ≤ k ∧ k - j ≤ gg ∧ s6 = .int .i64 (j : Int) ∧ Hid (Mbox wx w.heap.size D0) ∧ Hid (Mbox wx g5 T) ∧ Hid (Mrr wx (fun _ => True) (psum M j) T) ∧ Hid (∀ i, i < j → All4 (fun x => Okay (psum M (i + 1) x))) ∧ Hid (Below w.heap.size w wx))
    case atStart => exact ⟨0, D0, Nat.zero_le _, by omega, rfl, F2, G0, hid (mar_zero _).mrr, hid (fun j hj => absurd hj (Nat.not_lt_zero _)), K2⟩
    case round =>
      obtain ⟨j, T, hj, hg, rfl, R0, RT, RW, RP, RK⟩ := hrel
      clear F2 G0 K2
      by_cases hlt : j < k
      case neg =>
        have hltz : ¬ (j : Int) < (k : Int) := by omega
        obtain rfl : j = k := by omega
        go_wp2_with (first
          | (with_reducible refine wp_mload rfl (.tmp 5) rfl g5 T rfl RT.out ?_)
          | (with_reducible refine wp_mstore rfl (.tmp 2) (.tmp 46) rfl w.heap.size D0 T rfl rfl R0.out ?_)
          | fail)
        have g := grown_mstore wr w.heap.size T
        exact ret_mass rfl rfl rfl rfl (R0.out.store T) ⟨T, 0, rfl, ⟨fun h => absurd h (by have := Hn.out; omega), fun _ h => absurd HA.out h, fun _ _ => .inl ⟨RP.out, rfl⟩⟩, (fun x hx => by rw [resM_ok rfl]; exact (RW.out x hx).box R0.out g), below_row RK.out g RK.out.size (Nat.le_refl _)⟩
      have hltz : (j : Int) < (k : Int) := by omega
      obtain ⟨b, off, rfl, hbl, hcs⟩ := HL.out.below RK.out (by omega)
      have HR := hid (hcs j hlt)
      have HX := hid hbl
      clear hcs hbl
      go_upto_region 12 with fail
      go_cut [7, 8] (fun s7 s8 wx => ∃ (g7 : Nat) (R : Nat → Dy) (er : Int), s7 = .pointer (some ⟨g7, 0, none⟩) ∧ s8 = .int .i64 er ∧ Hid (AddI wr wx w.heap.size g5 T (psum M (j + 1)) g7 R er))
      case first =>
        have CF : Hid (∀ X, Below wr.heap.size wr X → (Mbox X g5 T ∧ X.rangeAt b (off + j * 12) (mcells (D j)).toList)) := hid fun X hb => ⟨RT.out.below hb RT.out.lt, fun i v hv => (hb.cell (p := ⟨b, off + j * 12 + i, none⟩) HX.out).trans (HR.out i v hv)⟩
        have BX : Hid (Below wr.heap.size wr wr.drew) := hid (Below.refl wr.heap.size wr).drew
        have CA := hid (fun (X : World) (hb : Below wr.heap.size wr X) => emadd_any (RW.out.below hb) ((HM.out j (by omega)).below (RK.out.trans (hb.mono RK.out.size))))
        refine wp_region_held_drew (S := fun X => Mbox X g5 T ∧ X.rangeAt b (off + j * 12) (mcells (D j)).toList) (by kernel_rfl) (CF.out _ BX.out) (fun hHeld => ?_)
        generalize wr.drew = V at *
        refine wpAnyH_take (i := 0) rfl (by kernel_rfl) (by kernel_rfl) (by kernel_rfl) (fun _ _ _ h => h) (yields_mload (by rfl) (.tmp 5) rfl g5 T rfl (fun X hX => hX.1)) hHeld ?_
        (try simp only [Act.put, List.setIfInBounds_toArray, List.set_cons_zero, List.set_cons_succ, List.getElem_toArray, List.getElem_cons_zero])
        refine wpAnyH_take (i := 1) (v := ?v1) rfl (by kernel_rfl) (by kernel_rfl) (by kernel_rfl) (fun _ _ _ h => h) (Or.inl ⟨by rfl, ?y1⟩) (by assumption) ?r1
        case y1 => (intro w0 hSw; (try dsimp only at hSw); (try simp only [List.getElem_toArray, List.getElem_cons_succ, List.getElem_cons_zero]); go_simp; try with_reducible rfl)
        (try simp only [Act.put, List.setIfInBounds_toArray, List.set_cons_zero, List.set_cons_succ, List.getElem_toArray, List.getElem_cons_succ, List.getElem_cons_zero])
        refine wpAnyH_take (i := 2) (v := ?v2) rfl (by kernel_rfl) (by kernel_rfl) (by kernel_rfl) (fun _ _ _ h => h) (Or.inl ⟨by rfl, ?y2⟩) (by assumption) ?r2
        case y2 => (intro w0 hSw; (try dsimp only at hSw); (try simp only [List.getElem_toArray, List.getElem_cons_succ, List.getElem_cons_zero]); go_simp; try with_reducible rfl)
        (try simp only [Act.put, List.setIfInBounds_toArray, List.set_cons_zero, List.set_cons_succ, List.getElem_toArray, List.getElem_cons_succ, List.getElem_cons_zero])
        refine wpAnyH_take (i := 3) (v := ?v3) rfl (by kernel_rfl) (by kernel_rfl) (by kernel_rfl) (fun _ _ _ h => h) (Or.inl ⟨by rfl, ?y3⟩) (by assumption) ?r3
        case y3 => (intro w0 hSw; (try dsimp only at hSw); (try simp only [List.getElem_toArray, List.getElem_cons_succ, List.getElem_cons_zero]); go_simp; try with_reducible rfl)
        (try simp only [Act.put, List.setIfInBounds_toArray, List.set_cons_zero, List.set_cons_succ, List.getElem_toArray, List.getElem_cons_succ, List.getElem_cons_zero])
        refine wpAnyH_take (i := 4) rfl (by kernel_rfl) (by kernel_rfl) (by kernel_rfl) (fun _ _ _ h => h) (yields_mload_at (by rfl) (.tmp 36) rfl b (off + j * 12) (D j) rfl (fun X hX => hX.2)) hHeld ?_
        (try simp only [Act.put, List.setIfInBounds_toArray, List.set_cons_zero, List.set_cons_succ, List.getElem_toArray, List.getElem_cons_succ, List.getElem_cons_zero])
        refine wpAnyH_ready (rs := [5, 9]) (by kernel_rfl) (by simp) ?_
        refine AllReadyH.cons rfl (fun K' hK => ?_) (AllReadyH.cons rfl (fun K' hK => ?_) AllReadyH.nil)
        · (try simp only [List.getElem_toArray, List.getElem_cons_succ, List.getElem_cons_zero])
          go_simp
          refine (CA.out _ BX.out).mono ?_
          rintro e y ⟨R, er, rfl, HE, HRR, hb⟩
          replace BX := hid (BX.out.trans (hb.out.mono BX.out.size))
          clear hb
          try dsimp only
          refine hK.out _ _ (CF.out _ BX.out) (fun hHeld => ?_)
          clear hK K'
          (try simp only [Act.put, List.setIfInBounds_toArray, List.set_cons_zero, List.set_cons_succ, List.getElem_toArray, List.getElem_cons_succ, List.getElem_cons_zero])
          refine wpAnyH_take (i := 6) (v := ?v4) rfl (by kernel_rfl) (by kernel_rfl) (by kernel_rfl) (fun _ _ _ h => h) (Or.inl ⟨by rfl, ?y4⟩) (by assumption) ?r4
          case y4 => (intro w0 hSw; (try dsimp only at hSw); (try simp only [List.getElem_toArray, List.getElem_cons_succ, List.getElem_cons_zero]); go_simp; try with_reducible rfl)
          (try simp only [Act.put, List.setIfInBounds_toArray, List.set_cons_zero, List.set_cons_succ, List.getElem_toArray, List.getElem_cons_succ, List.getElem_cons_zero])
          refine wpAnyH_take (i := 7) (v := ?v5) rfl (by kernel_rfl) (by kernel_rfl) (by kernel_rfl) (fun _ _ _ h => h) (Or.inl ⟨by rfl, ?y5⟩) (by assumption) ?r5
          case y5 => (intro w0 hSw; (try dsimp only at hSw); (try simp only [List.getElem_toArray, List.getElem_cons_succ, List.getElem_cons_zero]); go_simp; try with_reducible rfl)
          (try simp only [Act.put, List.setIfInBounds_toArray, List.set_cons_zero, List.set_cons_succ, List.getElem_toArray, List.getElem_cons_succ, List.getElem_cons_zero])
          refine wpAnyH_take (i := 8) (v := ?v6) rfl (by kernel_rfl) (by kernel_rfl) (by kernel_rfl) (fun _ _ _ h => h) (Or.inl ⟨by rfl, ?y6⟩) (by assumption) ?r6
          case y6 => (intro w0 hSw; (try dsimp only at hSw); (try simp only [List.getElem_toArray, List.getElem_cons_succ, List.getElem_cons_zero]); go_simp; try with_reducible rfl)
          (try simp only [Act.put, List.setIfInBounds_toArray, List.set_cons_zero, List.set_cons_succ, List.getElem_toArray, List.getElem_cons_succ, List.getElem_cons_zero])
          refine wpAnyH_ready (rs := [9]) (by kernel_rfl) (by simp) ?_
          refine AllReadyH.cons rfl (fun K' hK => ?_) AllReadyH.nil
          (try simp only [List.getElem_toArray, List.getElem_cons_succ, List.getElem_cons_zero])
          go_simp
          obtain ⟨Y, hX⟩ : ∃ X, X = (y).alloc (.cells #[.bool false, .slice none 0 0, .int .i64 0, .bool false, .slice none 0 0, .int .i64 0, .bool false, .slice none 0 0, .int .i64 0, .bool false, .slice none 0 0, .int .i64 0] 26) := ⟨_, rfl⟩
          rw [← hX]
          have F7 : Hid (Mbox Y (y).heap.size D0) := hid (hX ▸ fresh_mass _)
          have S7 := hid (show wr.heap.size ≤ (y).heap.size from BX.out.size)
          have hb : Hid (Below (y).heap.size (y) Y) := hid (hX ▸ (Below.refl _ _).alloc (Nat.le_refl _) _)
          clear hX
          replace BX := hid (BX.out.trans (hb.out.mono BX.out.size))
          replace HRR := hid (HRR.out.below hb.out)
          generalize y.heap.size = g7 at *
          clear hb
          try dsimp only
          refine hK.out _ _ (CF.out _ BX.out) (fun hHeld => ?_)
          clear hK K'
          (try simp only [Act.put, List.setIfInBounds_toArray, List.set_cons_zero, List.set_cons_succ, List.getElem_toArray, List.getElem_cons_succ, List.getElem_cons_zero])
          have hok := add_store F7.out (R0.out.below BX.out R0.out.lt) (RT.out.below BX.out RT.out.lt) (HE.out.1 ⟨fun _ _ => trivial, HA.out j (by omega)⟩) HRR.out S7.out BX.out R0.out.lt RT.out.lt
          have b1 := hok.1
          have HFin := hid hok.2
          clear hok
          refine wpAnyH_ready (rs := [10]) (by kernel_rfl) (by simp) ?_
          refine AllReadyH.cons rfl (fun K' hK => ?_) AllReadyH.nil
          (try simp only [List.getElem_toArray, List.getElem_cons_succ, List.getElem_cons_zero])
          refine ite_go (by kernel_rfl) ?_
          refine wp1_mstore (.tmp 7) (.tmp 39) rfl g7 D0 R rfl rfl F7.out ?_
          refine hK.out _ _ (CF.out _ b1) (fun hHeld => ?_)
          clear hK K'
          generalize mstore Y g7 R = Z1 at *
          (try simp only [Act.put])
          refine wpAnyH_take (i := 11) (v := ?v7) rfl (by kernel_rfl) (by kernel_rfl) (by kernel_rfl) (fun _ _ _ h => h) (Or.inl ⟨by rfl, ?y7⟩) (by assumption) ?r7
          case y7 => (intro w0 hSw; (try dsimp only at hSw); (try simp only [List.getElem_toArray, List.getElem_cons_succ, List.getElem_cons_zero]); go_simp; try with_reducible rfl)
          (try simp only [Act.put, List.setIfInBounds_toArray, List.set_cons_zero, List.set_cons_succ, List.getElem_toArray, List.getElem_cons_succ, List.getElem_cons_zero])
          refine wpAnyH_done (by kernel_rfl) ?_ _
          go_wp2
          go_meet
          exact ⟨_, _, _, rfl, rfl, HFin⟩
        · (try simp only [List.getElem_toArray, List.getElem_cons_succ, List.getElem_cons_zero])
          go_simp
          obtain ⟨Y, hX⟩ : ∃ X, X = (V).alloc (.cells #[.bool false, .slice none 0 0, .int .i64 0, .bool false, .slice none 0 0, .int .i64 0, .bool false, .slice none 0 0, .int .i64 0, .bool false, .slice none 0 0, .int .i64 0] 26) := ⟨_, rfl⟩
          rw [← hX]
          have F7 : Hid (Mbox Y (V).heap.size D0) := hid (hX ▸ fresh_mass _)
          have S7 := hid (show wr.heap.size ≤ (V).heap.size from BX.out.size)
          have hb : Hid (Below (V).heap.size (V) Y) := hid (hX ▸ (Below.refl _ _).alloc (Nat.le_refl _) _)
          clear hX
          replace BX := hid (BX.out.trans (hb.out.mono BX.out.size))
          generalize V.heap.size = g7 at *
          clear hb
          try dsimp only
          refine hK.out _ _ (CF.out _ BX.out) (fun hHeld => ?_)
          clear hK K'
          (try simp only [Act.put, List.setIfInBounds_toArray, List.set_cons_zero, List.set_cons_succ, List.getElem_toArray, List.getElem_cons_succ, List.getElem_cons_zero])
          refine wpAnyH_ready (rs := [5]) (by kernel_rfl) (by simp) ?_
          refine AllReadyH.cons rfl (fun K' hK => ?_) AllReadyH.nil
          (try simp only [List.getElem_toArray, List.getElem_cons_succ, List.getElem_cons_zero])
          go_simp
          refine (CA.out _ BX.out).mono ?_
          rintro e y ⟨R, er, rfl, HE, HRR, hb⟩
          replace BX := hid (BX.out.trans (hb.out.mono BX.out.size))
          replace F7 := hid (F7.out.below hb.out F7.out.lt)
          clear hb
          try dsimp only
          refine hK.out _ _ (CF.out _ BX.out) (fun hHeld => ?_)
          clear hK K'
          (try simp only [Act.put, List.setIfInBounds_toArray, List.set_cons_zero, List.set_cons_succ, List.getElem_toArray, List.getElem_cons_succ, List.getElem_cons_zero])
          refine wpAnyH_take (i := 6) (v := ?v8) rfl (by kernel_rfl) (by kernel_rfl) (by kernel_rfl) (fun _ _ _ h => h) (Or.inl ⟨by rfl, ?y8⟩) (by assumption) ?r8
          case y8 => (intro w0 hSw; (try dsimp only at hSw); (try simp only [List.getElem_toArray, List.getElem_cons_succ, List.getElem_cons_zero]); go_simp; try with_reducible rfl)
          (try simp only [Act.put, List.setIfInBounds_toArray, List.set_cons_zero, List.set_cons_succ, List.getElem_toArray, List.getElem_cons_succ, List.getElem_cons_zero])
          refine wpAnyH_take (i := 7) (v := ?v9) rfl (by kernel_rfl) (by kernel_rfl) (by kernel_rfl) (fun _ _ _ h => h) (Or.inl ⟨by rfl, ?y9⟩) (by assumption) ?r9
          case y9 => (intro w0 hSw; (try dsimp only at hSw); (try simp only [List.getElem_toArray, List.getElem_cons_succ, List.getElem_cons_zero]); go_simp; try with_reducible rfl)
          (try simp only [Act.put, List.setIfInBounds_toArray, List.set_cons_zero, List.set_cons_succ, List.getElem_toArray, List.getElem_cons_succ, List.getElem_cons_zero])
          refine wpAnyH_take (i := 8) (v := ?v10) rfl (by kernel_rfl) (by kernel_rfl) (by kernel_rfl) (fun _ _ _ h => h) (Or.inl ⟨by rfl, ?y10⟩) (by assumption) ?r10
          case y10 => (intro w0 hSw; (try dsimp only at hSw); (try simp only [List.getElem_toArray, List.getElem_cons_succ, List.getElem_cons_zero]); go_simp; try with_reducible rfl)
          (try simp only [Act.put, List.setIfInBounds_toArray, List.set_cons_zero, List.set_cons_succ, List.getElem_toArray, List.getElem_cons_succ, List.getElem_cons_zero])
          have hok := add_store F7.out (R0.out.below BX.out R0.out.lt) (RT.out.below BX.out RT.out.lt) (HE.out.1 ⟨fun _ _ => trivial, HA.out j (by omega)⟩) HRR.out S7.out BX.out R0.out.lt RT.out.lt
          have b1 := hok.1
          have HFin := hid hok.2
          clear hok
          refine wpAnyH_ready (rs := [10]) (by kernel_rfl) (by simp) ?_
          refine AllReadyH.cons rfl (fun K' hK => ?_) AllReadyH.nil
          (try simp only [List.getElem_toArray, List.getElem_cons_succ, List.getElem_cons_zero])
          refine ite_go (by kernel_rfl) ?_
          refine wp1_mstore (.tmp 7) (.tmp 39) rfl g7 D0 R rfl rfl F7.out ?_
          refine hK.out _ _ (CF.out _ b1) (fun hHeld => ?_)
          clear hK K'
          generalize mstore y g7 R = Z1 at *
          (try simp only [Act.put])
          refine wpAnyH_take (i := 11) (v := ?v11) rfl (by kernel_rfl) (by kernel_rfl) (by kernel_rfl) (fun _ _ _ h => h) (Or.inl ⟨by rfl, ?y11⟩) (by assumption) ?r11
          case y11 => (intro w0 hSw; (try dsimp only at hSw); (try simp only [List.getElem_toArray, List.getElem_cons_succ, List.getElem_cons_zero]); go_simp; try with_reducible rfl)
          (try simp only [Act.put, List.setIfInBounds_toArray, List.set_cons_zero, List.set_cons_succ, List.getElem_toArray, List.getElem_cons_succ, List.getElem_cons_zero])
          refine wpAnyH_done (by kernel_rfl) ?_ _
          go_wp2
          go_meet
          exact ⟨_, _, _, rfl, rfl, HFin⟩
      case rest =>
        obtain ⟨g7, R, er, rfl, rfl, HC⟩ := hcut
        have P7 := hid HC.out.1
        have P2 := hid HC.out.2.1
        have P5 := hid HC.out.2.2.1
        have HRR := hid HC.out.2.2.2.2.1
        have S7 := hid (show g5 ≠ g7 from fun e => by have h1 := HC.out.2.2.2.2.2.1; have h2 := RT.out.lt; omega)
        have RKc := hid (RK.out.trans (HC.out.2.2.2.2.2.2.mono RK.out.size))
        have Hg5 := hid (show w.heap.size ≤ g5 from Nat.le_of_lt Hne.out)
        rcases HC.out.2.2.2.1 with ⟨hok, rfl⟩ | ⟨hno, rfl⟩
        · have HOk := hid hok
          have g := grown_mstore wc g5 R
          have Q2 := hid (P2.out.grown g (by have := Hne.out; omega))
          have Q5 := hid (P5.out.store R)
          have QR : Hid (Mrr (mstore wc g5 R) (fun _ => True) (psum M (j + 1)) R) := hid (fun x hx => by have := HRR.out x hx; rw [resM_ok rfl] at this; exact this.box P5.out g)
          have QK := hid (below_row RKc.out g RKc.out.size Hg5.out)
          clear hok HC HRR g
          obtain ⟨W5, hW5⟩ : ∃ W, W = mstore wc g5 R := ⟨_, rfl⟩
          have HW5 := hid hW5
          rw [← hW5] at Q2 Q5 QR QK
          clear hW5
          go_wp2_with (first
            | (with_reducible refine wp_mload rfl (.tmp 7) rfl g7 R rfl P7.out ?_)
            | (with_reducible refine wp_mstore rfl (.tmp 5) (.tmp 45) rfl g5 T R rfl rfl P5.out ?_; rw [← HW5.out])
            | fail)
          go_roundg (k - (j + 1))
          case measure => omega
          case rel => exact ⟨j + 1, R, by omega, by omega, by go_num, Q2, Q5, QR, hid (fun i hi => (Nat.lt_succ_iff_lt_or_eq.1 hi).elim (fun h => RP.out i h) (fun e => e ▸ HOk.out)), QK⟩
        · have HNo := hid (show ¬ ∀ i, i < k → All4 (fun x => Okay (psum M (i + 1) x)) from fun h => hno (h j hlt))
          clear hno HC HRR
          go_wp2_with (first
            | (with_reducible refine wp_mzero rfl (.tmp 2) (.tmp 43) rfl w.heap.size D0 rfl rfl P2.out ?_)
            | fail)
          have g := grown_mstore wc w.heap.size D0
          exact ret_mass rfl rfl rfl rfl (P2.out.store D0) ⟨D0, 10, rfl, ⟨fun h => absurd h (by have := Hn.out; omega), fun _ h => absurd HA.out h, fun _ _ => .inr ⟨HNo.out, rfl⟩⟩, (mar_zero _).mrr, below_row RKc.out g RKc.out.size (Nat.le_refl _)⟩

end Go.Proofs.YtelalanhalbicaaDoor
