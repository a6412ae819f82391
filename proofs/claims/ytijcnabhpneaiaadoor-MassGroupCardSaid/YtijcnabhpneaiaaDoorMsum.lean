/- Package mass: Sum. -/
import Derived.Test.YtijcnabhpneaiaaDoorMlist
namespace Go.Proofs.YtijcnabhpneaiaaDoor
open Go.RowKit Go.Shelf

/-- The sum of the first i. -/
def psum (M : Nat → Nat → Int) : Nat → Nat → Int
  | 0, _ => 0
  | i + 1, k => psum M i k + M i k
/-- The error of a sum. -/
def SumE (n : Nat) (q : Nat → Nat → Prop) (M : Nat → Nat → Int) (er : Int) : Prop :=
  (4096 < n → er = 4) ∧ (n ≤ 4096 → (¬ ∀ i, i < n → All4 (q i)) → er = 8) ∧ (n ≤ 4096 → (∀ i, i < n → All4 (q i)) →
    ((∀ i, i < n → All4 (fun k => Okay (psum M (i + 1) k))) ∧ er = 0) ∨ ((¬ ∀ i, i < n → All4 (fun k => Okay (psum M (i + 1) k))) ∧ er = 10))

set_option maxHeartbeats 1600000 in
theorem msum_many {w : World} {A : Option Addr} {n c : Nat} (h : 4096 < n) (hn : n ≤ 140737488355328) : Calls Tryd.prog 20 #[.slice A n c] w fun e w' => e = .returned (.tuple #[.agg (mcells D0), .int .i64 4]) ∧ Hid (Below w.heap.size w w') := by
  have F0 := hid (fresh_mass w)
  go_enter Tryd.func20, Tryd.ntmps20
  go_wp2_with (first
    | (with_reducible refine wp_mzero rfl (.tmp 2) (.tmp 11) rfl w.heap.size D0 rfl rfl F0.out ?_)
    | fail)
  exact ret_mass rfl rfl rfl rfl (F0.out.store D0) ⟨rfl, (new_mass w D0).2⟩

set_option maxRecDepth 100000 in
set_option maxHeartbeats 3200000 in
theorem msum_any {w : World} {A : Option Addr} {n c : Nat} {D : Nat → Nat → Dy} {q : Nat → Nat → Prop} {M : Nat → Nat → Int} (h : Mlist w A n D) (hn : n ≤ 4096) (hM : ∀ i, i < n → Mar w (q i) (M i) (D i)) (hT : Tab w) :
    Calls Tryd.prog 20 #[.slice A n c] w (MRes w (SumE n q M) (psum M n)) := by
  obtain ⟨W, hW⟩ : ∃ W, W = w.alloc (.cells #[.bool false, .slice none 0 0, .int .i64 0, .bool false, .slice none 0 0, .int .i64 0, .bool false, .slice none 0 0, .int .i64 0, .bool false, .slice none 0 0, .int .i64 0] 37) := ⟨_, rfl⟩
  have HW := hid hW
  have K := hid (show Below w.heap.size w W from hW ▸ (Below.refl _ w).alloc (Nat.le_refl _) _)
  have F0 := hid (show Mbox W w.heap.size D0 from hW ▸ fresh_mass w)
  have HL := hid h
  have HM := hid hM
  have HT := hid hT
  have Hn := hid hn
  have CB := hid (manybad_list (w := W) (c := c) (bd := fun i => decide (¬ MMay (D i))) (HL.out.below K.out) (by omega) (fun i hi => ((HM.out i hi).below K.out).mrd.asks))
  have HMay := hid (fun i (hi : i < n) => (hM i hi).may)
  clear hW h hM hT
  go_enter Tryd.func20, Tryd.ntmps20
  go_upto_region 1 with fail
  rw [← HW.out]
  go_wp2_with fail
  refine CB.out.mono ?_
  rintro e w1 ⟨r, rfl, HR, hb⟩
  have K1 := hid (K.out.trans (hb.out.mono K.out.size))
  have F1 := hid (F0.out.below hb.out F0.out.lt)
  clear hb CB K F0
  cases r with
  | true =>
    have HB := hid (show ¬ ∀ i, i < n → All4 (q i) from fun hall => by
      obtain ⟨i, hi, hbi⟩ := HR.out.1 rfl
      exact (of_decide_eq_true hbi) ((HMay.out i hi).1 (hall i hi)))
    clear HR
    go_wp2_with (first
      | (with_reducible refine wp_mzero rfl (.tmp 2) (.tmp 14) rfl w.heap.size D0 rfl rfl F1.out ?_)
      | fail)
    have g := grown_mstore w1 w.heap.size D0
    exact ret_mass rfl rfl rfl rfl (F1.out.store D0) ⟨D0, 8, rfl, ⟨fun h => absurd h (by have := Hn.out; omega), fun _ _ => rfl, fun _ h => absurd h HB.out⟩, Mow.zero _ _, below_row K1.out g K1.out.size (Nat.le_refl _)⟩
  | false =>
    have HA := hid (show ∀ i, i < n → All4 (q i) from fun i hi => by
      refine (HMay.out i hi).2 (Decidable.byContradiction fun hno => ?_)
      have := HR.out.2 ⟨i, hi, decide_eq_true hno⟩
      cases this)
    clear HR
    go_upto_region 6 with fail
    obtain ⟨W2, hW2⟩ : ∃ W2, W2 = w1.alloc (.cells #[.bool false, .slice none 0 0, .int .i64 0, .bool false, .slice none 0 0, .int .i64 0, .bool false, .slice none 0 0, .int .i64 0, .bool false, .slice none 0 0, .int .i64 0] 37) := ⟨_, rfl⟩
    rw [← hW2]
    have G0 := hid (show Mbox W2 w1.heap.size D0 from hW2 ▸ fresh_mass w1)
    have hb2 := hid (show Below w1.heap.size w1 W2 from hW2 ▸ (Below.refl _ w1).alloc (Nat.le_refl _) _)
    have K2 := hid (K1.out.trans (hb2.out.mono K1.out.size))
    have F2 := hid (F1.out.below hb2.out F1.out.lt)
    have Hne := hid (show w.heap.size < w1.heap.size from F1.out.lt)
    clear hW2 hb2 K1 F1 HMay
    go_wp2
    go_loopw [17] (fun i wr => ∃ (k : Nat) (T : Nat → Dy), k ≤ n ∧ i = .int .i64 (k : Int) ∧ Hid (Mbox wr w.heap.size D0) ∧ Hid (Mbox wr w1.heap.size T) ∧ Hid (Mow (w.heap.size + 1) wr (psum M k) T) ∧ Hid (∀ j, j < k → All4 (fun x => Okay (psum M (j + 1) x))) ∧ Hid (Below w.heap.size w wr)) (fun i _ => n - (intOf i).toNat)
    case atStart => exact ⟨0, D0, Nat.zero_le _, rfl, F2, G0, hid (Mow.zero _ _), hid (fun j hj => absurd hj (Nat.not_lt_zero _)), K2⟩
    case round =>
      obtain ⟨k, T, hk, rfl, R0, RT, RW, RP, RK⟩ := hrel
      clear F2 G0 K2
      by_cases hlt : k < n
      · obtain ⟨b, off, rfl, hbl, hcs⟩ := HL.out.below RK.out (by omega)
        have HR := hid (hcs k hlt)
        clear hcs hbl
        have G6 := hid (fresh_mass wr)
        go_upto_region 10 with (first
          | (with_reducible refine wp_mload_at rfl (.tmp 19) rfl b (off + k * 12) (D k) rfl HR.out ?_)
          | (with_reducible refine wp_mstore rfl (.tmp 6) (.tmp 20) rfl wr.heap.size D0 (D k) rfl rfl G6.out ?_)
          | fail)
        obtain ⟨W3, hW3⟩ : ∃ W, W = mstore (wr.alloc (.cells #[.bool false, .slice none 0 0, .int .i64 0, .bool false, .slice none 0 0, .int .i64 0, .bool false, .slice none 0 0, .int .i64 0, .bool false, .slice none 0 0, .int .i64 0] 37)) wr.heap.size (D k) := ⟨_, rfl⟩
        rw [← hW3]
        have P6 : Hid (Mbox W3 wr.heap.size (D k)) := hid (hW3 ▸ (new_mass wr (D k)).1)
        have hb3 : Hid (Below wr.heap.size wr W3) := hid (hW3 ▸ (new_mass wr (D k)).2)
        have R03 := hid (R0.out.below hb3.out R0.out.lt)
        have RT3 := hid (RT.out.below hb3.out RT.out.lt)
        have RW3 := hid (RW.out.below hb3.out)
        have RK3 := hid (RK.out.trans (hb3.out.mono RK.out.size))
        clear hW3 hb3 R0 RT RW RK G6 HR
        have CJ := hid (mjoined_add RW3.out.mar ((HM.out k hlt).below RK3.out) (fun _ _ => trivial) (HA.out k hlt) (H := psum M (k + 1)) (fun _ _ => rfl) (HT.out.below RK3.out HT.out.lt))
        go_wp2_with (first
          | (with_reducible refine wp_mload rfl (.tmp 4) rfl w1.heap.size T rfl RT3.out ?_)
          | (with_reducible refine wp_mload rfl (.tmp 6) rfl wr.heap.size (D k) rfl P6.out ?_)
          | fail)
        refine CJ.out.mono ?_
        rintro e w4 ⟨T2, er, rfl, HE, HM4, hb4⟩
        have R04 := hid (R03.out.below hb4.out R03.out.lt)
        have RT4 := hid (RT3.out.below hb4.out RT3.out.lt)
        have RK4 := hid (RK3.out.trans (hb4.out.mono RK3.out.size))
        have Hsz := hid (show w.heap.size + 1 ≤ W3.heap.size from R03.out.lt)
        have g4 := grown_mstore w4 w1.heap.size T2
        have Q0 := hid (R04.out.grown g4 (by have := Hne.out; omega))
        have QT := hid (RT4.out.store T2)
        have QK := hid (below_row RK4.out g4 RK4.out.size (by have := Hne.out; omega))
        have QW : Hid (Mow (w.heap.size + 1) (mstore w4 w1.heap.size T2) (resM er (psum M (k + 1))) T2) := hid ((HM4.out.grown_box RT4.out g4).mono Hsz.out)
        clear R03 RT3 RW3 RK3 P6 CJ HM4 g4
        obtain ⟨W5, hW5⟩ : ∃ W, W = mstore w4 w1.heap.size T2 := ⟨_, rfl⟩
        have HW5 := hid hW5
        rw [← hW5] at Q0 QT QK QW
        clear hW5
        rcases HE.out with ⟨hok, rfl⟩ | ⟨hno, rfl⟩
        · have HOk := hid hok
          have QW2 : Hid (Mow (w.heap.size + 1) W5 (psum M (k + 1)) T2) := hid (by have := QW.out; rwa [resM_ok rfl] at this)
          clear hok QW HE
          go_wp2_with (first
            | (with_reducible refine wp_mstore rfl (.tmp 4) (.tmp 25) rfl w1.heap.size T T2 rfl rfl RT4.out ?_; rw [← HW5.out])
            | fail)
          go_roundw
          case rel => exact ⟨k + 1, T2, by omega, by go_num, Q0, QT, QW2, hid (fun j hj => (Nat.lt_succ_iff_lt_or_eq.1 hj).elim (fun h => RP.out j h) (fun e => e ▸ HOk.out)), QK⟩
          case measure => simp [intOf]; omega
        · have HNo := hid (show ¬ ∀ i, i < n → All4 (fun x => Okay (psum M (i + 1) x)) from fun h => hno (h k hlt))
          clear hno QW HE
          go_wp2_with (first
            | (with_reducible refine wp_mstore rfl (.tmp 4) (.tmp 25) rfl w1.heap.size T T2 rfl rfl RT4.out ?_; rw [← HW5.out])
            | (with_reducible refine wp_mzero rfl (.tmp 2) (.tmp 29) rfl w.heap.size D0 rfl rfl Q0.out ?_)
            | fail)
          have g := grown_mstore W5 w.heap.size D0
          exact ret_mass rfl rfl rfl rfl (Q0.out.store D0) ⟨D0, 10, rfl, ⟨fun h => absurd h (by have := Hn.out; omega), fun _ h => absurd HA.out h, fun _ _ => .inr ⟨HNo.out, rfl⟩⟩, Mow.zero _ _, below_row QK.out g QK.out.size (Nat.le_refl _)⟩
      · obtain rfl : k = n := by omega
        go_wp2_with (first
          | (with_reducible refine wp_mload rfl (.tmp 4) rfl w1.heap.size T rfl RT.out ?_)
          | (with_reducible refine wp_mstore rfl (.tmp 2) (.tmp 32) rfl w.heap.size D0 T rfl rfl R0.out ?_)
          | fail)
        have g := grown_mstore wr w.heap.size T
        exact ret_mass rfl rfl rfl rfl (R0.out.store T) ⟨T, 0, rfl, ⟨fun h => absurd h (by have := Hn.out; omega), fun _ h => absurd HA.out h, fun _ _ => .inl ⟨RP.out, rfl⟩⟩, (fun x hx => ((RW.out x hx).grown g (by omega)).mono (by omega)), below_row RK.out g RK.out.size (Nat.le_refl _)⟩

end Go.Proofs.YtijcnabhpneaiaaDoor
