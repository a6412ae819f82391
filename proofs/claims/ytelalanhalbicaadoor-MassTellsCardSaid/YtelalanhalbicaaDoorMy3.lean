/- Lists of masses: anyBad, by slices.ContainsFunc; Sum. -/
/- Package mass: Sum. -/
/- MassWhole, walked. -/
/- MassGroup, walked. -/
import Derived.Test.YtelalanhalbicaaDoorMalive

namespace Go.Proofs.YtelalanhalbicaaDoor
open Go.RowKit Go.Shelf

/-- n masses that lie in a row, from A on. -/
def Mlist (w : World) (A : Option Addr) (n : Nat) (D : Nat → Nat → Dy) : Prop :=
  0 < n → ∃ b off, A = some ⟨b, off, none⟩ ∧ b < w.heap.size ∧ ∀ i, i < n → w.rangeAt b (off + i * 12) (mcells (D i)).toList
theorem Mlist.below {w w' : World} {A : Option Addr} {n : Nat} {D : Nat → Nat → Dy} (h : Mlist w A n D) (hb : Below w.heap.size w w') : Mlist w' A n D := fun hn => by
  obtain ⟨b, off, hA, hlt, hc⟩ := h hn
  exact ⟨b, off, hA, Nat.lt_of_lt_of_le hlt hb.size, fun i hi j v hv => (hb.cell (p := ⟨b, off + i * 12 + j, none⟩) hlt).trans (hc i hi j v hv)⟩
/-- A mass is loaded out of a row. -/
theorem wp_mload_at {ops : Array Oper} {rest : List Oper} {o : Oper} {a : Act} {w : World} {Q : Exit → Act → World → Prop} (hgd : o.guard = none) (x : Operand) (ho : o.op = .load 26 x)
    (b off : Nat) (D : Nat → Dy) (hx : a.eval x = .pointer (some ⟨b, off, none⟩)) (hg : w.rangeAt b off (mcells D).toList) (h : wpList Tryd.prog ops Q rest (a.put o.dst (.agg (mcells D))) w) : wpList Tryd.prog ops Q (o :: rest) a w :=
  wpList_load_mid hgd _ x ho b off hx (mcells D).toList _ hg Tryd.underlying26 rfl mass_size h

/-- What IndexFunc tells. -/
def IdxR (w : World) (n : Nat) (bd : Nat → Bool) (e : Ending) (w' : World) : Prop := ∃ r : Int, e = .returned (.int .i64 r) ∧ Hid ((r = -1 ∧ ∀ i, i < n → bd i = false) ∨ (0 ≤ r ∧ ∃ i, i < n ∧ bd i = true)) ∧ Hid (Below w.heap.size w w')

set_option maxRecDepth 100000 in
set_option maxHeartbeats 1600000 in
theorem mindex_list {w : World} {A : Option Addr} {n c : Nat} {D : Nat → Nat → Dy} {bd : Nat → Bool} (h : Mlist w A n D) (hn : n ≤ 140737488355328) (hm : ∀ i, i < n → MAsks w (.agg (mcells (D i))) (bd i)) :
    Calls Tryd.prog 61 #[.slice A n c, .func (.func 43) #[] #[]] w (IdxR w n bd) := by
  have HL := hid h
  have HM := hid hm
  clear h hm
  go_enter Tryd.func61, Tryd.ntmps61
  go_wp2
  go_loopw [8] (fun i wr => ∃ k : Nat, k ≤ n ∧ i = .int .i64 (k : Int) ∧ Hid (∀ j, j < k → bd j = false) ∧ Hid (Below w.heap.size w wr)) (fun i _ => n - (intOf i).toNat)
  case atStart => exact ⟨0, Nat.zero_le _, rfl, hid (fun j hj => absurd hj (Nat.not_lt_zero _)), hid (Below.refl _ _)⟩
  case round =>
    obtain ⟨k, hk, rfl, hpre, hbel⟩ := hrel
    by_cases hlt : k < n
    · obtain ⟨b, off, rfl, hbl, hcs⟩ := HL.out (by omega)
      have hr := hcs k hlt
      have HR := hid (show wr.rangeAt b (off + k * 12) (mcells (D k)).toList from fun j v hv => (hbel.out.cell (p := ⟨b, off + k * 12 + j, none⟩) hbl).trans (hr j v hv))
      have CA := hid (HM.out k hlt wr hbel.out)
      clear hr hcs hbl
      cases hbk : bd k with
      | true =>
        rw [hbk] at CA
        have Hbk := hid hbk
        clear hbk
        go_wp2_with (first
          | (with_reducible refine wp_mload_at rfl (.tmp 14) rfl b (off + k * 12) (D k) rfl HR.out ?_)
          | fail)
        refine CA.out.mono ?_
        rintro e w2 ⟨rfl, hb⟩
        have B2 := hid (hbel.out.trans (hb.mono hbel.out.size))
        clear hb
        go_wp2
        go_ret
        exact ⟨(k : Int), rfl, .inr ⟨by omega, k, hlt, Hbk.out⟩, B2.out⟩
      | false =>
        rw [hbk] at CA
        have Hbk := hid hbk
        clear hbk
        go_wp2_with (first
          | (with_reducible refine wp_mload_at rfl (.tmp 14) rfl b (off + k * 12) (D k) rfl HR.out ?_)
          | fail)
        refine CA.out.mono ?_
        rintro e w2 ⟨rfl, hb⟩
        have B2 := hid (hbel.out.trans (hb.mono hbel.out.size))
        clear hb
        go_wp2
        go_roundw
        case rel => exact ⟨k + 1, by omega, by go_num, hid (fun j hj => (Nat.lt_succ_iff_lt_or_eq.1 hj).elim (fun h => hpre.out j h) (fun e => e ▸ Hbk.out)), B2⟩
        case measure => simp [intOf]; omega
    · obtain rfl : k = n := by omega
      go_wp2
      go_ret
      exact ⟨-1, rfl, .inl ⟨rfl, hpre.out⟩, hbel.out⟩

set_option maxHeartbeats 1600000 in
theorem manybad_list {w : World} {A : Option Addr} {n c : Nat} {D : Nat → Nat → Dy} {bd : Nat → Bool} (h : Mlist w A n D) (hn : n ≤ 140737488355328) (hm : ∀ i, i < n → MAsks w (.agg (mcells (D i))) (bd i)) :
    Calls Tryd.prog 25 #[.slice A n c] w fun e w' => ∃ r : Bool, e = .returned (.bool r) ∧ Hid (r = true ↔ ∃ i, i < n ∧ bd i = true) ∧ Hid (Below w.heap.size w w') := by
  have C := hid (mindex_list (c := c) h hn hm)
  have C2 : Hid (Calls Tryd.prog 42 #[.slice A n c, .func (.func 43) #[] #[]] w fun e w' => ∃ r : Bool, e = .returned (.bool r) ∧ Hid (r = true ↔ ∃ i, i < n ∧ bd i = true) ∧ Hid (Below w.heap.size w w')) := by
    clear h hm hn
    go_enter Tryd.func42, Tryd.ntmps42
    go_wp2_with fail
    refine C.out.mono ?_
    rintro e w' ⟨r, rfl, HR, hb⟩
    rcases HR.out with ⟨rfl, hall⟩ | ⟨h0, i, hi, hbi⟩
    · have HA := hid hall
      clear hall HR C
      go_wp2
      go_ret
      exact ⟨false, rfl, ⟨(fun h => by cases h), fun ⟨i, hi, hbi⟩ => by rw [HA.out i hi] at hbi; cases hbi⟩, hb⟩
    · have HA := hid (And.intro hi hbi)
      clear hi hbi HR C
      go_wp2
      go_ret
      exact ⟨true, rfl, ⟨fun _ => ⟨i, HA.out.1, HA.out.2⟩, fun _ => rfl⟩, hb⟩
  clear C h hm hn
  go_enter Tryd.func25, Tryd.ntmps25
  go_wp2_with fail
  refine C2.out.mono ?_
  rintro e w' ⟨r, rfl, HR, hb⟩
  go_wp2
  go_ret
  exact ⟨r, rfl, HR, hb⟩

end Go.Proofs.YtelalanhalbicaaDoor


namespace Go.Proofs.YtelalanhalbicaaDoor
open Go.RowKit Go.Shelf

/-- The sum of the first i. -/
def psum (M : Nat → Nat → Int) : Nat → Nat → Int
  | 0, _ => 0
  | i + 1, k => psum M i k + M i k
/-- The error of a sum. -/
def SumE (n : Nat) (q : Nat → Nat → Prop) (M : Nat → Nat → Int) (er : Int) : Prop :=
  (4096 < n → er = 4) ∧ (n ≤ 4096 → (¬ ∀ i, i < n → All4 (q i)) → er = 8) ∧ (n ≤ 4096 → (∀ i, i < n → All4 (q i)) →
    ((∀ i, i < n → All4 (fun k => Okay (psum M (i + 1) k))) ∧ er = 0) ∨ ((¬ ∀ i, i < n → All4 (fun k => Okay (psum M (i + 1) k))) ∧ er = 10))

set_option maxHeartbeats 1600000 in
theorem msum_many {w : World} {A : Option Addr} {n c : Nat} (h : 4096 < n) (hn : n ≤ 140737488355328) : Calls Tryd.prog 21 #[.slice A n c] w fun e w' => e = .returned (.tuple #[.agg (mcells D0), .int .i64 4]) ∧ Hid (Below w.heap.size w w') := by
  have F0 := hid (fresh_mass w)
  go_enter Tryd.func21, Tryd.ntmps21
  go_wp2_with (first
    | (with_reducible refine wp_mzero rfl (.tmp 2) (.tmp 11) rfl w.heap.size D0 rfl rfl F0.out ?_)
    | fail)
  exact ret_mass rfl rfl rfl rfl (F0.out.store D0) ⟨rfl, (new_mass w D0).2⟩

set_option maxRecDepth 100000 in
set_option maxHeartbeats 3200000 in
theorem msum_any {w : World} {A : Option Addr} {n c : Nat} {D : Nat → Nat → Dy} {q : Nat → Nat → Prop} {M : Nat → Nat → Int} (h : Mlist w A n D) (hn : n ≤ 4096) (hM : ∀ i, i < n → Mar w (q i) (M i) (D i)) (hT : Tab w) :
    Calls Tryd.prog 21 #[.slice A n c] w (MRes w (SumE n q M) (psum M n)) := by
  obtain ⟨W, hW⟩ : ∃ W, W = w.alloc (.cells #[.bool false, .slice none 0 0, .int .i64 0, .bool false, .slice none 0 0, .int .i64 0, .bool false, .slice none 0 0, .int .i64 0, .bool false, .slice none 0 0, .int .i64 0] 26) := ⟨_, rfl⟩
  have HW := hid hW
  have K := hid (show Below w.heap.size w W from hW ▸ (Below.refl _ w).alloc (Nat.le_refl _) _)
  have F0 := hid (show Mbox W w.heap.size D0 from hW ▸ fresh_mass w)
  have HL := hid h
  have HM := hid hM
  have HT := hid hT
  have Hn := hid hn
  have CB := hid (manybad_list (w := W) (c := c) (bd := fun i => decide (¬ MMay (D i))) (HL.out.below K.out) (by omega) (fun i hi => ((HM.out i hi).below K.out).mrd.asks))
  have HMay := hid (fun i (hi : i < n) => (hM i hi).may)
  clear hW h hM hT
  go_enter Tryd.func21, Tryd.ntmps21
  go_upto_region 1 with fail
  rw [← HW.out]
  go_wp2_with fail
  refine CB.out.mono ?_
  rintro e w1 ⟨r, rfl, HR, hb⟩
  have K1 := hid (K.out.trans (hb.out.mono K.out.size))
  have F1 := hid (F0.out.below hb.out F0.out.lt)
  clear hb CB K F0
  cases r with
  | true =>
    have HB := hid (show ¬ ∀ i, i < n → All4 (q i) from fun hall => by
      obtain ⟨i, hi, hbi⟩ := HR.out.1 rfl
      exact (of_decide_eq_true hbi) ((HMay.out i hi).1 (hall i hi)))
    clear HR
    go_wp2_with (first
      | (with_reducible refine wp_mzero rfl (.tmp 2) (.tmp 14) rfl w.heap.size D0 rfl rfl F1.out ?_)
      | fail)
    have g := grown_mstore w1 w.heap.size D0
    exact ret_mass rfl rfl rfl rfl (F1.out.store D0) ⟨D0, 8, rfl, ⟨fun h => absurd h (by have := Hn.out; omega), fun _ _ => rfl, fun _ h => absurd h HB.out⟩, Mow.zero _ _, below_row K1.out g K1.out.size (Nat.le_refl _)⟩
  | false =>
    have HA := hid (show ∀ i, i < n → All4 (q i) from fun i hi => by
      refine (HMay.out i hi).2 (Decidable.byContradiction fun hno => ?_)
      have := HR.out.2 ⟨i, hi, decide_eq_true hno⟩
      cases this)
    clear HR
    go_upto_region 6 with fail
    obtain ⟨W2, hW2⟩ : ∃ W2, W2 = w1.alloc (.cells #[.bool false, .slice none 0 0, .int .i64 0, .bool false, .slice none 0 0, .int .i64 0, .bool false, .slice none 0 0, .int .i64 0, .bool false, .slice none 0 0, .int .i64 0] 26) := ⟨_, rfl⟩
    rw [← hW2]
    have G0 := hid (show Mbox W2 w1.heap.size D0 from hW2 ▸ fresh_mass w1)
    have hb2 := hid (show Below w1.heap.size w1 W2 from hW2 ▸ (Below.refl _ w1).alloc (Nat.le_refl _) _)
    have K2 := hid (K1.out.trans (hb2.out.mono K1.out.size))
    have F2 := hid (F1.out.below hb2.out F1.out.lt)
    have Hne := hid (show w.heap.size < w1.heap.size from F1.out.lt)
    clear hW2 hb2 K1 F1 HMay
    go_wp2
    go_loopw [17] (fun i wr => ∃ (k : Nat) (T : Nat → Dy), k ≤ n ∧ i = .int .i64 (k : Int) ∧ Hid (Mbox wr w.heap.size D0) ∧ Hid (Mbox wr w1.heap.size T) ∧ Hid (Mow (w.heap.size + 1) wr (psum M k) T) ∧ Hid (∀ j, j < k → All4 (fun x => Okay (psum M (j + 1) x))) ∧ Hid (Below w.heap.size w wr)) (fun i _ => n - (intOf i).toNat)
    case atStart => exact ⟨0, D0, Nat.zero_le _, rfl, F2, G0, hid (Mow.zero _ _), hid (fun j hj => absurd hj (Nat.not_lt_zero _)), K2⟩
    case round =>
      obtain ⟨k, T, hk, rfl, R0, RT, RW, RP, RK⟩ := hrel
      clear F2 G0 K2
      by_cases hlt : k < n
      · obtain ⟨b, off, rfl, hbl, hcs⟩ := HL.out.below RK.out (by omega)
        have HR := hid (hcs k hlt)
        clear hcs hbl
        have G6 := hid (fresh_mass wr)
        go_upto_region 10 with (first
          | (with_reducible refine wp_mload_at rfl (.tmp 19) rfl b (off + k * 12) (D k) rfl HR.out ?_)
          | (with_reducible refine wp_mstore rfl (.tmp 6) (.tmp 20) rfl wr.heap.size D0 (D k) rfl rfl G6.out ?_)
          | fail)
        obtain ⟨W3, hW3⟩ : ∃ W, W = mstore (wr.alloc (.cells #[.bool false, .slice none 0 0, .int .i64 0, .bool false, .slice none 0 0, .int .i64 0, .bool false, .slice none 0 0, .int .i64 0, .bool false, .slice none 0 0, .int .i64 0] 26)) wr.heap.size (D k) := ⟨_, rfl⟩
        rw [← hW3]
        have P6 : Hid (Mbox W3 wr.heap.size (D k)) := hid (hW3 ▸ (new_mass wr (D k)).1)
        have hb3 : Hid (Below wr.heap.size wr W3) := hid (hW3 ▸ (new_mass wr (D k)).2)
        have R03 := hid (R0.out.below hb3.out R0.out.lt)
        have RT3 := hid (RT.out.below hb3.out RT.out.lt)
        have RW3 := hid (RW.out.below hb3.out)
        have RK3 := hid (RK.out.trans (hb3.out.mono RK.out.size))
        clear hW3 hb3 R0 RT RW RK G6 HR
        have CJ := hid (mjoined_add RW3.out.mar ((HM.out k hlt).below RK3.out) (fun _ _ => trivial) (HA.out k hlt) (H := psum M (k + 1)) (fun _ _ => rfl) (HT.out.below RK3.out HT.out.lt))
        go_wp2_with (first
          | (with_reducible refine wp_mload rfl (.tmp 4) rfl w1.heap.size T rfl RT3.out ?_)
          | (with_reducible refine wp_mload rfl (.tmp 6) rfl wr.heap.size (D k) rfl P6.out ?_)
          | fail)
        refine CJ.out.mono ?_
        rintro e w4 ⟨T2, er, rfl, HE, HM4, hb4⟩
        have R04 := hid (R03.out.below hb4.out R03.out.lt)
        have RT4 := hid (RT3.out.below hb4.out RT3.out.lt)
        have RK4 := hid (RK3.out.trans (hb4.out.mono RK3.out.size))
        have Hsz := hid (show w.heap.size + 1 ≤ W3.heap.size from R03.out.lt)
        have g4 := grown_mstore w4 w1.heap.size T2
        have Q0 := hid (R04.out.grown g4 (by have := Hne.out; omega))
        have QT := hid (RT4.out.store T2)
        have QK := hid (below_row RK4.out g4 RK4.out.size (by have := Hne.out; omega))
        have QW : Hid (Mow (w.heap.size + 1) (mstore w4 w1.heap.size T2) (resM er (psum M (k + 1))) T2) := hid ((HM4.out.grown_box RT4.out g4).mono Hsz.out)
        clear R03 RT3 RW3 RK3 P6 CJ HM4 g4
        obtain ⟨W5, hW5⟩ : ∃ W, W = mstore w4 w1.heap.size T2 := ⟨_, rfl⟩
        have HW5 := hid hW5
        rw [← hW5] at Q0 QT QK QW
        clear hW5
        rcases HE.out with ⟨hok, rfl⟩ | ⟨hno, rfl⟩
        · have HOk := hid hok
          have QW2 : Hid (Mow (w.heap.size + 1) W5 (psum M (k + 1)) T2) := hid (by have := QW.out; rwa [resM_ok rfl] at this)
          clear hok QW HE
          go_wp2_with (first
            | (with_reducible refine wp_mstore rfl (.tmp 4) (.tmp 25) rfl w1.heap.size T T2 rfl rfl RT4.out ?_; rw [← HW5.out])
            | fail)
          go_roundw
          case rel => exact ⟨k + 1, T2, by omega, by go_num, Q0, QT, QW2, hid (fun j hj => (Nat.lt_succ_iff_lt_or_eq.1 hj).elim (fun h => RP.out j h) (fun e => e ▸ HOk.out)), QK⟩
          case measure => simp [intOf]; omega
        · have HNo := hid (show ¬ ∀ i, i < n → All4 (fun x => Okay (psum M (i + 1) x)) from fun h => hno (h k hlt))
          clear hno QW HE
          go_wp2_with (first
            | (with_reducible refine wp_mstore rfl (.tmp 4) (.tmp 25) rfl w1.heap.size T T2 rfl rfl RT4.out ?_; rw [← HW5.out])
            | (with_reducible refine wp_mzero rfl (.tmp 2) (.tmp 29) rfl w.heap.size D0 rfl rfl Q0.out ?_)
            | fail)
          have g := grown_mstore W5 w.heap.size D0
          exact ret_mass rfl rfl rfl rfl (Q0.out.store D0) ⟨D0, 10, rfl, ⟨fun h => absurd h (by have := Hn.out; omega), fun _ h => absurd HA.out h, fun _ _ => .inr ⟨HNo.out, rfl⟩⟩, Mow.zero _ _, below_row QK.out g QK.out.size (Nat.le_refl _)⟩
      · obtain rfl : k = n := by omega
        go_wp2_with (first
          | (with_reducible refine wp_mload rfl (.tmp 4) rfl w1.heap.size T rfl RT.out ?_)
          | (with_reducible refine wp_mstore rfl (.tmp 2) (.tmp 32) rfl w.heap.size D0 T rfl rfl R0.out ?_)
          | fail)
        have g := grown_mstore wr w.heap.size T
        exact ret_mass rfl rfl rfl rfl (R0.out.store T) ⟨T, 0, rfl, ⟨fun h => absurd h (by have := Hn.out; omega), fun _ h => absurd HA.out h, fun _ _ => .inl ⟨RP.out, rfl⟩⟩, (fun x hx => ((RW.out x hx).grown g (by omega)).mono (by omega)), below_row RK.out g RK.out.size (Nat.le_refl _)⟩

end Go.Proofs.YtelalanhalbicaaDoor


namespace Go.Proofs.YtelalanhalbicaaDoor
open Go.RowKit Go.Shelf

/-- What a mass that came in is. -/
theorem mar_of {w : World} {D : Nat → Dy} (h : Mrd w w.heap.size D) (hn : ∀ k, k < 4 → (D k).A = none → (D k).n = 0 ∧ (D k).c = 0) : ∃ (q : Nat → Prop) (M : Nat → Int), Mar w q M D :=
  ⟨fun k => DMay (D k).s (D k).n (D k).f (D k).x, fun k => dv (D k).s (vl (D k).f (D k).n) (D k).x.toNat, fun k hk => ⟨h k hk, Iff.rfl, fun hm => ⟨(D k).x.toNat, by have := hm.2.1; omega, rfl⟩, hn k hk⟩⟩
theorem Mar.okay {w : World} {q : Nat → Prop} {M : Nat → Int} {D : Nat → Dy} (h : Mar w q M D) (hq : All4 q) : All4 (fun k => Okay (M k)) := fun k hk => (h k hk).arg.okay (hq k hk)
theorem Mar.check {w : World} {q : Nat → Prop} {M : Nat → Int} {D : Nat → Dy} (h : Mar w q M D) : Calls Tryd.prog 17 #[.agg (mcells D)] w fun e w' => ∃ er, e = .returned (.int .i64 er) ∧ Hid ((All4 q → er = 0) ∧ (¬ All4 q → er = 8)) ∧ Hid (Below w.heap.size w w') := by
  refine (mcheck_any h.mrd).mono ?_
  rintro e w' ⟨er, rfl, h1, h2, hb⟩
  refine ⟨er, rfl, ⟨fun hq => h1.out.2 (h.may.1 hq), fun hq => ?_⟩, hb⟩
  rcases h2.out with h0 | h0
  · exact absurd (h.may.2 (h1.out.1 h0)) hq
  · exact h0
theorem madd_good {w : World} {q p : Nat → Prop} {M N R : Nat → Int} {D E : Nat → Dy} (h : Mar w q M D) (h2 : Mar w p N E) (hq : All4 q) (hp : All4 p) (hT : Tab w) (hR : ∀ k, k < 4 → M k + N k = R k) (ho : All4 (fun k => Okay (R k))) :
    Calls Tryd.prog 7 #[.agg (mcells D), .agg (mcells E)] w (MGood w R) := by
  refine (madd_any h h2 hT).mono ?_
  intro e w' hr
  have hg := hr.good (fun er he => he.good ⟨hq, hp⟩ (fun k hk => by have h0 : Okay (R k) := ho k hk; show Okay (M k + N k); rw [hR k hk]; exact h0))
  obtain ⟨S, rfl, HM, hb⟩ := hg
  exact ⟨S, rfl, (fun k hk => by rw [← hR k hk]; exact HM.out k hk), hb⟩
theorem mar_zero3 (w : World) : Mar w (fun _ => True) (fun _ => 0) D0 := (Mow.zero 0 w).mar

end Go.Proofs.YtelalanhalbicaaDoor


namespace Go.Proofs.YtelalanhalbicaaDoor
open Go.RowKit Go.Shelf

theorem row3 {w : World} {g : Nat} {t : TypeId} {D E F : Nat → Dy} (h : w.heap[g]? = some (.cells #[.bool (D 0).s, .slice (D 0).A (D 0).n (D 0).c, .int .i64 (D 0).x, .bool (D 1).s, .slice (D 1).A (D 1).n (D 1).c, .int .i64 (D 1).x, .bool (D 2).s, .slice (D 2).A (D 2).n (D 2).c, .int .i64 (D 2).x, .bool (D 3).s, .slice (D 3).A (D 3).n (D 3).c, .int .i64 (D 3).x, .bool (E 0).s, .slice (E 0).A (E 0).n (E 0).c, .int .i64 (E 0).x, .bool (E 1).s, .slice (E 1).A (E 1).n (E 1).c, .int .i64 (E 1).x, .bool (E 2).s, .slice (E 2).A (E 2).n (E 2).c, .int .i64 (E 2).x, .bool (E 3).s, .slice (E 3).A (E 3).n (E 3).c, .int .i64 (E 3).x, .bool (F 0).s, .slice (F 0).A (F 0).n (F 0).c, .int .i64 (F 0).x, .bool (F 1).s, .slice (F 1).A (F 1).n (F 1).c, .int .i64 (F 1).x, .bool (F 2).s, .slice (F 2).A (F 2).n (F 2).c, .int .i64 (F 2).x, .bool (F 3).s, .slice (F 3).A (F 3).n (F 3).c, .int .i64 (F 3).x] t (0, 0))) : Mlist w (some ⟨g, 0, none⟩) 3 (of4 D E F F) := fun _ => by
  refine ⟨g, 0, rfl, lt_of_heap h, fun i hi j v hv => ?_⟩
  rw [cell_of_row w g _ _ _ (0, 0) h]
  have hj : j < 12 := by
    have := (List.getElem?_eq_some_iff.1 hv).1
    simpa using this
  have e : (#[.bool (D 0).s, .slice (D 0).A (D 0).n (D 0).c, .int .i64 (D 0).x, .bool (D 1).s, .slice (D 1).A (D 1).n (D 1).c, .int .i64 (D 1).x, .bool (D 2).s, .slice (D 2).A (D 2).n (D 2).c, .int .i64 (D 2).x, .bool (D 3).s, .slice (D 3).A (D 3).n (D 3).c, .int .i64 (D 3).x, .bool (E 0).s, .slice (E 0).A (E 0).n (E 0).c, .int .i64 (E 0).x, .bool (E 1).s, .slice (E 1).A (E 1).n (E 1).c, .int .i64 (E 1).x, .bool (E 2).s, .slice (E 2).A (E 2).n (E 2).c, .int .i64 (E 2).x, .bool (E 3).s, .slice (E 3).A (E 3).n (E 3).c, .int .i64 (E 3).x, .bool (F 0).s, .slice (F 0).A (F 0).n (F 0).c, .int .i64 (F 0).x, .bool (F 1).s, .slice (F 1).A (F 1).n (F 1).c, .int .i64 (F 1).x, .bool (F 2).s, .slice (F 2).A (F 2).n (F 2).c, .int .i64 (F 2).x, .bool (F 3).s, .slice (F 3).A (F 3).n (F 3).c, .int .i64 (F 3).x] : Array Value).toList = (mcells D).toList ++ ((mcells E).toList ++ (mcells F).toList) := rfl
  have s1 : (mcells D).toList.length = 12 := rfl
  have s2 : (mcells E).toList.length = 12 := rfl
  rw [← Array.getElem?_toList, e]
  have hc : i = 0 ∨ i = 1 ∨ i = 2 := by omega
  rcases hc with rfl | rfl | rfl
  · rw [List.getElem?_append_left (by rw [s1]; omega), show 0 + 0 * 12 + j = j by omega]
    exact hv
  · rw [List.getElem?_append_right (by rw [s1]; omega), List.getElem?_append_left (by rw [s1, s2]; omega), s1, show 0 + 1 * 12 + j - 12 = j by omega]
    exact hv
  · rw [List.getElem?_append_right (by rw [s1]; omega), List.getElem?_append_right (by rw [s1, s2]; omega), s1, s2, show 0 + 2 * 12 + j - 12 - 12 = j by omega]
    exact hv
theorem Merrs.uniq {p p' : Prop} {M N : Nat → Int} {a b : Int} (h : Merrs p M a) (k : Merrs p' N b) (hp : p ↔ p') (hMN : ∀ x, x < 4 → M x = N x) : a = b := by
  by_cases hpp : p
  · have h1 := h.1 hpp
    have h2 := k.1 (hp.1 hpp)
    have e : All4 (fun x => Okay (M x)) ↔ All4 (fun x => Okay (N x)) := ⟨fun ha x hx => by have h0 : Okay (M x) := ha x hx; show Okay (N x); rwa [← hMN x hx], fun ha x hx => by have h0 : Okay (N x) := ha x hx; show Okay (M x); rwa [hMN x hx]⟩
    rcases h1 with ⟨h1, rfl⟩ | ⟨h1, rfl⟩ <;> rcases h2 with ⟨h2, rfl⟩ | ⟨h2, rfl⟩
    · rfl
    · exact absurd (e.1 h1) h2
    · exact absurd (e.2 h2) h1
    · rfl
  · rw [h.2 hpp, k.2 (fun h => hpp (hp.2 h))]
theorem msub_good {w : World} {q p : Nat → Prop} {M N R : Nat → Int} {D E : Nat → Dy} (h : Mar w q M D) (h2 : Mar w p N E) (hq : All4 q) (hp : All4 p) (hT : Tab w) (hR : ∀ k, k < 4 → M k - N k = R k) (ho : All4 (fun k => Okay (R k))) :
    Calls Tryd.prog 9 #[.agg (mcells D), .agg (mcells E)] w (MGood w R) := by
  refine (msub_any h h2 hT).mono ?_
  intro e w' hr
  have hg := hr.good (fun er he => he.good ⟨hq, hp⟩ (fun k hk => by have h0 : Okay (R k) := ho k hk; show Okay (M k - N k); rw [hR k hk]; exact h0))
  obtain ⟨S, rfl, HM, hb⟩ := hg
  exact ⟨S, rfl, (fun k hk => by rw [← hR k hk]; exact HM.out k hk), hb⟩
theorem resM_congr {er : Int} {M N : Nat → Int} (h : ∀ k, k < 4 → M k = N k) : ∀ k, k < 4 → resM er M k = resM er N k := fun k hk => by
  unfold resM
  split
  · exact h k hk
  · rfl
/-- The sum of three, where that of two may be. -/
theorem sum3_err {q p r : Nat → Prop} {M N R : Nat → Int} {h i : Int} (hq : All4 q) (hp : All4 p) (ho : All4 (fun k => Okay (M k))) (ho2 : All4 (fun k => Okay (M k + N k)))
    (hs : SumE 3 (of4 q p r r) (of4 M N R R) h) (ht : Merrs (All4 (fun _ : Nat => True) ∧ All4 r) (fun k => M k + N k + R k) i) : h = i ∧ ∀ k, k < 4 → resM h (psum (of4 M N R R) 3) k = resM i (fun k => M k + N k + R k) k := by
  have e3 : ∀ k, k < 4 → psum (of4 M N R R) 3 k = M k + N k + R k := fun k _ => by show 0 + M k + N k + R k = _; omega
  have key : h = i := by
    by_cases hr : All4 r
    · have hall : ∀ j, j < 3 → All4 (of4 q p r r j) := fun j hj => by
        have hc : j = 0 ∨ j = 1 ∨ j = 2 := by omega
        rcases hc with rfl | rfl | rfl <;> assumption
      have h1 := hs.2.2 (by omega) hall
      have h2 := ht.1 ⟨fun _ _ => trivial, hr⟩
      have e : (∀ j, j < 3 → All4 (fun k => Okay (psum (of4 M N R R) (j + 1) k))) ↔ All4 (fun k => Okay (M k + N k + R k)) := by
        constructor
        · intro ha k hk
          have h0 : Okay (psum (of4 M N R R) 3 k) := ha 2 (by omega) k hk
          show Okay (M k + N k + R k)
          rwa [e3 k hk] at h0
        · intro ha j hj k hk
          have hc : j = 0 ∨ j = 1 ∨ j = 2 := by omega
          rcases hc with rfl | rfl | rfl
          · show Okay (0 + M k)
            rw [Int.zero_add]
            exact ho k hk
          · show Okay (0 + M k + N k)
            rw [Int.zero_add]
            exact ho2 k hk
          · show Okay (psum (of4 M N R R) 3 k)
            rw [e3 k hk]
            exact ha k hk
      rcases h1 with ⟨h1, rfl⟩ | ⟨h1, rfl⟩ <;> rcases h2 with ⟨h2, rfl⟩ | ⟨h2, rfl⟩
      · rfl
      · exact absurd (e.1 h1) h2
      · exact absurd (e.2 h2) h1
      · rfl
    · rw [hs.2.1 (by omega) (fun ha => hr (ha 2 (by omega))), ht.2 (fun ha => hr ha.2)]
  exact ⟨key, fun k hk => by rw [key]; exact resM_congr e3 k hk⟩

end Go.Proofs.YtelalanhalbicaaDoor

