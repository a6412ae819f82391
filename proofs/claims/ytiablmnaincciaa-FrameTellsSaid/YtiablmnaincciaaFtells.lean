/- FrameTells, walked. -/
import Derived.Test.YtiablmnaincciaaFrtg
import Derived.Test.YtiablmnaincciaaFset
namespace Go.Proofs.Ytiablmnaincciaa
open Go.RowKit

/-- What Put hands back, and its error. -/
def pf (k : Nat) (xs : List Nat) : List Nat := if xs.length ≤ 4096 then frm k xs else []
def pe (xs : List Nat) : Int := if xs.length ≤ 4096 then 0 else 4
/-- What Take hands back. -/
def tk (xs : List Nat) : Nat := if flt xs = 0 then xs.getD 2 0 else 0
def tb (xs : List Nat) : List Nat := if flt xs = 0 then (xs.take (xs.length - 4)).drop 5 else []

theorem Put_any {w : World} {n c : Nat} {A : Option Addr} {k : Nat} {xs : List Nat} (h : By w w.heap.size A n c xs) (hk : k < 256) :
    Calls Try.prog 8 #[.int .u8 (k : Int), .slice A n c] w fun e w' => ∃ v, e = .returned (.tuple #[v, .int .i64 (pe xs)]) ∧ Hid (Ow w' w.heap.size v (pf k xs)) ∧ Hid (Below w.heap.size w w') := by
  unfold pe pf
  rw [h.len]
  by_cases hn : n ≤ 4096
  · rw [if_pos hn, if_pos hn]
    exact Put_fits h hk hn
  · rw [if_neg hn, if_neg hn]
    exact (Put_many (by omega)).mono fun e w' h => by
      obtain ⟨rfl, rfl⟩ := h
      exact ⟨_, rfl, hid (Ow.nil _ _), hid (Below.refl _ _)⟩
theorem RPut_any {w : World} {n c : Nat} {A : Option Addr} {k : Nat} {xs : List Nat} (h : By w w.heap.size A n c xs) (hk : k < 256) :
    Calls Try.prog 12 #[.int .u8 (k : Int), .slice A n c] w fun e w' => ∃ v, e = .returned (.tuple #[v, .int .i64 (pe xs)]) ∧ Hid (Ow w' w.heap.size v (pf k xs)) ∧ Hid (Below w.heap.size w w') := by
  unfold pe pf
  rw [h.len]
  by_cases hn : n ≤ 4096
  · rw [if_pos hn, if_pos hn]
    exact RPut_fits h hk hn
  · rw [if_neg hn, if_neg hn]
    exact (RPut_many (by omega)).mono fun e w' h => by
      obtain ⟨rfl, rfl⟩ := h
      exact ⟨_, rfl, hid (Ow.nil _ _), hid (Below.refl _ _)⟩
theorem Take_any {w : World} {B n c : Nat} {A : Option Addr} {xs : List Nat} (h : By w B A n c xs) (hB : B ≤ w.heap.size) :
    Calls Try.prog 9 #[.slice A n c] w fun e w' => ∃ v, e = .returned (.tuple #[.int .u8 (tk xs : Int), v, .int .i64 (flt xs)]) ∧ Hid (Ow w' w.heap.size v (tb xs)) ∧ Hid (Below w.heap.size w w') := by
  unfold tk tb
  by_cases hf : flt xs = 0
  · rw [if_pos hf, if_pos hf, hf]
    exact Take_good h hB hf
  · rw [if_neg hf, if_neg hf]
    exact (Take_bad h hB hf).mono fun e w' h => by
      obtain ⟨rfl, hb⟩ := h
      exact ⟨_, rfl, hid (Ow.nil _ _), hb⟩
theorem RTake_any {w : World} {B n c : Nat} {A : Option Addr} {xs : List Nat} (h : By w B A n c xs) (hB : B ≤ w.heap.size) :
    Calls Try.prog 13 #[.slice A n c] w fun e w' => ∃ v, e = .returned (.tuple #[.int .u8 (tk xs : Int), v, .int .i64 (flt xs)]) ∧ Hid (Ow w' w.heap.size v (tb xs)) ∧ Hid (Below w.heap.size w w') := by
  have hlen := h.len
  by_cases h9 : n < 9
  · have hf : flt xs = 40 := by unfold flt; rw [if_pos (by omega)]
    unfold tk tb
    rw [hf, if_neg (by omega), if_neg (by omega)]
    exact (RTake_short h9).mono fun e w' h => by
      obtain ⟨rfl, rfl⟩ := h
      exact ⟨_, rfl, hid (Ow.nil _ _), hid (Below.refl _ _)⟩
  · obtain ⟨m, rfl⟩ : ∃ m, n = m + 9 := ⟨n - 9, by omega⟩
    have e4 : xs.length - 4 = m + 5 := by omega
    have e9 : xs.length - 9 = m := by omega
    by_cases hs : nm (xs.drop (m + 5)) = crc (xs.take (m + 5))
    · by_cases hf : xs.getD 0 0 = 72 ∧ xs.getD 1 0 = 1 ∧ m ≤ 4096 ∧ xs.getD 3 0 * 256 + xs.getD 4 0 = m
      · have hz : flt xs = 0 := by unfold flt; rw [if_neg (by omega), e4, if_pos hs, e9, if_pos hf]
        unfold tk tb
        rw [if_pos hz, if_pos hz, hz, e4]
        exact RTake_good h hB hs hf
      · have hz : flt xs = 41 := by unfold flt; rw [if_neg (by omega), e4, if_pos hs, e9, if_neg hf]
        unfold tk tb
        rw [hz, if_neg (by omega), if_neg (by omega)]
        exact (RTake_form h hs hf).mono fun e w' h => by
          obtain ⟨rfl, hb⟩ := h
          exact ⟨_, rfl, hid (Ow.nil _ _), hb⟩
    · have hz : flt xs = 42 := by unfold flt; rw [if_neg (by omega), e4, if_neg hs]
      unfold tk tb
      rw [hz, if_neg (by omega), if_neg (by omega)]
      exact (RTake_sum h hs).mono fun e w' h => by
        obtain ⟨rfl, rfl⟩ := h
        exact ⟨_, rfl, hid (Ow.nil _ _), hid (Below.refl _ _)⟩

/-- Only the row at A has been written. -/
def Wr (A : Option Addr) (w w' : World) : Prop := (A = none ∧ w' = w) ∨ ∃ g, A = some ⟨g, 0, none⟩ ∧ w.grownBy w' (some g)
theorem Wr.refl {A : Option Addr} {B n c : Nat} {w : World} {xs : List Nat} (h : Ow w B (.slice A n c) xs) : Wr A w w := by
  obtain ⟨⟨_, hor⟩, -⟩ := h
  rcases hor with ⟨e, _⟩ | ⟨g, cap, cur, e, _⟩
  · injection e with e1
    exact .inl ⟨e1, rfl⟩
  · injection e with e1
    exact .inr ⟨g, e1, ⟨rfl, rfl, rfl, Nat.le_refl _, fun _ _ _ => rfl⟩⟩
theorem Wr.set {g : Nat} {w w' : World} (h : Wr (some ⟨g, 0, none⟩) w w') (j : Nat) (u : Value) : Wr (some ⟨g, 0, none⟩) w (w'.setCell ⟨g, j, none⟩ u) := by
  rcases h with ⟨e, _⟩ | ⟨g', e, hg⟩
  · cases e
  · injection e with e
    injection e with e1
    subst e1
    exact .inr ⟨g, rfl, hg.os, hg.tape, hg.output, by simpa [World.setCell] using hg.size, fun i hi hne => (Below.heap_setCell _ _ _ i (by rintro rfl; exact hne rfl)).trans (hg.block i hi hne)⟩
theorem Wr.below {A : Option Addr} {w w' w0 : World} {B : Nat} (h : Wr A w w') (hb : Below B w0 w) (hs : B ≤ w.heap.size) (hA : ∀ g, A = some ⟨g, 0, none⟩ → B ≤ g) : Below B w0 w' := by
  rcases h with ⟨_, rfl⟩ | ⟨g, e, hg⟩
  · exact hb
  · exact hb.grown hg hs (fun k hk => by injection hk with hk; subst hk; exact hA _ e)

theorem Ow.from {w : World} {B n c : Nat} {A : Option Addr} {xs : List Nat} (h : Ow w B (.slice A n c) xs) : ∀ g, A = some ⟨g, 0, none⟩ → B ≤ g ∧ g < w.heap.size := by
  obtain ⟨⟨_, hor⟩, -⟩ := h
  rintro g rfl
  rcases hor with ⟨e, _⟩ | ⟨g', cap, cur, e, hg, hh, _⟩
  · cases e
  · injection e with e1
    injection e1 with e1
    injection e1 with e1
    subst e1
    exact ⟨hg, lt_of_heap hh⟩
/-- A row of the call's own that is not the one that was written. -/
theorem Ow.wr {w w' : World} {A : Option Addr} {B n c : Nat} {A' : Option Addr} {xs : List Nat} (h : Ow w B (.slice A' n c) xs) (hw : Wr A w w') (hA : ∀ g, A = some ⟨g, 0, none⟩ → g < B) : Ow w' B (.slice A' n c) xs := by
  rcases hw with ⟨_, rfl⟩ | ⟨g, e, hg⟩
  · exact h
  · have hgB := hA g e
    refine ⟨?_, h.2⟩
    obtain ⟨⟨hl, hor⟩, -⟩ := h
    refine ⟨hl, ?_⟩
    rcases hor with h0 | ⟨g', cap, cur, e1, hg', hh, hr⟩
    · exact .inl h0
    · exact .inr ⟨g', cap, cur, e1, hg', (hg.block g' (lt_of_heap hh) (by intro e; injection e with e; omega)).trans hh, hr⟩

theorem wrap_u8 (x : Nat) : ∃ y : Nat, y < 256 ∧ ((x : Int) + 1) % 256 = (y : Int) := ⟨(x + 1) % 256, Nat.mod_lt _ (by omega), by omega⟩

set_option maxHeartbeats 12800000 in
theorem tells_walk {w : World} {n c : Nat} {A : Option Addr} {kind : Int} {xs : List Nat} (hk : 0 ≤ kind ∧ kind ≤ 255) (h : By w w.heap.size A n c xs) :
    Calls Try.prog 4 #[.int .u8 kind, .slice A n c] w fun e w' => e = .returned (.bool true) ∧ Below w.heap.size w w' := by
  have hmax := h.max
  have HX := hid h
  obtain ⟨k, rfl⟩ : ∃ k : Nat, kind = k := ⟨kind.toNat, by omega⟩
  have hk256 : k < 256 := by omega
  clear h hk
  by_cases hbig : 5000 < (n : Int)
  · go_enter Try.func4, Try.ntmps4
    go_wp2
    go_ret
    exact ⟨rfl, Below.refl _ _⟩
  · obtain ⟨L1, hL1⟩ : ∃ L, L = (pf k xs).length := ⟨_, rfl⟩
    obtain ⟨L2, hL2⟩ : ∃ L, L = (tb xs).length := ⟨_, rfl⟩
    have HL1 := hid hL1
    have HL2 := hid hL2
    obtain ⟨er, her⟩ : ∃ e, e = pe xs := ⟨_, rfl⟩
    obtain ⟨fx, hfx⟩ : ∃ e, e = flt xs := ⟨_, rfl⟩
    obtain ⟨kk, hkk⟩ : ∃ e, e = tk xs := ⟨_, rfl⟩
    obtain ⟨S, hS⟩ : ∃ e, e = crc xs := ⟨_, rfl⟩
    have Her := hid her
    have Hfx := hid hfx
    have Hkk := hid hkk
    have HS := hid hS
    clear hL1 hL2 her hfx hkk hS
    go_enter Try.func4, Try.ntmps4
    go_wp2_with (at_builtin; refine copy_bytes rfl (.tmp 22) (.tmp 23) rfl rfl rfl HX.out (by omega) ?_; intro v1 w1 hO1 hb1; have hsh1 := hO1.out.shape; rw [HX.out.len] at hsh1; obtain ⟨A1, c1, rfl, hY1⟩ := hsh1; have HY1 := hid hY1; clear hY1)
    have C1 := Put_any HY1.out hk256
    rw [← Her.out] at C1
    have D1 := hid C1
    clear C1
    with_reducible refine D1.out.mono ?_
    rintro e w2 ⟨v2, rfl, hO2, hb2⟩
    have hsh2 := hO2.out.shape
    rw [← HL1.out] at hsh2
    obtain ⟨A2, c2, rfl, hY2⟩ := hsh2
    have K1 := hid hb1.out
    have hs1 := K1.out.size
    have K2 := hid (K1.out.trans (hb2.out.mono hs1))
    have hs2 := K2.out.size
    have HX2 := hid (HX.out.below K2.out)
    have C2 := RPut_any (HX2.out.mono hs2) hk256
    rw [← Her.out] at C2
    have D2 := hid C2
    have HY2 := hid hY2
    clear C2 D1 hY2
    go_wp2_with fail
    with_reducible refine D2.out.mono ?_
    rintro e w3 ⟨v3, rfl, hO3, hb3⟩
    have hsh3 := hO3.out.shape
    rw [← HL1.out] at hsh3
    obtain ⟨A3, c3, rfl, hY3⟩ := hsh3
    have K3 := hid (K2.out.trans (hb3.out.mono hs2))
    have hs3 := K3.out.size
    have HY13 := hid ((HY1.out.below hb2.out).below (hb3.out.mono (by have := hb2.out.size; omega)))
    have h13 : w1.heap.size ≤ w3.heap.size := Nat.le_trans hb2.out.size hb3.out.size
    have C3 := Take_any HY13.out h13
    rw [← Hkk.out, ← Hfx.out] at C3
    have D3 := hid C3
    have HY3 := hid hY3
    clear C3 D2 hY3
    go_wp2_with fail
    with_reducible refine D3.out.mono ?_
    rintro e w4 ⟨v4, rfl, hO4, hb4⟩
    have hsh4 := hO4.out.shape
    rw [← HL2.out] at hsh4
    obtain ⟨A4, c4, rfl, hY4⟩ := hsh4
    have K4 := hid (K3.out.trans (hb4.out.mono hs3))
    have hs4 := K4.out.size
    have C4 := RTake_any (HX.out.below K4.out) hs4
    rw [← Hkk.out, ← Hfx.out] at C4
    have D4 := hid C4
    have HY4 := hid hY4
    clear C4 D3 hY4
    go_wp2_with fail
    with_reducible refine D4.out.mono ?_
    rintro e w5 ⟨v5, rfl, hO5, hb5⟩
    have hsh5 := hO5.out.shape
    rw [← HL2.out] at hsh5
    obtain ⟨A5, c5, rfl, hY5⟩ := hsh5
    have K5 := hid (K4.out.trans (hb5.out.mono hs4))
    have hs5 := K5.out.size
    have z12 := hb2.out.size
    have z23 := hb3.out.size
    have z34 := hb4.out.size
    have z45 := hb5.out.size
    have b25 : Hid (Below w2.heap.size w2 w5) := hid ((hb3.out.trans (hb4.out.mono z23)).trans (hb5.out.mono (Nat.le_trans z23 z34)))
    have b35 : Hid (Below w3.heap.size w3 w5) := hid (hb4.out.trans (hb5.out.mono z34))
    have HY15 := hid ((HY13.out.mono h13).below b35.out)
    have O2 := hid (hO2.out.below b25.out (Nat.le_refl _))
    have O4 := hid (hO4.out.below hb5.out (Nat.le_refl _))
    have C5 := Sum_any HY15.out
    rw [← HS.out] at C5
    have D5 := hid C5
    have C6 := RSum_any (HX.out.below K5.out)
    rw [← HS.out] at C6
    have D6 := hid C6
    have cv2 := conv_any (HY2.out.below b25.out)
    have cv3 := conv_any (HY3.out.below b35.out)
    have cv4 := conv_any (HY4.out.below hb5.out)
    have cv5 := conv_any hY5
    have se1 : (str (pf k xs) == str (pf k xs)) = true := beq_self_eq_true (str (pf k xs)).data
    have se2 : (str (tb xs) == str (tb xs)) = true := beq_self_eq_true (str (tb xs)).data
    generalize str (pf k xs) = T1 at *
    generalize str (tb xs) = T2 at *
    clear C5 C6 D4 hY5
    go_wp2_with (first
      | (go_at_call 10; with_reducible refine D5.out.mono ?_; rintro e w6 ⟨rfl, rfl⟩)
      | (go_at_call 14; with_reducible refine D6.out.mono ?_; rintro e w6 ⟨rfl, rfl⟩)
      | fail)
    have gA2 := hid hO2.out.from
    have gA4 := hid hO4.out.from
    have b15 : Hid (Below w1.heap.size w1 w5) := hid (hb2.out.trans (b25.out.mono z12))
    have z15 : w1.heap.size ≤ w5.heap.size := by omega
    have z13 : w2.heap.size ≤ w3.heap.size := z23
    go_loopw [17] (fun i wr => ∃ (j : Nat) (zs : List Nat), j ≤ L1 ∧ i = .int .i64 (j : Int) ∧ Hid (Ow wr w1.heap.size (.slice A2 L1 c2) zs) ∧ Hid (Wr A2 w5 wr)) (fun i _ => L1 - (intOf i).toNat)
    case atStart => exact ⟨0, _, Nat.zero_le _, rfl, O2, hid (Wr.refl O2.out)⟩
    case round =>
      obtain ⟨j, zs, hj, rfl, hOz, hWz⟩ := hrel
      by_cases hcon : j < L1
      · have hop := hOz.out.open_ (Nat.lt_of_le_of_lt (Nat.zero_le _) hcon)
        obtain ⟨g, rfl, hzl, -, hg, -, hcell, hfr⟩ := hop
        have hcj := hcell j hcon
        have hfj := hfr j
        obtain ⟨x0, hx0⟩ : ∃ x0, x0 = zs.getD j 0 := ⟨_, rfl⟩
        rw [← hx0] at hcj
        have hx0l : x0 < 256 := by
          rw [hx0, List.getD_eq_getElem?_getD, List.getElem?_eq_getElem (show j < zs.length by omega)]
          exact hOz.out.2.1 _ (List.getElem_mem (show j < zs.length by omega))
        obtain ⟨y, hy, hv⟩ := wrap_u8 x0
        have hO2' := hid (hOz.out.set j hy)
        have hW2' := hid (hWz.out.set j (.int .u8 (y : Int)))
        have hji : (j : Int) < (L1 : Int) := by omega
        have hLb : L1 ≤ 140737488355328 := by have := hOz.out.2.2; omega
        clear hcell hfr hx0 hzl
        go_wp2
        go_roundw
        case rel => exact ⟨j + 1, _, by omega, by go_num, hO2', hW2'⟩
        case measure => simp [intOf]; omega
      · obtain rfl : j = L1 := by omega
        have O4' := hid (O4.out.wr hWz.out (fun g e => by have := (gA2.out g e).2; omega))
        have hwrb := hid (hWz.out.below b15.out z15 (fun g e => (gA2.out g e).1))
        have hwrk := hid (hWz.out.below K5.out hs5 (fun g e => Nat.le_trans hs1 (gA2.out g e).1))
        have zwr : w1.heap.size ≤ wr.heap.size := hwrb.out.size
        have zwk : w.heap.size ≤ wr.heap.size := hwrk.out.size
        clear cv2 cv3 cv4 cv5 se1 se2
        go_wp2_with fail
        go_loopw [18] (fun i wq => ∃ (j : Nat) (zs : List Nat), j ≤ L2 ∧ i = .int .i64 (j : Int) ∧ Hid (Ow wq w3.heap.size (.slice A4 L2 c4) zs) ∧ Hid (Wr A4 wr wq)) (fun i _ => L2 - (intOf i).toNat)
        case atStart => exact ⟨0, _, Nat.zero_le _, rfl, O4', hid (Wr.refl O4'.out)⟩
        case round =>
          obtain ⟨j, zs, hj, rfl, hOz, hWz⟩ := hrel
          by_cases hcon : j < L2
          · have hop := hOz.out.open_ (Nat.lt_of_le_of_lt (Nat.zero_le _) hcon)
            obtain ⟨g, rfl, hzl, -, hg, -, hcell, hfr⟩ := hop
            have hcj := hcell j hcon
            have hfj := hfr j
            obtain ⟨x0, hx0⟩ : ∃ x0, x0 = zs.getD j 0 := ⟨_, rfl⟩
            rw [← hx0] at hcj
            have hx0l : x0 < 256 := by
              rw [hx0, List.getD_eq_getElem?_getD, List.getElem?_eq_getElem (show j < zs.length by omega)]
              exact hOz.out.2.1 _ (List.getElem_mem (show j < zs.length by omega))
            obtain ⟨y, hy, hv⟩ := wrap_u8 x0
            have hO2' := hid (hOz.out.set j hy)
            have hW2' := hid (hWz.out.set j (.int .u8 (y : Int)))
            have hji : (j : Int) < (L2 : Int) := by omega
            have hLb : L2 ≤ 140737488355328 := by have := hOz.out.2.2; omega
            clear hcell hfr hx0 hzl
            go_wp2
            go_roundw
            case rel => exact ⟨j + 1, _, by omega, by go_num, hO2', hW2'⟩
            case measure => simp [intOf]; omega
          · obtain rfl : j = L2 := by omega
            have hq1 := hWz.out.below hwrb.out zwr (fun g e => Nat.le_trans (by omega) (gA4.out g e).1)
            have hq2 := hid (hWz.out.below hwrk.out zwk (fun g e => Nat.le_trans (by omega) (gA4.out g e).1))
            have ca := conv_any (HY1.out.below hq1)
            have cb := conv_any (HX.out.below hq2.out)
            have se : (str xs == str xs) = true := beq_self_eq_true (str xs).data
            generalize str xs = T3 at *
            clear hq1
            go_wp2
            go_ret
            exact ⟨rfl, hq2.out⟩

end Go.Proofs.Ytiablmnaincciaa
