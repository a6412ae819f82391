/- Ether: the document's SameOne, Same, Great, Counted, Many. -/
import Derived.Test.YtbpijlghdpflgaaDoorYr1
namespace Go.Proofs.YtbpijlghdpflgaaDoor.Eth
open Go.RowKit Go.Shelf Go.Lib

theorem convB {w : World} {B n c : Nat} {A : Option Addr} {t : List Nat} (h : Gs w B A n c 1 (cellsB t)) : (convert 26 9 (.slice A n c)).run Tryd.prog w = .ok (.string (strB t)) w := by
  cases A with
  | none =>
    obtain ⟨rfl, rfl⟩ := h.nil rfl
    obtain rfl : t = [] := List.length_eq_zero_iff.1 h.blen
    exact run_convert_bytes_nil (P := Tryd.prog) w 26 5 (by kernel_rfl) (by kernel_rfl) 0 0 9 (by kernel_rfl)
  | some p =>
    rcases Nat.eq_zero_or_pos n with h0 | h0
    · subst h0
      obtain rfl : t = [] := List.length_eq_zero_iff.1 h.blen
      obtain ⟨b, off, far⟩ := p
      rw [run_convert_bytes_string w 26 9 5 _ 0 c (by kernel_rfl) (by kernel_rfl) (by kernel_rfl), run_bytesToString (P := Tryd.prog) w _ 0 c [] (by
        have := run_loadCells_list (P := Tryd.prog) w ⟨b, off, far⟩ [] (fun j v hj => by simp at hj)
        simpa using this)]
      rfl
    · obtain ⟨b, off, e, _, hc⟩ := h.bat h0
      injection e with e
      subst e
      have := run_convert_bytes_arg (P := Tryd.prog) w 26 5 (by kernel_rfl) (by kernel_rfl) b off n c (t.map fun x : Nat => (x : Int)) (by rw [List.length_map]; exact h.blen) (fun i hi => by
        have hx : t[i]? = some (t[i]'(by rw [h.blen]; exact hi)) := List.getElem?_eq_getElem _
        rw [hc i _ hx]
        simp [List.getD_eq_getElem?_getD, hx]) 9 (by kernel_rfl)
      rw [this]
      congr 2
      simp [strOfNums, strB]
theorem strB_beq {xs ys : List Nat} (hx : ∀ b ∈ xs, b < 256) (hy : ∀ b ∈ ys, b < 256) : (strB xs == strB ys) = decide (xs = ys) := by
  show ((strB xs).data == (strB ys).data) = _
  by_cases h : xs = ys
  · subst h
    rw [decide_eq_true rfl]
    exact beq_self_eq_true _
  · rw [decide_eq_false h]
    refine beq_eq_false_iff_ne.2 (fun h2 => h ((strB_inj hx hy).1 ?_))
    show ByteArray.mk (strB xs).data = ByteArray.mk (strB ys).data
    rw [h2]
theorem strB_list {xs ys : List Nat} (hx : ∀ b ∈ xs, b < 256) (hy : ∀ b ∈ ys, b < 256) : ((strB xs).toList == (strB ys).toList) = decide (xs = ys) := by rw [← strB_beq hx hy]; exact (beq_toListBytes _ _).symm

set_option maxHeartbeats 3200000 in
set_option maxRecDepth 100000 in
theorem sameOne_any {w : World} {B C n c m d : Nat} {x y x' y' : Int} {A D : Option Addr} {t t' : List Nat} {s s' : Bool} (h : Gs w B A n c 1 (cellsB t)) (hf : ∀ b ∈ t, b < 256) (k : Gs w C D m d 1 (cellsB t')) (kf : ∀ b ∈ t', b < 256) (hB : B ≤ w.heap.size) (hC : C ≤ w.heap.size) :
    Calls Tryd.prog 19 #[.agg #[.int .i64 x, .int .i64 y, .slice A n c, .bool s], .agg #[.int .i64 x', .int .i64 y', .slice D m d, .bool s']] w fun e w' => e = .returned (.bool (decide (((x, y, t, s) : Cp) = (x', y', t', s')))) ∧ Hid (Below w.heap.size w w') := by
  obtain ⟨W, hW⟩ : ∃ W, W = (w.alloc (.cells #[.int .i64 x, .int .i64 y, .slice A n c, .bool s] 28)).alloc (.cells #[.int .i64 x', .int .i64 y', .slice D m d, .bool s'] 28) := ⟨_, rfl⟩
  have B0 := hid (show Below w.heap.size w W from hW ▸ below_two w _ _)
  have X0 := hid (show Cbx W w.heap.size x y A n c s from hW ▸ (heap_two w _ _).1)
  have Y0 := hid (show Cbx W (w.heap.size + 1) x' y' D m d s' from hW ▸ (heap_two w _ _).2)
  have x0 := X0.out.c0
  have x1 := X0.out.c1
  have x2 := X0.out.c2
  have x3 := X0.out.c3
  have y0 := Y0.out.c0
  have y1 := Y0.out.c1
  have y2 := Y0.out.c2
  have y3 := Y0.out.c3
  have hs1 := convB ((h.mono hB).below B0.out)
  have hs2 := convB ((k.mono hC).below B0.out)
  have HS := hid (strB_list hf kf)
  have HW := hid hW
  clear hW h hf k kf hB hC
  by_cases e1 : x = x'
  case neg =>
    rw [decide_eq_false (fun h => e1 (congrArg (fun q : Cp => q.1) h))]
    have e1b : (x == x') = false := beq_eq_false_iff_ne.2 e1
    clear hs1 hs2 HS
    go_enter Tryd.func19, Tryd.ntmps19
    go_upto_region 1 with fail
    rw [← HW.out]
    go_wp2
    go_ret
    exact ⟨rfl, B0⟩
  by_cases e2 : y = y'
  case neg =>
    rw [decide_eq_false (fun h => e2 (congrArg (fun q : Cp => q.2.1) h))]
    have e2b : (y == y') = false := beq_eq_false_iff_ne.2 e2
    subst e1
    clear hs1 hs2 HS
    go_enter Tryd.func19, Tryd.ntmps19
    go_upto_region 1 with fail
    rw [← HW.out]
    go_wp2
    go_ret
    exact ⟨rfl, B0⟩
  subst e1 e2
  by_cases e3 : t = t'
  case neg =>
    rw [decide_eq_false (fun h => e3 (congrArg (fun q : Cp => q.2.2.1) h))]
    rw [decide_eq_false e3] at HS
    generalize strB t = st at hs1 HS
    generalize strB t' = st' at hs2 HS
    have e3b := HS.out
    clear e3 HS
    go_enter Tryd.func19, Tryd.ntmps19
    go_upto_region 1 with fail
    rw [← HW.out]
    go_wp2_with (first | simp only [hs1] | simp only [hs2])
    go_ret
    exact ⟨rfl, B0⟩
  subst e3
  clear HS
  generalize strB t = st at hs1 hs2
  have hd : decide (((x, y, t, s) : Cp) = (x, y, t, s')) = (s == s') := by
    by_cases e : s = s'
    · subst e
      rw [decide_eq_true rfl]
      simp
    · rw [decide_eq_false (fun h => e (congrArg (fun q : Cp => q.2.2.2) h)), beq_eq_false_iff_ne.2 e]
  rw [hd]
  clear hd
  cases s <;> cases s'
  all_goals
    go_enter Tryd.func19, Tryd.ntmps19
    go_upto_region 1 with fail
    rw [← HW.out]
    go_wp2_with (first | simp only [hs1] | simp only [hs2])
    go_ret
    exact ⟨rfl, B0⟩

theorem cp_ne {l m : List Cp} {k : Nat} {d e : Cp} (h1 : l[k]? = some d) (h2 : m[k]? = some e) (h : d ≠ e) : decide (l = m) = false := by
  rw [decide_eq_false_iff_not]
  intro hl
  rw [hl, h2] at h1
  injection h1 with h1
  exact h h1.symm
set_option maxHeartbeats 3200000 in
set_option maxRecDepth 100000 in
theorem same_any {w : World} {B C n c m d : Nat} {A D : Option Addr} {l r : List Cp} (h : Cls w B A n c l) (k : Cls w C D m d r) (hB : B ≤ w.heap.size) (hC : C ≤ w.heap.size) :
    Calls Tryd.prog 16 #[.slice A n c, .slice D m d] w fun e w' => e = .returned (.bool (decide (l = r))) ∧ Hid (Below w.heap.size w w') := by
  have H := hid (h.mono hB)
  have K := hid (k.mono hC)
  have HL := hid h.len
  have HR := hid k.len
  have hm := h.max
  have hcap := h.cap
  have hcap2 := k.cap
  clear h k
  by_cases hnm : n = m
  case neg =>
    have hne : ¬ (n : Int) = (m : Int) := by omega
    have hd : decide (l = r) = false := by
      rw [decide_eq_false_iff_not]
      intro e
      have := HL.out
      rw [e, HR.out] at this
      omega
    rw [hd]
    go_enter Tryd.func16, Tryd.ntmps16
    go_wp2
    go_ret
    exact ⟨rfl, hid (Below.refl _ _)⟩
  subst hnm
  go_enter Tryd.func16, Tryd.ntmps16
  go_wp2
  go_loopg [5] n (fun gg s5 wr => ∃ kk : Nat, kk ≤ n ∧ n - kk ≤ gg ∧ s5 = .int .i64 kk ∧ Hid (Below w.heap.size w wr) ∧ Hid (∀ j, j < kk → l[j]? = r[j]?))
  case atStart => exact ⟨0, Nat.zero_le _, by omega, rfl, hid (Below.refl _ w), hid (fun j hj => absurd hj (Nat.not_lt_zero _))⟩
  case round =>
    obtain ⟨kk, hkk, hg, rfl, BW, HA⟩ := hrel
    by_cases hlt : kk < n
    · have hltz : (kk : Int) < (n : Int) := by omega
      have H2 := H.out.below BW.out
      have K2 := K.out.below BW.out
      obtain ⟨b, off, x, y, A', n', c', t, s, rfl, hb, hp, c0, c1, c2, c3, ht, hf⟩ := H2.get hlt
      obtain ⟨b2, off2, x2, y2, A2, n2, c2', t2, s2, rfl, hb2, hp2, d0, d1, d2, d3, ht2, hf2⟩ := K2.get hlt
      have hlb : b < wr.heap.size := Nat.lt_of_lt_of_le hb BW.out.size
      have hlb2 : b2 < wr.heap.size := Nat.lt_of_lt_of_le hb2 BW.out.size
      have CS := hid (fun X (hX : Below wr.heap.size wr X) => sameOne_any (x := x) (y := y) (s := s) (x' := x2) (y' := y2) (s' := s2) (ht.below (hX.mono BW.out.size)) hf (ht2.below (hX.mono BW.out.size)) hf2 (Nat.le_trans BW.out.size hX.size) (Nat.le_trans BW.out.size hX.size))
      have KF := hid (fun (X : World) (hb : Below wr.heap.size wr X) => (show (fun X => X.cell? ⟨b, off + kk * 4, none⟩ = some (.int .i64 x) ∧ X.cell? ⟨b, off + kk * 4 + 1, none⟩ = some (.int .i64 y) ∧ X.cell? ⟨b, off + kk * 4 + 2, none⟩ = some (.slice A' n' c') ∧ X.cell? ⟨b, off + kk * 4 + 3, none⟩ = some (.bool s) ∧ X.cell? ⟨b2, off2 + kk * 4, none⟩ = some (.int .i64 x2) ∧ X.cell? ⟨b2, off2 + kk * 4 + 1, none⟩ = some (.int .i64 y2) ∧ X.cell? ⟨b2, off2 + kk * 4 + 2, none⟩ = some (.slice A2 n2 c2') ∧ X.cell? ⟨b2, off2 + kk * 4 + 3, none⟩ = some (.bool s2)) X from ⟨(hb.cell (p := ⟨b, off + kk * 4, none⟩) hlb).trans c0, (hb.cell (p := ⟨b, off + kk * 4 + 1, none⟩) hlb).trans c1, (hb.cell (p := ⟨b, off + kk * 4 + 2, none⟩) hlb).trans c2, (hb.cell (p := ⟨b, off + kk * 4 + 3, none⟩) hlb).trans c3, (hb.cell (p := ⟨b2, off2 + kk * 4, none⟩) hlb2).trans d0, (hb.cell (p := ⟨b2, off2 + kk * 4 + 1, none⟩) hlb2).trans d1, (hb.cell (p := ⟨b2, off2 + kk * 4 + 2, none⟩) hlb2).trans d2, (hb.cell (p := ⟨b2, off2 + kk * 4 + 3, none⟩) hlb2).trans d3⟩))
      have HBz := hid ((Below.refl wr.heap.size wr).drew)
      have HP := hid hp
      have HP2 := hid hp2
      clear H2 K2 hp hp2 ht hf ht2 hf2
      have mixed : Tryd.prog.follows .mixedOrders = true := by kernel_rfl
      by_cases hxy : ((x, y, t, s) : Cp) = (x2, y2, t2, s2)
      · rw [decide_eq_true hxy] at CS
        have HX := hid hxy
        clear hxy
        go_wp2_with fail
        go_region_held3 (fun X => X.cell? ⟨b, off + kk * 4, none⟩ = some (.int .i64 x) ∧ X.cell? ⟨b, off + kk * 4 + 1, none⟩ = some (.int .i64 y) ∧ X.cell? ⟨b, off + kk * 4 + 2, none⟩ = some (.slice A' n' c') ∧ X.cell? ⟨b, off + kk * 4 + 3, none⟩ = some (.bool s) ∧ X.cell? ⟨b2, off2 + kk * 4, none⟩ = some (.int .i64 x2) ∧ X.cell? ⟨b2, off2 + kk * 4 + 1, none⟩ = some (.int .i64 y2) ∧ X.cell? ⟨b2, off2 + kk * 4 + 2, none⟩ = some (.slice A2 n2 c2') ∧ X.cell? ⟨b2, off2 + kk * 4 + 3, none⟩ = some (.bool s2))
          (exact KF.out _ HBz.out)
          (first
          | (go_at_call 19
             with_reducible refine (CS.out _ HBz.out).mono ?_
             rintro e' w' ⟨rfl, hb⟩
             have HBz := hid (HBz.out.trans (hb.out.mono HBz.out.size))))
        all_goals
          have BZ := hid (gbelow_on BW.out (Nat.le_refl _) HBz.out)
          clear CS KF
          go_wp2
          go_roundg (n - (kk + 1))
          case measure => omega
          case rel =>
            refine ⟨kk + 1, by omega, by omega, by go_num, BZ, hid (fun j hj => ?_)⟩
            by_cases hjk : j = kk
            · subst hjk
              rw [HP.out, HP2.out, HX.out]
            · exact HA.out j (by omega)
      · rw [decide_eq_false hxy] at CS
        have HX := hid hxy
        clear hxy
        go_wp2_with fail
        go_region_held3 (fun X => X.cell? ⟨b, off + kk * 4, none⟩ = some (.int .i64 x) ∧ X.cell? ⟨b, off + kk * 4 + 1, none⟩ = some (.int .i64 y) ∧ X.cell? ⟨b, off + kk * 4 + 2, none⟩ = some (.slice A' n' c') ∧ X.cell? ⟨b, off + kk * 4 + 3, none⟩ = some (.bool s) ∧ X.cell? ⟨b2, off2 + kk * 4, none⟩ = some (.int .i64 x2) ∧ X.cell? ⟨b2, off2 + kk * 4 + 1, none⟩ = some (.int .i64 y2) ∧ X.cell? ⟨b2, off2 + kk * 4 + 2, none⟩ = some (.slice A2 n2 c2') ∧ X.cell? ⟨b2, off2 + kk * 4 + 3, none⟩ = some (.bool s2))
          (exact KF.out _ HBz.out)
          (first
          | (go_at_call 19
             with_reducible refine (CS.out _ HBz.out).mono ?_
             rintro e' w' ⟨rfl, hb⟩
             have HBz := hid (HBz.out.trans (hb.out.mono HBz.out.size))))
        all_goals
          have BZ := hid (gbelow_on BW.out (Nat.le_refl _) HBz.out)
          clear CS KF
          go_wp2
          go_ret
          refine ⟨?_, BZ⟩
          rw [cp_ne HP.out HP2.out HX.out]
          rfl
    · have hltz : ¬ (kk : Int) < (n : Int) := by omega
      obtain rfl : kk = n := by omega
      go_wp2
      go_ret
      refine ⟨?_, BW⟩
      have : l = r := List.ext_getElem? fun j => by
        rcases Nat.lt_or_ge j kk with hj | hj
        · exact HA.out j hj
        · rw [List.getElem?_eq_none (by rw [HL.out]; exact hj), List.getElem?_eq_none (by rw [HR.out]; exact hj)]
      rw [decide_eq_true this]
      rfl
end Go.Proofs.YtbpijlghdpflgaaDoor.Eth
