/- Ether, the program: Check (by slices.ContainsFunc), Same (by slices.EqualFunc). -/
import Derived.Test.YtbpijlghdpflgaaDoorYpa
namespace Go.Proofs.YtbpijlghdpflgaaDoor.Eth
open Go.RowKit Go.Shelf Go.Lib

/-- What IndexFunc tells of bad. -/
def IdxB (w : World) (l : List Cp) (e : Ending) (w' : World) : Prop := ∃ z : Int, e = .returned (.int .i64 z) ∧ Hid (decide (z ≥ 0) = decide (¬ ∀ p ∈ l, MayC p) ∧ Below w.heap.size w w')
set_option maxHeartbeats 3200000 in
set_option maxRecDepth 100000 in
theorem index_bad {w : World} {B n c : Nat} {A : Option Addr} {l : List Cp} (h : Cls w B A n c l) (hB : B ≤ w.heap.size) :
    Calls Tryd.prog 41 #[.slice A n c, .func (.func 21) #[] #[]] w (IdxB w l) := by
  have H := hid (h.mono hB)
  have hm := h.max
  have hcap := h.cap
  have hl := hid h.len
  clear h
  go_enter Tryd.func41, Tryd.ntmps41
  go_wp2
  go_loopg [5, 8] n (fun gg _ s8 wr => ∃ kk : Nat, kk ≤ n ∧ n - kk ≤ gg ∧ s8 = .int .i64 kk ∧ Hid (Below w.heap.size w wr) ∧ Hid (GoneC l kk))
  case atStart => exact ⟨0, Nat.zero_le _, by omega, rfl, hid (Below.refl _ w), hid (by intro p hp; simp at hp)⟩
  case round =>
    obtain ⟨kk, hkk, hg, rfl, BW, HA⟩ := hrel
    by_cases hlt : kk < n
    · have hltz : (kk : Int) < (n : Int) := by omega
      obtain ⟨b, off, x, y, A', n', c', t, s, rfl, hb, hp, c0, c1, c2, c3, ht, hf⟩ := (H.out.below BW.out).get hlt
      have CM := hid (bad_any (x := x) (y := y) (s := s) ht)
      have HP := hid hp
      clear hp ht hf
      by_cases hmy : MayC (x, y, t, s)
      · rw [decide_eq_false (show ¬ ¬ MayC (x, y, t, s) from fun q => q hmy)] at CM
        have HN := hid (HA.out.next HP.out hmy)
        clear hmy
        go_wp2_with fail
        refine CM.out.mono ?_
        rintro e w2 ⟨rfl, h2⟩
        go_wp2
        go_roundg (n - (kk + 1))
        case measure => omega
        case rel => exact ⟨kk + 1, by omega, by omega, by go_num, hid (gbelow_on BW.out (Nat.le_refl _) h2.out), HN⟩
      · rw [decide_eq_true hmy] at CM
        have HE := hid (show ¬ ∀ p ∈ l, MayC p from fun q => hmy (q _ (List.mem_of_getElem? HP.out)))
        clear hmy
        go_wp2_with fail
        refine CM.out.mono ?_
        rintro e w2 ⟨rfl, h2⟩
        go_wp2
        go_ret
        exact ⟨(kk : Int), rfl, hid ⟨by rw [decide_eq_true HE.out, decide_eq_true (show (kk : Int) ≥ 0 by omega)], gbelow_on BW.out (Nat.le_refl _) h2.out⟩⟩
    · have hltz : ¬ (kk : Int) < (n : Int) := by omega
      obtain rfl : kk = n := by omega
      have HE := hid (show ¬ ¬ ∀ p ∈ l, MayC p from fun q => q (by have := HA.out; unfold GoneC at this; rwa [List.take_of_length_le (by rw [hl.out]; exact Nat.le_refl _)] at this))
      go_wp2
      go_ret
      exact ⟨-1, rfl, hid ⟨by rw [decide_eq_false HE.out, decide_eq_false (show ¬ (-1 : Int) ≥ 0 by omega)], BW.out⟩⟩
set_option maxHeartbeats 1600000 in
theorem contains_bad {w : World} {B n c : Nat} {A : Option Addr} {l : List Cp} (h : Cls w B A n c l) (hB : B ≤ w.heap.size) :
    Calls Tryd.prog 31 #[.slice A n c, .func (.func 21) #[] #[]] w fun e w' => e = .returned (.bool (decide (¬ ∀ p ∈ l, MayC p))) ∧ Hid (Below w.heap.size w w') := by
  have HC := hid (index_bad h hB)
  clear h
  go_enter Tryd.func31, Tryd.ntmps31
  go_wp2_with fail
  refine HC.out.mono ?_
  rintro e w2 ⟨z, rfl, h2⟩
  generalize hid h2 = h2'
  go_wp2
  go_ret
  exact ⟨by rw [← h2.out.1]; simp, hid h2.out.2⟩
set_option maxHeartbeats 1600000 in
theorem check_ok {w : World} {B n c : Nat} {A : Option Addr} {l : List Cp} (h : Cls w B A n c l) (hB : B ≤ w.heap.size) : Calls Tryd.prog 18 #[.slice A n c] w fun e w' => e = .returned (.int .i64 (echk l)) ∧ Hid (Below w.heap.size w w') := by
  have HC := hid (contains_bad h hB)
  have hlen := h.len
  have hcap := h.cap
  have hm := h.max
  clear h
  by_cases hn : 16 < n
  · have hz : (n : Int) > 16 := by omega
    have hc : echk l = 4 := by unfold echk; rw [if_pos (by omega)]
    rw [hc]
    clear hlen hc
    go_enter Tryd.func18, Tryd.ntmps18
    go_wp2_with fail
    go_ret
    exact ⟨rfl, hid (Below.refl _ _)⟩
  · have hz : ¬ (n : Int) > 16 := by omega
    by_cases hq : ∀ p ∈ l, MayC p
    · have hc : echk l = 0 := echk_zero.2 ⟨by omega, hq⟩
      rw [hc]
      rw [decide_eq_false (show ¬ ¬ ∀ p ∈ l, MayC p from fun f => f hq)] at HC
      clear hlen hc hq
      go_enter Tryd.func18, Tryd.ntmps18
      go_wp2_with (go_at_call 31; refine HC.out.mono ?_; rintro e w' ⟨rfl, hb⟩)
      go_ret; exact ⟨rfl, hb⟩
    · have hc : echk l = 8 := by unfold echk; rw [if_neg (by omega), if_neg hq]
      rw [hc]
      rw [decide_eq_true hq] at HC
      clear hlen hc hq
      go_enter Tryd.func18, Tryd.ntmps18
      go_wp2_with (go_at_call 31; refine HC.out.mono ?_; rintro e w' ⟨rfl, hb⟩)
      go_ret; exact ⟨rfl, hb⟩

set_option maxHeartbeats 1600000 in
theorem bequal_any {w : World} {B C n c m d : Nat} {A D : Option Addr} {t t' : List Nat} (h : Gs w B A n c 1 (cellsB t)) (hf : ∀ b ∈ t, b < 256) (k : Gs w C D m d 1 (cellsB t')) (kf : ∀ b ∈ t', b < 256) :
    Calls Tryd.prog 34 #[.slice A n c, .slice D m d] w fun e w' => e = .returned (.bool (decide (t = t'))) ∧ w' = w := by
  have hs1 := convB h
  have hs2 := convB k
  have HS := hid (strB_list hf kf)
  clear h k hf kf
  generalize decide (t = t') = r at HS ⊢
  generalize strB t = st at hs1 HS
  generalize strB t' = st' at hs2 HS
  go_enter Tryd.func34, Tryd.ntmps34
  go_wp2_with (first | simp only [hs1] | simp only [hs2])
  go_ret
  exact ⟨by rw [← HS.out]; rfl, rfl⟩

set_option maxHeartbeats 3200000 in
set_option maxRecDepth 100000 in
theorem same1_any {w : World} {B C n c m d : Nat} {x y x' y' : Int} {A D : Option Addr} {t t' : List Nat} {s s' : Bool} (h : Gs w B A n c 1 (cellsB t)) (hf : ∀ b ∈ t, b < 256) (k : Gs w C D m d 1 (cellsB t')) (kf : ∀ b ∈ t', b < 256) (hB : B ≤ w.heap.size) (hC : C ≤ w.heap.size) :
    Calls Tryd.prog 33 #[.agg #[.int .i64 x, .int .i64 y, .slice A n c, .bool s], .agg #[.int .i64 x', .int .i64 y', .slice D m d, .bool s']] w fun e w' => e = .returned (.bool (decide (((x, y, t, s) : Cp) = (x', y', t', s')))) ∧ Hid (Below w.heap.size w w') := by
  obtain ⟨W, hW⟩ : ∃ W, W = (w.alloc (.cells #[.int .i64 x, .int .i64 y, .slice A n c, .bool s] 28)).alloc (.cells #[.int .i64 x', .int .i64 y', .slice D m d, .bool s'] 28) := ⟨_, rfl⟩
  have B0 := hid (show Below w.heap.size w W from hW ▸ below_two w _ _)
  have X0 := hid (show Cbx W w.heap.size x y A n c s from hW ▸ (heap_two w _ _).1)
  have Y0 := hid (show Cbx W (w.heap.size + 1) x' y' D m d s' from hW ▸ (heap_two w _ _).2)
  have x0 := X0.out.c0
  have x1 := X0.out.c1
  have x2 := X0.out.c2
  have x3 := X0.out.c3
  have y0 := Y0.out.c0
  have y1 := Y0.out.c1
  have y2 := Y0.out.c2
  have y3 := Y0.out.c3
  have HE := hid (bequal_any ((h.mono hB).below B0.out) hf ((k.mono hC).below B0.out) kf)
  have HW := hid hW
  clear hW h hf k kf hB hC
  by_cases e1 : x = x'
  case neg =>
    rw [decide_eq_false (fun h => e1 (congrArg (fun q : Cp => q.1) h))]
    have e1b : (x == x') = false := beq_eq_false_iff_ne.2 e1
    go_enter Tryd.func33, Tryd.ntmps33
    go_upto_region 1 with fail
    rw [← HW.out]
    go_wp2
    go_ret
    exact ⟨rfl, B0⟩
  by_cases e2 : y = y'
  case neg =>
    rw [decide_eq_false (fun h => e2 (congrArg (fun q : Cp => q.2.1) h))]
    have e2b : (y == y') = false := beq_eq_false_iff_ne.2 e2
    subst e1
    go_enter Tryd.func33, Tryd.ntmps33
    go_upto_region 1 with fail
    rw [← HW.out]
    go_wp2
    go_ret
    exact ⟨rfl, B0⟩
  subst e1 e2
  by_cases e4 : s = s'
  case neg =>
    rw [decide_eq_false (fun h => e4 (congrArg (fun q : Cp => q.2.2.2) h))]
    cases s <;> cases s'
    case false.false => exact absurd rfl e4
    case true.true => exact absurd rfl e4
    all_goals
      clear e4
      go_enter Tryd.func33, Tryd.ntmps33
      go_upto_region 1 with fail
      rw [← HW.out]
      go_wp2
      go_ret
      exact ⟨rfl, B0⟩
  subst e4
  have hd : decide (((x, y, t, s) : Cp) = (x, y, t', s)) = decide (t = t') := by
    by_cases e : t = t'
    · rw [decide_eq_true e, e, decide_eq_true rfl]
    · rw [decide_eq_false e, decide_eq_false (fun h => e (congrArg (fun q : Cp => q.2.2.1) h))]
  rw [hd]
  clear hd
  generalize decide (t = t') = r at HE ⊢
  cases s
  all_goals
    go_enter Tryd.func33, Tryd.ntmps33
    go_upto_region 1 with fail
    rw [← HW.out]
    go_wp2_with (first
      | (go_at_call 34
         refine HE.out.mono ?_
         rintro e w1 ⟨rfl, rfl⟩)
      | fail)
    go_ret
    exact ⟨rfl, B0⟩

set_option maxHeartbeats 6400000 in
set_option maxRecDepth 100000 in
theorem equal_any {w : World} {B C n c m d : Nat} {A D : Option Addr} {l r : List Cp} (h : Cls w B A n c l) (k : Cls w C D m d r) (hB : B ≤ w.heap.size) (hC : C ≤ w.heap.size) :
    Calls Tryd.prog 32 #[.slice A n c, .slice D m d, .func (.func 33) #[] #[]] w fun e w' => e = .returned (.bool (decide (l = r))) ∧ Hid (Below w.heap.size w w') := by
  have H := hid (h.mono hB)
  have K := hid (k.mono hC)
  have HL := hid h.len
  have HR := hid k.len
  have hm := h.max
  have hcap := h.cap
  have hcap2 := k.cap
  clear h k
  by_cases hnm : n = m
  case neg =>
    have hne : ((n : Int) != (m : Int)) = true := by rw [bne_iff_ne]; omega
    have hne2 : ¬ (n : Int) = (m : Int) := by omega
    have hd : decide (l = r) = false := by
      rw [decide_eq_false_iff_not]
      intro e
      have := HL.out
      rw [e, HR.out] at this
      omega
    rw [hd]
    go_enter Tryd.func32, Tryd.ntmps32
    go_wp2
    go_ret
    exact ⟨rfl, hid (Below.refl _ _)⟩
  subst hnm
  go_enter Tryd.func32, Tryd.ntmps32
  go_wp2
  go_loopg [7, 8, 9, 17] n (fun gg _ _ _ s5 wr => ∃ kk : Nat, kk ≤ n ∧ n - kk ≤ gg ∧ s5 = .int .i64 kk ∧ Hid (Below w.heap.size w wr) ∧ Hid (∀ j, j < kk → l[j]? = r[j]?))
  case atStart => exact ⟨0, Nat.zero_le _, by omega, rfl, hid (Below.refl _ w), hid (fun j hj => absurd hj (Nat.not_lt_zero _))⟩
  case round =>
    obtain ⟨kk, hkk, hg, rfl, BW, HA⟩ := hrel
    by_cases hlt : kk < n
    · have hltz : (kk : Int) < (n : Int) := by omega
      obtain ⟨b, off, x, y, A', n', c', t, s, rfl, hb, hp, c0, c1, c2, c3, ht, hf⟩ := (H.out.below BW.out).get hlt
      obtain ⟨b2, off2, x2, y2, A2, n2, c2', t2, s2, rfl, hb2, hp2, d0, d1, d2, d3, ht2, hf2⟩ := (K.out.below BW.out).get hlt
      have CS := hid (fun X (hX : Below wr.heap.size wr X) => same1_any (x := x) (y := y) (s := s) (x' := x2) (y' := y2) (s' := s2) (ht.below (hX.mono BW.out.size)) hf (ht2.below (hX.mono BW.out.size)) hf2 (Nat.le_trans BW.out.size hX.size) (Nat.le_trans BW.out.size hX.size))
      have HB2 := hid (fun (o1 o2 : Obj) => below_two wr o1 o2)
      have f0 := fun o => Lib.cell?_alloc_some (W := wr) o d0
      have f1 := fun o => Lib.cell?_alloc_some (W := wr) o d1
      have f2 := fun o => Lib.cell?_alloc_some (W := wr) o d2
      have f3 := fun o => Lib.cell?_alloc_some (W := wr) o d3
      have HP := hid hp
      have HP2 := hid hp2
      clear hp hp2 ht hf ht2 hf2
      by_cases hxy : ((x, y, t, s) : Cp) = (x2, y2, t2, s2)
      · rw [decide_eq_true hxy] at CS
        have HX := hid hxy
        clear hxy
        go_wp2_with fail
        refine (CS.out _ (HB2.out _ _)).mono ?_
        rintro e w2 ⟨rfl, h2⟩
        have BZ := hid (gbelow_on (gbelow_on BW.out (Nat.le_refl _) (HB2.out _ _)) (Nat.le_refl _) h2.out)
        clear CS h2
        go_wp2
        go_roundg (n - (kk + 1))
        case measure => omega
        case rel =>
          refine ⟨kk + 1, by omega, by omega, by go_num, BZ, hid (fun j hj => ?_)⟩
          by_cases hjk : j = kk
          · subst hjk
            rw [HP.out, HP2.out, HX.out]
          · exact HA.out j (by omega)
      · rw [decide_eq_false hxy] at CS
        have HX := hid hxy
        clear hxy
        go_wp2_with fail
        refine (CS.out _ (HB2.out _ _)).mono ?_
        rintro e w2 ⟨rfl, h2⟩
        have BZ := hid (gbelow_on (gbelow_on BW.out (Nat.le_refl _) (HB2.out _ _)) (Nat.le_refl _) h2.out)
        clear CS h2
        go_wp2
        go_ret
        refine ⟨?_, BZ⟩
        rw [cp_ne HP.out HP2.out HX.out]
        rfl
    · have hltz : ¬ (kk : Int) < (n : Int) := by omega
      obtain rfl : kk = n := by omega
      go_wp2
      go_ret
      refine ⟨?_, BW⟩
      have : l = r := List.ext_getElem? fun j => by
        rcases Nat.lt_or_ge j kk with hj | hj
        · exact HA.out j hj
        · rw [List.getElem?_eq_none (by rw [HL.out]; exact hj), List.getElem?_eq_none (by rw [HR.out]; exact hj)]
      rw [decide_eq_true this]
      rfl
set_option maxHeartbeats 1600000 in
theorem same_ok {w : World} {B C n c m d : Nat} {A D : Option Addr} {l r : List Cp} (h : Cls w B A n c l) (k : Cls w C D m d r) (hB : B ≤ w.heap.size) (hC : C ≤ w.heap.size) :
    Calls Tryd.prog 20 #[.slice A n c, .slice D m d] w fun e w' => e = .returned (.bool (decide (l = r))) ∧ Hid (Below w.heap.size w w') := by
  have HC := hid (equal_any h k hB hC)
  clear h k
  generalize decide (l = r) = q at HC ⊢
  go_enter Tryd.func20, Tryd.ntmps20
  go_wp2_with fail
  refine HC.out.mono ?_
  rintro e w2 ⟨rfl, h2⟩
  go_wp2
  go_ret
  exact ⟨rfl, h2⟩
end Go.Proofs.YtbpijlghdpflgaaDoor.Eth
