/- Package dyad: settled. -/
import Derived.Test.YtjppogmhibmebaaDoorDtake
import Derived.Test.YtjppogmhibmebaaDoorDbox
namespace Go.Proofs.YtjppogmhibmebaaDoor
open Go.RowKit

theorem settle_math {s : Bool} {V l x : Nat} (hl : l ≤ 1) (hx : x ≤ 1025) (hor : x = 0 ∨ l = 1) (h0 : 2 * V + l ≠ 0) : Canon s (2 * V + l) x ∧ dv s (2 * V + l) x = num s ((2 * V + l) * tp (4000 - x)) :=
  ⟨⟨fun h => absurd h h0, fun h => by omega⟩, rfl⟩
theorem wide_size : (Tryd.prog.info? 50).map (·.size) = some 4 := by kernel_rfl
theorem ret_wide {fn : Func} {R : Ending → World → Prop} {a : Act} {w : World} {p u : Tmp} {g l : Nat} {s : Bool} {v er : Value} {x : Int} (h : fn.results = #[.cell p 50, .tmp u]) (hp : a.tmps.getD p undef = .pointer (some ⟨g, 0, none⟩)) (hu : a.tmps.getD u undef = er)
    (hd : a.defers = []) (hg : Wbox w g s v x l) (hR : R (.returned (.tuple #[.agg #[.bool s, v, .int .i64 x, .int .u32 (l : Int)], er])) w) : bodyPost Tryd.prog fn R .ret a w := by
  refine bodyPost_ret ?_ hd hR
  rw [← hu]
  exact cells_agg_tmp h a.tmps w g _ _ _ _ hp hg Tryd.underlying50 rfl wide_size

theorem settle_less {V q k y : Nat} (hy : y ≤ 1024) (hk : k ≤ y) (hV : V = q * tp k) : (2 * V + 0) * tp (4000 - (y + 1)) = q * tp (4000 - (y - k)) := by
  subst hV
  rw [show 4000 - (y - k) = (4000 - (y + 1)) + (k + 1) by omega, tp_add, tp_succ, Nat.add_zero, Nat.mul_comm (tp (4000 - (y + 1))), ← Nat.mul_assoc, Nat.mul_comm 2, Nat.mul_assoc q, Nat.mul_comm 2 (tp k), Nat.mul_assoc]

set_option maxHeartbeats 3200000 in
theorem dsettled_any {w : World} {V l x : Nat} {s : Bool} {v : Value} {M : Int} (hv : Val w V v) (hl : l ≤ 1) (hx : x ≤ 1025) (hT : Tab w) (HM : Hid (M = num s ((2 * V + l) * tp (4000 - x)))) :
    Calls Tryd.prog 36 #[.agg #[.bool s, v, .int .i64 (x : Int), .int .u32 (l : Int)]] w (DRes w (Derr M) M) := by
  obtain ⟨A, n, c, rfl⟩ := hv.shape
  have B0 := hid (((Below.refl w.heap.size w).alloc (Nat.le_refl _) (.cells #[.bool s, .slice A n c, .int .i64 (x : Int), .int .u32 (l : Int)] 50)).alloc (by simp) (.cells #[.bool false, .slice none 0 0, .int .i64 0] 24))
  have W0 : Hid (Wbox ((w.alloc (.cells #[.bool s, .slice A n c, .int .i64 (x : Int), .int .u32 (l : Int)] 50)).alloc (.cells #[.bool false, .slice none 0 0, .int .i64 0] 24)) w.heap.size s (.slice A n c) x l) :=
    (Below.heap_alloc _ _ _ (by simp)).trans (heap_alloc_new w _)
  have D0 : Hid (Dbox ((w.alloc (.cells #[.bool s, .slice A n c, .int .i64 (x : Int), .int .u32 (l : Int)] 50)).alloc (.cells #[.bool false, .slice none 0 0, .int .i64 0] 24)) (w.heap.size + 1) false (.slice none 0 0) 0) := by
    have h := heap_alloc_new (w.alloc (.cells #[.bool s, .slice A n c, .int .i64 (x : Int), .int .u32 (l : Int)] 50)) (.cells #[.bool false, .slice none 0 0, .int .i64 0] 24)
    have e : (w.alloc (.cells #[.bool s, .slice A n c, .int .i64 (x : Int), .int .u32 (l : Int)] 50)).heap.size = w.heap.size + 1 := by simp
    rw [e] at h
    exact h
  have V0 := hid (hv.below B0.out)
  have T0 := hid (hT.below B0.out hT.lt)
  by_cases h1 : 0 < x ∧ l = 0
  · obtain ⟨h1, rfl⟩ := h1
    obtain ⟨y, rfl⟩ : ∃ y, x = y + 1 := ⟨x - 1, by omega⟩
    have hy : (((y + 1 : Nat) : Nat) : Int) = (y : Int) + 1 := by omega
    rw [hy] at B0 W0 D0 V0 T0 ⊢
    have C1 := hid (dlessen_any W0.out V0.out (by omega) T0.out)
    clear hv hT
    go_enter Tryd.func36, Tryd.ntmps36
    go_wp2_with fail
    refine C1.out.mono ?_
    rintro e w1 ⟨k, q, rfl, Hk, HT⟩
    obtain ⟨v1, hw1, hn1, hg1⟩ := HT.out
    obtain ⟨A1, n1, d1, rfl⟩ := hn1.shape
    have D1 := hid (D0.out.grown hg1 (by omega))
    have W1 := hid hw1
    have N1 := hid hn1
    have B1 := hid (Below.grown B0.out hg1 B0.out.size (fun k hk => by injection hk with hk; omega))
    have a0 := hw1.c0
    have a1 := hw1.c1
    have a2 := hw1.c2
    have b0 := D1.out.frozen 0
    have b1 := D1.out.frozen 1
    have b2 := D1.out.frozen 2
    have e0 := D1.out.c0
    have e1 := D1.out.c1
    have e2 := D1.out.c2
    have hq0 := hn1.val.len0
    have hq1 := hn1.val.len
    clear hw1 hn1 hg1 HT C1 V0 T0 W0 D0
    have hq2 : (n1 = 0 ∧ q = 0) ∨ (((n1 : Int) == 0) = false ∧ q ≠ 0) := by
      rcases Nat.eq_zero_or_pos n1 with h | h
      · exact .inl ⟨h, hq0.1 h⟩
      · refine .inr ⟨by simp; omega, fun h2 => ?_⟩
        have := hq0.2 h2
        omega
    have Hq0 := hid hq0
    clear hq0
    have hM := HM.out
    rw [settle_less (V := V) (by omega : y ≤ 1024) Hk.out.1 Hk.out.2.1] at hM
    have HM := hid hM
    clear hM
    rcases hq2 with ⟨rfl, rfl⟩ | ⟨hn0, hq0⟩
    · go_wp2
      refine ret_dyad rfl rfl rfl rfl (D1.out.store (t := false) (u := .slice none 0 0) (y := 0)) ?_
      have hM := HM.out
      rw [Nat.zero_mul, num_zero] at hM
      subst hM
      exact ⟨_, 0, rfl, .inl ⟨okay_zero, rfl⟩, Dn.zero _ _, below_put3 B1.out (by omega)⟩
    · go_wp2
      refine ret_dyad rfl rfl rfl rfl (D1.out.store (t := s) (u := .slice A1 n1 d1) (y := ((y - k : Nat) : Int))) ?_
      have hM := HM.out
      subst hM
      have hc : Canon s q (y - k) := ⟨fun h => absurd h hq0, fun h => by
        obtain ⟨_, e1, e2⟩ := Hk.out
        have := Nat.mul_ne_zero hq0 (Nat.ne_of_gt (tp_pos k))
        omega⟩
      refine ⟨_, 0, rfl, .inl ⟨⟨s, q, y - k, hc, N1.out.val.lt, by omega, rfl⟩, rfl⟩, ⟨s, _, y - k, q, rfl, ?_, hc, by omega, rfl⟩, below_put3 B1.out (by omega)⟩
      exact (N1.out.put3 (by simp)).mono (by simp; omega)
  · have hor : x = 0 ∨ l = 1 := by omega
    have C1 := hid (dtake_any W0.out V0.out hl)
    have hO : 2 * V + l < pw 40 ∨ ¬ 2 * V + l < pw 40 := by omega
    have Hset := hid (settle_math (s := s) (V := V) hl hx hor)
    clear hv hT h1
    have hor2 : x = 0 ∨ 0 < x ∧ l = 1 := by omega
    clear hor
    have hov : x ≤ 1024 ∨ 1024 < x := by omega
    have HZ : Hid (∀ n1 : Nat, (n1 = 0 ↔ 2 * V + l = 0) → (n1 = 0 ∧ 2 * V + l = 0) ∨ (((n1 : Int) == 0) = false ∧ 2 * V + l ≠ 0)) := by
      intro n1 hq
      rcases Nat.eq_zero_or_pos n1 with h | h
      · exact .inl ⟨h, hq.1 h⟩
      · refine .inr ⟨by simp; omega, fun h2 => ?_⟩
        have := hq.2 h2
        omega
    rcases hO with hO | hO
    · rw [over_ok hO] at C1
      have HO := hid hO
      clear hO
      rcases hor2 with rfl | ⟨hx0, rfl⟩
      all_goals
        go_enter Tryd.func36, Tryd.ntmps36
        go_wp2_with fail
        refine C1.out.mono ?_
        rintro e w1 ⟨er, rfl, ⟨rfl⟩, HT, hg0⟩
        obtain ⟨v1, hw1, hn1, hg1⟩ := HT.out rfl
        obtain ⟨A1, n1, d1, rfl⟩ := hn1.shape
        have D1 := hid (D0.out.grown hg1 (by omega))
        have W1 := hid hw1
        have N1 := hid hn1
        have B1 := hid (Below.grown B0.out hg1 B0.out.size (fun k hk => by injection hk with hk; omega))
        have a0 := hw1.c0
        have a1 := hw1.c1
        have a2 := hw1.c2
        have b0 := D1.out.frozen 0
        have b1 := D1.out.frozen 1
        have b2 := D1.out.frozen 2
        have e0 := D1.out.c0
        have e1 := D1.out.c1
        have e2 := D1.out.c2
        have hq0 := hn1.val.len0
        have hq1 := hn1.val.len
        clear hw1 hn1 hg1 HT C1 V0 T0 W0 D0 hg0
        have hq2 := HZ.out n1 hq0
        clear hq0 HZ
        rcases hq2 with ⟨rfl, hz⟩ | ⟨hn0, hz⟩
        · have Hz := hid hz
          clear hz
          go_wp2
          refine ret_dyad rfl rfl rfl rfl (D1.out.store (t := false) (u := .slice none 0 0) (y := 0)) ?_
          have hM := HM.out
          rw [Hz.out, Nat.zero_mul, num_zero] at hM
          subst hM
          exact ⟨_, 0, rfl, .inl ⟨okay_zero, rfl⟩, Dn.zero _ _, below_put3 B1.out (by omega)⟩
        · obtain ⟨hc, hd⟩ := Hset.out hz
          have hM := HM.out
          rw [← hd] at hM
          have HM2 := hid hM
          have Hc := hid hc
          clear hd hc hM Hset hz HM
          rcases hov with hov | hov
          · go_wp2
            refine ret_dyad rfl rfl rfl rfl (D1.out.store (t := s) (u := .slice A1 n1 d1)) ?_
            have hM := HM2.out
            subst hM
            refine ⟨_, 0, rfl, .inl ⟨⟨s, _, _, Hc.out, N1.out.val.lt, hov, rfl⟩, rfl⟩, ⟨s, _, _, _, rfl, ?_, Hc.out, hov, rfl⟩, below_put3 B1.out (by omega)⟩
            exact (N1.out.put3 (by simp)).mono (by simp; omega)
          · first
              | (exfalso; omega)
              | (go_wp2
                 refine ret_dyad rfl rfl rfl rfl (D1.out.store (t := false) (u := .slice none 0 0) (y := 0)) ?_
                 have hM := HM2.out
                 subst hM
                 refine ⟨_, 10, rfl, .inr ⟨not_okay Hc.out (by omega) (.inr hov), rfl⟩, ?_, below_put3 B1.out (by omega)⟩
                 rw [resD_bad (by decide)]
                 exact Dn.zero _ _)
    · rw [over_bad hO] at C1
      have HO := hid hO
      clear hO
      rcases hor2 with rfl | ⟨hx0, rfl⟩
      all_goals
        go_enter Tryd.func36, Tryd.ntmps36
        go_wp2_with fail
        refine C1.out.mono ?_
        rintro e w1 ⟨er, rfl, ⟨rfl⟩, HT, hg0⟩
        have D1 := hid (D0.out.grown hg0 (by omega))
        have B1 := hid (Below.grown B0.out hg0 B0.out.size (fun k hk => by injection hk with hk; omega))
        have b0 := D1.out.frozen 0
        have b1 := D1.out.frozen 1
        have b2 := D1.out.frozen 2
        have e0 := D1.out.c0
        have e1 := D1.out.c1
        have e2 := D1.out.c2
        clear HT C1 V0 T0 W0 D0 hg0
        go_wp2
        refine ret_dyad rfl rfl rfl rfl (D1.out.store (t := false) (u := .slice none 0 0) (y := 0)) ?_
        have h0 := HO.out
        have hp := pw_pos 40
        obtain ⟨hc, hd⟩ := Hset.out (by omega)
        have hM := HM.out
        rw [← hd] at hM
        subst hM
        refine ⟨_, 10, rfl, .inr ⟨not_okay hc (by omega) (.inl (by omega)), rfl⟩, ?_, below_put3 B1.out (by omega)⟩
        rw [resD_bad (by decide)]
        exact Dn.zero _ _

end Go.Proofs.YtjppogmhibmebaaDoor
