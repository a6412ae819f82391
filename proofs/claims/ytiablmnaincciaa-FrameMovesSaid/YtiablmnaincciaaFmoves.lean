/- FrameMoves, walked. -/
import Derived.Test.YtiablmnaincciaaFset
namespace Go.Proofs.Ytiablmnaincciaa
open Go.RowKit

theorem xor_u8 (s x : Nat) (hs : s < 256) (hx : x < 256) : bits BinOp.xor IntKind.u8 (s : Int) (x : Int) = ((s ^^^ x : Nat) : Int) := u8_xor_nat s x hs hx

/-- Two neighbours are changed. -/
theorem crc_moves {xs : List Nat} {at_ o t : Nat} (hx : ∀ x ∈ xs, x < 256) (hat : at_ < xs.length) (ho : o < 256) (ht : t < 256) (ys zs : List Nat) (hy : ys = xs.set at_ (xs.getD at_ 0 ^^^ o)) (hz : zs = if 0 < at_ then ys.set (at_ - 1) (ys.getD (at_ - 1) 0 ^^^ t) else ys) :
    crc zs = crc xs ↔ (o = 0 ∧ (t = 0 ∨ at_ = 0)) := by
  have hg : ∀ (l : List Nat) j, (∀ x ∈ l, x < 256) → l.getD j 0 < 256 := fun l j hl => by
    rw [List.getD_eq_getElem?_getD]
    cases hx : l[j]? with
    | none => show 0 < 256; omega
    | some x => exact hl x (List.mem_of_getElem? hx)
  have hs : ∀ (l : List Nat) j y, (∀ x ∈ l, x < 256) → y < 256 → ∀ x ∈ l.set j y, x < 256 := fun l j y hl hy x hx => by
    rcases List.mem_or_eq_of_mem_set hx with h1 | rfl
    · exact hl x h1
    · exact hy
  have hyl : ∀ x ∈ ys, x < 256 := by rw [hy]; exact hs _ _ _ hx (Nat.xor_lt_two_pow (n := 8) (hg _ _ hx) (by omega))
  have hyn : nm ys = nm xs ^^^ o * 256 ^ at_ := by rw [hy]; exact nm_set hat hx ho
  have hylen : ys.length = xs.length := by rw [hy, List.length_set]
  rcases Nat.eq_zero_or_pos at_ with h0 | h0
  · subst h0
    rw [if_neg (Nat.lt_irrefl 0)] at hz
    subst hz
    have := crc_burst (at_ := 0) (m := o) hyl hx hylen (by omega) (by omega) (by rw [hyn])
    rw [this]
    simp
  · rw [if_pos h0] at hz
    have hzl : ∀ x ∈ zs, x < 256 := by rw [hz]; exact hs _ _ _ hyl (Nat.xor_lt_two_pow (n := 8) (hg _ _ hyl) (by omega))
    have hzn : nm zs = nm ys ^^^ t * 256 ^ (at_ - 1) := by rw [hz]; exact nm_set (by omega) hyl ht
    have hzlen : zs.length = xs.length := by rw [hz, List.length_set, hylen]
    have hcomb : o * 256 ^ at_ ^^^ t * 256 ^ (at_ - 1) = (t + o * 2 ^ 8) * 2 ^ (8 * (at_ - 1)) := by
      obtain ⟨k, rfl⟩ : ∃ k, at_ = k + 1 := ⟨at_ - 1, by omega⟩
      rw [Nat.add_sub_cancel, ← xor_add (k := 8) (by omega), xor_shift, Nat.xor_comm, Nat.mul_assoc]
      rw [show (256 : Nat) ^ k = 2 ^ (8 * k) by rw [Nat.pow_mul], show (256 : Nat) ^ (k + 1) = 2 ^ 8 * 2 ^ (8 * k) by rw [← Nat.pow_add, show 8 + 8 * k = 8 * (k + 1) by omega, Nat.pow_mul]]
    have := crc_burst (at_ := 8 * (at_ - 1)) (m := t + o * 2 ^ 8) hzl hx hzlen (by omega) (by omega) (by rw [hzn, hyn, Nat.xor_assoc, hcomb])
    rw [this]
    omega

set_option maxHeartbeats 6400000 in
theorem moves_walk {w : World} {n c : Nat} {A : Option Addr} {at_ one two : Int} {xs : List Nat} (h : By w w.heap.size A n c xs) (h2 : -9223372036854775808 ≤ at_ ∧ at_ ≤ 9223372036854775807) (ho : 0 ≤ one ∧ one ≤ 255) (ht : 0 ≤ two ∧ two ≤ 255) :
    Calls Try.prog 7 #[.slice A n c, .int .i64 at_, .int .u8 one, .int .u8 two] w fun e w' => e = .returned (.bool true) ∧ Below w.heap.size w w' := by
  have CA := hid (alive_any w)
  have hmax := h.max
  have HX := hid h
  clear h
  by_cases hgo : n ≤ 4096 ∧ 0 ≤ at_ ∧ at_ < n
  · obtain ⟨hn, h0, h1⟩ := hgo
    obtain ⟨k, rfl⟩ : ∃ k : Nat, at_ = k := ⟨at_.toNat, by omega⟩
    obtain ⟨o, rfl⟩ : ∃ o : Nat, one = o := ⟨one.toNat, by omega⟩
    obtain ⟨t, rfl⟩ : ∃ t : Nat, two = t := ⟨two.toNat, by omega⟩
    have hlen := HX.out.len
    have hS2 := Sum_any (h := HX.out)
    clear hS2
    obtain ⟨x0, hx0⟩ : ∃ x0, x0 = xs.getD k 0 := ⟨_, rfl⟩
    have hxl : x0 < 256 := hx0 ▸ HX.out.nth k
    obtain ⟨y0, hy0⟩ : ∃ y0, y0 = x0 ^^^ o := ⟨_, rfl⟩
    have hyl : y0 < 256 := hy0 ▸ Nat.xor_lt_two_pow (n := 8) (by omega) (by omega)
    have hv : bits BinOp.xor IntKind.u8 (x0 : Int) (o : Int) = (y0 : Int) := by rw [hy0]; exact xor_u8 x0 o hxl (by omega)
    obtain ⟨ys, hys⟩ : ∃ ys, ys = xs.set k y0 := ⟨_, rfl⟩
    have Hx0 := hid hx0
    have Hys := hid hys
    obtain ⟨S2, hS2⟩ : ∃ S, S = crc xs := ⟨_, rfl⟩
    have HS2 := hid hS2
    have hyy : ys = xs.set k (xs.getD k 0 ^^^ o) := by rw [hys, hy0, hx0]
    rcases k with - | p
    · have hl := crc_moves (at_ := 0) (o := o) (t := t) HX.out.lt (by omega) (by omega) (by omega) ys ys hyy (by rw [if_neg (Nat.lt_irrefl 0)])
      obtain ⟨S1, hS1⟩ : ∃ S, S = crc ys := ⟨_, rfl⟩
      have HS1 := hid hS1
      rw [← hS1, ← hS2] at hl
      have Hl := hid hl
      clear hl hS1 hS2 hyy hys hx0 hy0 hlen
      go_enter Try.func7, Try.ntmps7
      go_wp2_with fail
      refine CA.out.mono ?_
      rintro e w1 ⟨rfl, hb1⟩
      have HX1 := hid (HX.out.below hb1.out)
      go_wp2_with (first
        | (at_builtin; refine copy_bytes rfl (.tmp 31) (.tmp 32) rfl rfl rfl HX1.out (by omega) ?_; intro v2 w2 hO2 hb2; have hsh := hO2.out.shape; rw [HX.out.len] at hsh; obtain ⟨A2, c2, rfl, -⟩ := hsh; have hop := hO2.out.open_ (by omega); obtain ⟨g, rfl, -, hc2, hg, hgl, hcell, hfr⟩ := hop; have hck := hcell 0 (by omega); rw [← Hx0.out] at hck; have hfk := hfr 0; have HO3 := hO2.out.set 0 hyl; rw [← Hys.out] at HO3; have CS1 := Sum_any HO3.by_.2; rw [← HS1.out] at CS1; have HB3 := hid (((hb2.out.setCell (p := ⟨g, 0, none⟩) hg (.int .u8 (y0 : Int))).mono hb1.out.size)); have CS2 := Sum_any (HX1.out.below HB3.out); rw [← HS2.out] at CS2; have C1 := hid CS1; have C2 := hid CS2; clear hcell hfr CS1 CS2 HO3)
        | (go_at_call 10; with_reducible refine C1.out.mono ?_; rintro e w4 ⟨rfl, rfl⟩)
        | (go_at_call 10; with_reducible refine C2.out.mono ?_; rintro e w4 ⟨rfl, rfl⟩)
        | fail)
      all_goals
        go_ret
        have hlo := Hl.out
        try simp only [or_true, and_true] at hlo
        refine ⟨?_, hb1.out.trans HB3.out⟩
        show Ending.returned (Value.bool _) = Ending.returned (Value.bool true)
        congr 2
        simp
        first
          | omega
          | (rw [Bool.eq_iff_iff]; simp; omega)
    · obtain ⟨z0, hz0⟩ : ∃ z0, z0 = ys.getD p 0 := ⟨_, rfl⟩
      have hylt : ∀ x ∈ ys, x < 256 := by
        intro x hx
        rw [hys] at hx
        rcases List.mem_or_eq_of_mem_set hx with h1 | rfl
        · exact HX.out.lt x h1
        · exact hyl
      have hzl : z0 < 256 := by
        rw [hz0, List.getD_eq_getElem?_getD]
        cases hx : ys[p]? with
        | none => show 0 < 256; omega
        | some x => exact hylt x (List.mem_of_getElem? hx)
      obtain ⟨q0, hq0⟩ : ∃ q0, q0 = z0 ^^^ t := ⟨_, rfl⟩
      have hql : q0 < 256 := hq0 ▸ Nat.xor_lt_two_pow (n := 8) (by omega) (by omega)
      have hv2 : bits BinOp.xor IntKind.u8 (z0 : Int) (t : Int) = (q0 : Int) := by rw [hq0]; exact xor_u8 z0 t hzl (by omega)
      obtain ⟨zs, hzs⟩ : ∃ zs, zs = ys.set p q0 := ⟨_, rfl⟩
      have hl := crc_moves (at_ := p + 1) (o := o) (t := t) HX.out.lt (by omega) (by omega) (by omega) ys zs hyy (by rw [if_pos (Nat.succ_pos p), hzs, hq0, hz0]; rfl)
      obtain ⟨S1, hS1⟩ : ∃ S, S = crc zs := ⟨_, rfl⟩
      have HS1 := hid hS1
      have Hz0 := hid hz0
      have Hzs := hid hzs
      rw [← hS1, ← hS2] at hl
      have Hl := hid hl
      have hpn : p + 1 < n := by omega
      clear hl hS1 hS2 hyy hys hx0 hy0 hlen hz0 hzs hq0 hylt
      go_enter Try.func7, Try.ntmps7
      go_wp2_with fail
      refine CA.out.mono ?_
      rintro e w1 ⟨rfl, hb1⟩
      have HX1 := hid (HX.out.below hb1.out)
      go_wp2_with (first
        | (at_builtin; refine copy_bytes rfl (.tmp 31) (.tmp 32) rfl rfl rfl HX1.out (by omega) ?_; intro v2 w2 hO2 hb2; have hsh := hO2.out.shape; rw [HX.out.len] at hsh; obtain ⟨A2, c2, rfl, -⟩ := hsh; have hop := hO2.out.open_ (by omega); obtain ⟨g, rfl, -, hc2, hg, hgl, hcell, hfr⟩ := hop; have hck := hcell (p + 1) (by omega); rw [← Hx0.out] at hck; have hfk := hfr (p + 1); have hfp := hfr p; have HO3 := hO2.out.set (p + 1) hyl; rw [← Hys.out] at HO3; have hop3 := HO3.open_ (by omega); obtain ⟨g3, e3, -, -, -, -, hcell3, hfr3⟩ := hop3; injection e3 with e3; injection e3 with e3 e4; subst e3; have hcp := hcell3 p (by omega); rw [← Hz0.out] at hcp; have hfp3 := hfr3 p; have HO4 := HO3.set p hql; rw [← Hzs.out] at HO4; have CS1 := Sum_any HO4.by_.2; rw [← HS1.out] at CS1; have HB3 := hid ((((hb2.out.setCell (p := ⟨g, p + 1, none⟩) hg (.int .u8 (y0 : Int))).setCell (p := ⟨g, p, none⟩) hg (.int .u8 (q0 : Int))).mono hb1.out.size)); have CS2 := Sum_any (HX1.out.below HB3.out); rw [← HS2.out] at CS2; have C1 := hid CS1; have C2 := hid CS2; clear hcell hfr CS1 CS2 HO3 HO4 hcell3 hfr3)
        | (go_at_call 10; with_reducible refine C1.out.mono ?_; rintro e w4 ⟨rfl, rfl⟩)
        | (go_at_call 10; with_reducible refine C2.out.mono ?_; rintro e w4 ⟨rfl, rfl⟩)
        | fail)
      all_goals
        go_ret
        have hlo := Hl.out
        try simp only [or_true, and_true] at hlo
        refine ⟨?_, hb1.out.trans HB3.out⟩
        show Ending.returned (Value.bool _) = Ending.returned (Value.bool true)
        congr 2
        simp
        first
          | omega
          | (rw [Bool.eq_iff_iff]; simp; omega)
  · go_enter Try.func7, Try.ntmps7
    go_wp2_with fail
    refine CA.out.mono ?_
    rintro e w1 ⟨rfl, hb1⟩
    have hcase : 4096 < (n : Int) ∨ ¬ 4096 < (n : Int) ∧ (at_ < 0 ∨ ¬ at_ < 0 ∧ (n : Int) ≤ at_) := by omega
    clear hgo
    rcases hcase with d0 | ⟨d0, d1 | ⟨d1, d2⟩⟩
    all_goals
      go_wp2
      go_ret
      exact ⟨rfl, hb1.out⟩

end Go.Proofs.Ytiablmnaincciaa
