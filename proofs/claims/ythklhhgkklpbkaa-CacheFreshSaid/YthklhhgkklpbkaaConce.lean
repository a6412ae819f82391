/- CacheOnce, walked, over the contracts of the program's Merge and Same. -/
import Derived.Test.YthklhhgkklpbkaaCmerge
namespace Go.Proofs.Ythklhhgkklpbkaa
open Go.RowKit Go.Shelf Go.Lib

/-- What the law asks of the program's Merge. -/
def MergeOk : Prop := ∀ (w : World) (o p : Int) (B n c C m d : Nat) (A D : Option Addr) (l r : List De), Ds w B A n c l → Ds w C D m d r → B ≤ w.heap.size → C ≤ w.heap.size →
    Calls Try.prog 11 #[cav o p (.slice A n c), .slice D m d] w fun e w' => ∃ A' n' c', e = .returned (.tuple #[cav (mgO o p l r) (mgP o p l r) (.slice A' n' c'), .int .i64 (mgE o p l r)]) ∧ Hid (Ds w' w'.heap.size A' n' c' (mgL o p l r) ∧ Below w.heap.size w w' ∧ ∀ a, A' = some a → w.heap.size ≤ a.block)
def SameOk : Prop := ∀ (w : World) (o p o' p' : Int) (B n c C m d : Nat) (A D : Option Addr) (l r : List De), Ds w B A n c l → Ds w C D m d r → B ≤ w.heap.size → C ≤ w.heap.size →
    Calls Try.prog 21 #[cav o p (.slice A n c), cav o' p' (.slice D m d)] w fun e w' => e = .returned (.bool (decide (o = o' ∧ p = p' ∧ l = r))) ∧ Hid (Below w.heap.size w w')
theorem od_ne {w : World} {B g : Nat} {v u : Value} {o p : Int} {l : List De} (h : Od w B v l) (hz : Cbox w g o p u) : some g ≠ v.ownBlock := by
  intro he
  obtain ⟨⟨_, hor⟩, _⟩ := h
  rcases hor with ⟨rfl, _⟩ | ⟨b, cap, cur, rfl, _, hb, _⟩
  · cases he
  · simp [Value.ownBlock] at he
    subst he
    rw [hz] at hb
    injection hb with hb
    injection hb with _ hb _
    exact absurd hb (by decide)
theorem Turned.box {w w' : World} {B g : Nat} {v v' u : Value} {o p : Int} {l l' : List De} (h : Turned w w' B v v' l') (hO : Od w B v l) (hz : Cbox w g o p u) : Cbox w' g o p u := (h.grown.block g hz.lt (od_ne hO hz)).trans hz
theorem Ds.set {w : World} {B n c g j : Nat} {A : Option Addr} {l : List De} (h : Ds w B A n c l) (hA : ∀ a, A = some a → a.block ≠ g) (u : Value) : Ds (w.setCell ⟨g, j, none⟩ u) B A n c l :=
  ⟨h.len, h.cap, h.max, h.nil, fun hn => by
    obtain ⟨b, off, rfl, hB, hc⟩ := h.at_ hn
    have hne : b ≠ g := hA _ rfl
    have hh : (w.setCell ⟨g, j, none⟩ u).heap[b]? = w.heap[b]? := Below.heap_setCell w ⟨g, j, none⟩ u b hne
    refine ⟨b, off, rfl, hB, fun i d hd => ?_⟩
    obtain ⟨h1, h2⟩ := hc i d hd
    exact ⟨(World.cell?_of_block (a := ⟨b, off + i * 2, none⟩) hh).trans h1, (World.cell?_of_block (a := ⟨b, off + i * 2 + 1, none⟩) hh).trans h2⟩⟩
theorem Ds.putC {w : World} {B n c g : Nat} {A : Option Addr} {l : List De} {o p : Int} {u : Value} (h : Ds w B A n c l) (hA : ∀ a, A = some a → a.block ≠ g) : Ds (putC w g o p u) B A n c l := ((h.set (j := 0) hA _).set (j := 1) hA _).set (j := 2) hA _
theorem putC_size {w : World} {g : Nat} {o p : Int} {u : Value} : (putC w g o p u).heap.size = w.heap.size := by simp [putC, World.setCell]
theorem putC_out {Q : World → Prop} {w : World} {g : Nat} {o p o' p' : Int} {u u' : Value} (hz : Cbox w g o' p' u') (h : ∀ W, Cbox W g o p u → W = putC w g o p u → Q W) : Q (((w.setCell ⟨g, 0, none⟩ (.int .i64 o)).setCell ⟨g, 1, none⟩ (.int .i64 p)).setCell ⟨g, 2, none⟩ u) := h _ hz.store rfl
theorem alloc_out {Q : World → Prop} {w : World} {o p : Int} {u : Value} (h : ∀ W, Cbox W w.heap.size o p u → W = w.alloc (.cells #[.int .i64 o, .int .i64 p, u] 24) → Q W) : Q (w.alloc (.cells #[.int .i64 o, .int .i64 p, u] 24)) := h _ (heap_alloc_new w _) rfl
def AliveOk : Prop := ∀ w : World, Calls Try.prog 12 #[] w fun e w' => e = .returned (.bool true) ∧ Hid (Below w.heap.size w w')

theorem mg_good {o p : Int} {l r : List De} (h : CMay o p l) (hr : chk r = 0) (hl : l.length + r.length ≤ 64) : mgE o p l r = 0 ∧ mgO o p l r = o ∧ mgP o p l r = p ∧ mgL o p l r = tkn o p.toNat l r := by
  have hE : mgE o p l r = 0 := by unfold mgE; rw [if_pos h, if_pos hr, if_neg (by omega)]
  refine ⟨hE, ?_, ?_, ?_⟩
  · unfold mgO; rw [if_pos hE]
  · unfold mgP; rw [if_pos hE]
  · unfold mgL; rw [if_pos hE]
theorem mg_zero {o p : Int} {l r : List De} (h : mgE o p l r = 0) : CMay o p l ∧ chk r = 0 ∧ l.length + r.length ≤ 64 := by
  unfold mgE at h
  split at h
  · next h1 =>
    split at h
    · next h2 =>
      split at h
      · omega
      · next h3 => exact ⟨h1, h2, by omega⟩
    · next h2 => exact absurd h h2
  · omega
theorem tkn_len {o p : Int} {l r : List De} (h : CMay o p l) : (tkn o p.toNat l r).length ≤ 6 := by
  obtain ⟨_, _, h3, h4, _⟩ := h
  have := kp_length p.toNat (oth o (l ++ r))
  unfold tkn
  omega
theorem chk_both {l m : List De} (hl : chk l = 0) (hm : chk m = 0) (h : l.length + m.length ≤ 64) : chk (l ++ m) = 0 := by
  refine chk_zero.2 ⟨by rw [List.length_append]; omega, ?_⟩
  rw [List.any_append, (chk_zero.1 hl).2, (chk_zero.1 hm).2]
  rfl
theorem zero_bad (r : List De) : mgE 0 0 [] r = 8 := by
  unfold mgE
  rw [if_neg (by rintro ⟨_, _, h, _⟩; omega)]

set_option maxHeartbeats 12800000 in
set_option maxRecDepth 100000 in
theorem once_walk (CA : AliveOk) (DM : MergeOk) (DS : SameOk) {w : World} {nc cc nl cl nm cm : Nat} {Ac Al Am : Option Addr} {k l m : List De} (o p : Int) (hc : Ds w w.heap.size Ac nc cc k) (hl : Ds w w.heap.size Al nl cl l) (hm : Ds w w.heap.size Am nm cm m) :
    Calls Try.prog 5 #[cav o p (.slice Ac nc cc), .slice Al nl cl, .slice Am nm cm] w fun e w' => e = .returned (.bool true) ∧ Below w.heap.size w w' := by
  have mixed : Try.prog.follows .mixedOrders = true := by kernel_rfl
  have HL := hid hl.len
  have HM := hid hm.len
  have hcap := hc.cap
  have hcap2 := hl.cap
  have hcap3 := hm.cap
  obtain ⟨W0, hW⟩ : ∃ W, W = w.alloc (.cells #[.int .i64 o, .int .i64 p, .slice Ac nc cc] 24) := ⟨_, rfl⟩
  have B0 := hid (show Below w.heap.size w W0 from hW ▸ (Below.refl _ w).alloc (Nat.le_refl _) _)
  have X0 := hid (show Cbox W0 w.heap.size o p (.slice Ac nc cc) from hW ▸ heap_alloc_new w _)
  have D0 := hid ((hc.below B0.out).mono B0.out.size)
  have Dl := hid ((hl.below B0.out).mono B0.out.size)
  have Dm := hid ((hm.below B0.out).mono B0.out.size)
  have HW := hid hW
  clear hW hc hl hm
  unfold cav
  by_cases h25 : 25 < nl
  · have hz : (nl : Int) > 25 := by omega
    go_enter Try.func5, Try.ntmps5
    go_upto_region 1 with fail
    rw [← HW.out]
    go_wp2_with fail
    refine (CA _).mono ?_
    rintro e w1 ⟨rfl, hb⟩
    go_wp2
    go_ret
    exact ⟨rfl, B0.out.trans (hb.out.mono B0.out.size)⟩
  by_cases h26 : 25 < nm
  · have hz : ¬ (nl : Int) > 25 := by omega
    have hz2 : (nm : Int) > 25 := by omega
    go_enter Try.func5, Try.ntmps5
    go_upto_region 1 with fail
    rw [← HW.out]
    go_wp2_with fail
    refine (CA _).mono ?_
    rintro e w1 ⟨rfl, hb⟩
    go_wp2
    go_ret
    exact ⟨rfl, B0.out.trans (hb.out.mono B0.out.size)⟩
  have hz : ¬ (nl : Int) > 25 := by omega
  have hz2 : ¬ (nm : Int) > 25 := by omega
  have hl25 : Hid (l.length ≤ 25) := hid (by have := HL.out; omega)
  have hm25 : Hid (m.length ≤ 25) := hid (by have := HM.out; omega)
  obtain ⟨x, hx⟩ : ∃ x, x = mgE o p k l := ⟨_, rfl⟩
  by_cases hx0 : x = 0
  case neg =>
    obtain ⟨e1, e2, e3⟩ := mg_bad hx.symm hx0
    have e4 := zero_bad m
    obtain ⟨e5, e6, e7⟩ := mg_bad e4 (by decide)
    have He := hid (And.intro hx.symm (And.intro e1 (And.intro e2 e3)))
    have Hf := hid (And.intro e4 (And.intro e5 (And.intro e6 e7)))
    clear hx e1 e2 e3 e4 e5 e6 e7
    go_enter Try.func5, Try.ntmps5
    go_upto_region 1 with fail
    rw [← HW.out]
    clear HW
    go_wp2_with fail
    refine (CA _).mono ?_
    rintro e w1 ⟨rfl, Bn⟩
    have X0' := hid (X0.out.below Bn.out X0.out.lt)
    clear X0
    have X0 := X0'
    clear X0'
    have D0' := hid ((D0.out.below Bn.out).mono Bn.out.size)
    clear D0
    have D0 := D0'
    clear D0'
    have Dl' := hid ((Dl.out.below Bn.out).mono Bn.out.size)
    clear Dl
    have Dl := Dl'
    clear Dl'
    have Dm' := hid ((Dm.out.below Bn.out).mono Bn.out.size)
    clear Dm
    have Dm := Dm'
    clear Dm'
    have B1 := hid (B0.out.trans (Bn.out.mono B0.out.size))
    clear B0
    have x3_0 := X0.out.c0
    have x3_1 := X0.out.c1
    have x3_2 := X0.out.c2
    have hM2 := hid (DM w1 o p _ _ _ _ _ _ _ _ _ _ D0.out Dl.out (Nat.le_refl _) (Nat.le_refl _))
    rw [He.out.1, He.out.2.1, He.out.2.2.1, He.out.2.2.2] at hM2
    unfold cav at hM2
    go_wp2_with fail
    refine hM2.out.mono ?_
    rintro e w2 ⟨A2, n2, c2, rfl, hv2⟩
    clear hM2 x3_0 x3_1 x3_2
    go_upto_region 5 with fail
    have Bn2 := hid (hv2.out.2.1.alloc hv2.out.2.1.size (.cells #[.int .i64 0, .int .i64 0, .slice A2 n2 c2] 24))
    have X2 := hid (show Cbox (w2.alloc (.cells #[.int .i64 0, .int .i64 0, .slice A2 n2 c2] 24)) w2.heap.size 0 0 (.slice A2 n2 c2) from heap_alloc_new w2 _)
    have D2 := hid ((hv2.out.1.below ((Below.refl w2.heap.size w2).alloc (Nat.le_refl _) (.cells #[.int .i64 0, .int .i64 0, .slice A2 n2 c2] 24))).mono (by simp : w2.heap.size ≤ (w2.alloc (.cells #[.int .i64 0, .int .i64 0, .slice A2 n2 c2] 24)).heap.size))
    clear hv2
    generalize w2.alloc (.cells #[.int .i64 0, .int .i64 0, .slice A2 n2 c2] 24) = W2 at Bn2 X2 D2 ⊢
    have X0' := hid (X0.out.below Bn2.out X0.out.lt)
    clear X0
    have X0 := X0'
    clear X0'
    have D0' := hid ((D0.out.below Bn2.out).mono Bn2.out.size)
    clear D0
    have D0 := D0'
    clear D0'
    have Dl' := hid ((Dl.out.below Bn2.out).mono Bn2.out.size)
    clear Dl
    have Dl := Dl'
    clear Dl'
    have Dm' := hid ((Dm.out.below Bn2.out).mono Bn2.out.size)
    clear Dm
    have Dm := Dm'
    clear Dm'
    have B3 := hid (B1.out.trans (Bn2.out.mono B1.out.size))
    clear B1
    clear Bn2
    have x8_0 := X2.out.c0
    have x8_1 := X2.out.c1
    have x8_2 := X2.out.c2
    have hM4 := hid (DM W2 0 0 _ _ _ _ _ _ _ _ _ _ D2.out Dm.out (Nat.le_refl _) (Nat.le_refl _))
    rw [Hf.out.1, Hf.out.2.1, Hf.out.2.2.1, Hf.out.2.2.2] at hM4
    unfold cav at hM4
    go_wp2_with fail
    refine hM4.out.mono ?_
    rintro e w4 ⟨A4, n4, c4, rfl, hv4⟩
    clear hM4 x8_0 x8_1 x8_2
    go_upto_region 6 with fail
    have Bn4 := hid (hv4.out.2.1.alloc hv4.out.2.1.size (.cells #[.int .i64 0, .int .i64 0, .slice A4 n4 c4] 24))
    have X4 := hid (show Cbox (w4.alloc (.cells #[.int .i64 0, .int .i64 0, .slice A4 n4 c4] 24)) w4.heap.size 0 0 (.slice A4 n4 c4) from heap_alloc_new w4 _)
    have D4 := hid ((hv4.out.1.below ((Below.refl w4.heap.size w4).alloc (Nat.le_refl _) (.cells #[.int .i64 0, .int .i64 0, .slice A4 n4 c4] 24))).mono (by simp : w4.heap.size ≤ (w4.alloc (.cells #[.int .i64 0, .int .i64 0, .slice A4 n4 c4] 24)).heap.size))
    clear hv4
    generalize w4.alloc (.cells #[.int .i64 0, .int .i64 0, .slice A4 n4 c4] 24) = W4 at Bn4 X4 D4 ⊢
    have X0' := hid (X0.out.below Bn4.out X0.out.lt)
    clear X0
    have X0 := X0'
    clear X0'
    have X2' := hid (X2.out.below Bn4.out X2.out.lt)
    clear X2
    have X2 := X2'
    clear X2'
    have D0' := hid ((D0.out.below Bn4.out).mono Bn4.out.size)
    clear D0
    have D0 := D0'
    clear D0'
    have D2' := hid ((D2.out.below Bn4.out).mono Bn4.out.size)
    clear D2
    have D2 := D2'
    clear D2'
    have Dl' := hid ((Dl.out.below Bn4.out).mono Bn4.out.size)
    clear Dl
    have Dl := Dl'
    clear Dl'
    have Dm' := hid ((Dm.out.below Bn4.out).mono Bn4.out.size)
    clear Dm
    have Dm := Dm'
    clear Dm'
    have B5 := hid (B3.out.trans (Bn4.out.mono B3.out.size))
    clear B3
    clear Bn4
    have hn0 := D2.out.len
    have hc2 := X2.out.c2
    obtain rfl : n2 = 0 := by simpa using hn0.symm
    clear hn0
    go_wp2_with fail
    go_ret
    exact ⟨rfl, B5.out⟩
  subst hx0
  obtain ⟨z1, z2, z3⟩ := mg_zero hx.symm
  obtain ⟨_, a2, a3, a4⟩ := mg_good z1 z2 z3
  have y1 := cmay_tkn z1 z2
  have y2 := tkn_len (r := l) z1
  obtain ⟨b1, b2, b3, b4⟩ := mg_good y1 z2 (by have := hl25.out; omega)
  rw [tkn_twice] at b4
  obtain ⟨q, hq⟩ : ∃ q, q = chk m := ⟨_, rfl⟩
  by_cases hq0 : q = 0
  case neg =>
    have c1 : mgE o p (tkn o p.toNat k l) m = q := by unfold mgE; rw [if_pos y1, ← hq, if_neg hq0]
    obtain ⟨c2, c3, c4⟩ := mg_bad c1 hq0
    have CK := hid (fun X (hb : Ds X X.heap.size Am nm cm m) => check_any hb (Nat.le_refl _))
    rw [← hq] at CK
    obtain ⟨t, ht⟩ : ∃ t, t = tkn o p.toNat k l := ⟨_, rfl⟩
    rw [← ht] at a4 b1 b2 b3 b4 c1 c2 c3 c4
    have Hy1 := hid y1
    have Hz1 := hid z1
    have He := hid (And.intro hx.symm (And.intro a2 (And.intro a3 a4)))
    have Hf := hid (And.intro b1 (And.intro b2 (And.intro b3 b4)))
    have Hg := hid (And.intro c1 (And.intro c2 (And.intro c3 c4)))
    clear y1 y2 z1 z2 z3 ht hq hx a2 a3 a4 b1 b2 b3 b4 c1 c2 c3 c4
    go_enter Try.func5, Try.ntmps5
    go_upto_region 1 with fail
    rw [← HW.out]
    clear HW
    go_wp2_with fail
    refine (CA _).mono ?_
    rintro e w1 ⟨rfl, Bn⟩
    have X0' := hid (X0.out.below Bn.out X0.out.lt)
    clear X0
    have X0 := X0'
    clear X0'
    have D0' := hid ((D0.out.below Bn.out).mono Bn.out.size)
    clear D0
    have D0 := D0'
    clear D0'
    have Dl' := hid ((Dl.out.below Bn.out).mono Bn.out.size)
    clear Dl
    have Dl := Dl'
    clear Dl'
    have Dm' := hid ((Dm.out.below Bn.out).mono Bn.out.size)
    clear Dm
    have Dm := Dm'
    clear Dm'
    have B6 := hid (B0.out.trans (Bn.out.mono B0.out.size))
    clear B0
    have x3_0 := X0.out.c0
    have x3_1 := X0.out.c1
    have x3_2 := X0.out.c2
    have hM7 := hid (DM w1 o p _ _ _ _ _ _ _ _ _ _ D0.out Dl.out (Nat.le_refl _) (Nat.le_refl _))
    rw [He.out.1, He.out.2.1, He.out.2.2.1, He.out.2.2.2] at hM7
    unfold cav at hM7
    go_wp2_with fail
    refine hM7.out.mono ?_
    rintro e w7 ⟨A7, n7, c7, rfl, hv7⟩
    clear hM7 x3_0 x3_1 x3_2
    go_upto_region 5 with fail
    have Bn7 := hid (hv7.out.2.1.alloc hv7.out.2.1.size (.cells #[.int .i64 o, .int .i64 p, .slice A7 n7 c7] 24))
    have X7 := hid (show Cbox (w7.alloc (.cells #[.int .i64 o, .int .i64 p, .slice A7 n7 c7] 24)) w7.heap.size o p (.slice A7 n7 c7) from heap_alloc_new w7 _)
    have D7 := hid ((hv7.out.1.below ((Below.refl w7.heap.size w7).alloc (Nat.le_refl _) (.cells #[.int .i64 o, .int .i64 p, .slice A7 n7 c7] 24))).mono (by simp : w7.heap.size ≤ (w7.alloc (.cells #[.int .i64 o, .int .i64 p, .slice A7 n7 c7] 24)).heap.size))
    clear hv7
    generalize w7.alloc (.cells #[.int .i64 o, .int .i64 p, .slice A7 n7 c7] 24) = W7 at Bn7 X7 D7 ⊢
    have X0' := hid (X0.out.below Bn7.out X0.out.lt)
    clear X0
    have X0 := X0'
    clear X0'
    have D0' := hid ((D0.out.below Bn7.out).mono Bn7.out.size)
    clear D0
    have D0 := D0'
    clear D0'
    have Dl' := hid ((Dl.out.below Bn7.out).mono Bn7.out.size)
    clear Dl
    have Dl := Dl'
    clear Dl'
    have Dm' := hid ((Dm.out.below Bn7.out).mono Bn7.out.size)
    clear Dm
    have Dm := Dm'
    clear Dm'
    have B8 := hid (B6.out.trans (Bn7.out.mono B6.out.size))
    clear B6
    clear Bn7
    have x8_0 := X7.out.c0
    have x8_1 := X7.out.c1
    have x8_2 := X7.out.c2
    have hM9 := hid (DM W7 o p _ _ _ _ _ _ _ _ _ _ D7.out Dm.out (Nat.le_refl _) (Nat.le_refl _))
    rw [Hg.out.1, Hg.out.2.1, Hg.out.2.2.1, Hg.out.2.2.2] at hM9
    unfold cav at hM9
    go_wp2_with fail
    refine hM9.out.mono ?_
    rintro e w9 ⟨A9, n9, c9, rfl, hv9⟩
    clear hM9 x8_0 x8_1 x8_2
    go_upto_region 6 with fail
    have Bn9 := hid (hv9.out.2.1.alloc hv9.out.2.1.size (.cells #[.int .i64 0, .int .i64 0, .slice A9 n9 c9] 24))
    have X9 := hid (show Cbox (w9.alloc (.cells #[.int .i64 0, .int .i64 0, .slice A9 n9 c9] 24)) w9.heap.size 0 0 (.slice A9 n9 c9) from heap_alloc_new w9 _)
    have D9 := hid ((hv9.out.1.below ((Below.refl w9.heap.size w9).alloc (Nat.le_refl _) (.cells #[.int .i64 0, .int .i64 0, .slice A9 n9 c9] 24))).mono (by simp : w9.heap.size ≤ (w9.alloc (.cells #[.int .i64 0, .int .i64 0, .slice A9 n9 c9] 24)).heap.size))
    clear hv9
    generalize w9.alloc (.cells #[.int .i64 0, .int .i64 0, .slice A9 n9 c9] 24) = W9 at Bn9 X9 D9 ⊢
    have X0' := hid (X0.out.below Bn9.out X0.out.lt)
    clear X0
    have X0 := X0'
    clear X0'
    have X7' := hid (X7.out.below Bn9.out X7.out.lt)
    clear X7
    have X7 := X7'
    clear X7'
    have D0' := hid ((D0.out.below Bn9.out).mono Bn9.out.size)
    clear D0
    have D0 := D0'
    clear D0'
    have D7' := hid ((D7.out.below Bn9.out).mono Bn9.out.size)
    clear D7
    have D7 := D7'
    clear D7'
    have Dl' := hid ((Dl.out.below Bn9.out).mono Bn9.out.size)
    clear Dl
    have Dl := Dl'
    clear Dl'
    have Dm' := hid ((Dm.out.below Bn9.out).mono Bn9.out.size)
    clear Dm
    have Dm := Dm'
    clear Dm'
    have B10 := hid (B8.out.trans (Bn9.out.mono B8.out.size))
    clear B8
    clear Bn9
    have x8_0 := X7.out.c0
    have x8_1 := X7.out.c1
    have x8_2 := X7.out.c2
    have hM11 := hid (DM W9 o p _ _ _ _ _ _ _ _ _ _ D7.out Dl.out (Nat.le_refl _) (Nat.le_refl _))
    rw [Hf.out.1, Hf.out.2.1, Hf.out.2.2.1, Hf.out.2.2.2] at hM11
    unfold cav at hM11
    go_wp2_with fail
    refine hM11.out.mono ?_
    rintro e w11 ⟨A11, n11, c11, rfl, hv11⟩
    clear hM11 x8_0 x8_1 x8_2
    go_upto_region 9 with fail
    have Bn11 := hid (hv11.out.2.1.alloc hv11.out.2.1.size (.cells #[.int .i64 o, .int .i64 p, .slice A11 n11 c11] 24))
    have X11 := hid (show Cbox (w11.alloc (.cells #[.int .i64 o, .int .i64 p, .slice A11 n11 c11] 24)) w11.heap.size o p (.slice A11 n11 c11) from heap_alloc_new w11 _)
    have D11 := hid ((hv11.out.1.below ((Below.refl w11.heap.size w11).alloc (Nat.le_refl _) (.cells #[.int .i64 o, .int .i64 p, .slice A11 n11 c11] 24))).mono (by simp : w11.heap.size ≤ (w11.alloc (.cells #[.int .i64 o, .int .i64 p, .slice A11 n11 c11] 24)).heap.size))
    clear hv11
    generalize w11.alloc (.cells #[.int .i64 o, .int .i64 p, .slice A11 n11 c11] 24) = W11 at Bn11 X11 D11 ⊢
    have X0' := hid (X0.out.below Bn11.out X0.out.lt)
    clear X0
    have X0 := X0'
    clear X0'
    have X7' := hid (X7.out.below Bn11.out X7.out.lt)
    clear X7
    have X7 := X7'
    clear X7'
    have X9' := hid (X9.out.below Bn11.out X9.out.lt)
    clear X9
    have X9 := X9'
    clear X9'
    have D0' := hid ((D0.out.below Bn11.out).mono Bn11.out.size)
    clear D0
    have D0 := D0'
    clear D0'
    have D7' := hid ((D7.out.below Bn11.out).mono Bn11.out.size)
    clear D7
    have D7 := D7'
    clear D7'
    have D9' := hid ((D9.out.below Bn11.out).mono Bn11.out.size)
    clear D9
    have D9 := D9'
    clear D9'
    have Dl' := hid ((Dl.out.below Bn11.out).mono Bn11.out.size)
    clear Dl
    have Dl := Dl'
    clear Dl'
    have Dm' := hid ((Dm.out.below Bn11.out).mono Bn11.out.size)
    clear Dm
    have Dm := Dm'
    clear Dm'
    have B12 := hid (B10.out.trans (Bn11.out.mono B10.out.size))
    clear B10
    clear Bn11
    have x12_0 := X11.out.c0
    have x12_1 := X11.out.c1
    have x12_2 := X11.out.c2
    have x8_0 := X7.out.c0
    have x8_1 := X7.out.c1
    have x8_2 := X7.out.c2
    have hS13 := hid (DS W11 o p o p _ _ _ _ _ _ _ _ _ _ D11.out D7.out (Nat.le_refl _) (Nat.le_refl _))
    rw [show decide (o = o ∧ p = p ∧ t = t) = true from decide_eq_true ⟨rfl, rfl, rfl⟩] at hS13
    unfold cav at hS13
    go_wp2_with fail
    refine hS13.out.mono ?_
    rintro e w13 ⟨rfl, Bn13⟩
    clear hS13 x12_0 x12_1 x12_2 x8_0 x8_1 x8_2
    have X0' := hid (X0.out.below Bn13.out X0.out.lt)
    clear X0
    have X0 := X0'
    clear X0'
    have X7' := hid (X7.out.below Bn13.out X7.out.lt)
    clear X7
    have X7 := X7'
    clear X7'
    have X9' := hid (X9.out.below Bn13.out X9.out.lt)
    clear X9
    have X9 := X9'
    clear X9'
    have X11' := hid (X11.out.below Bn13.out X11.out.lt)
    clear X11
    have X11 := X11'
    clear X11'
    have D0' := hid ((D0.out.below Bn13.out).mono Bn13.out.size)
    clear D0
    have D0 := D0'
    clear D0'
    have D7' := hid ((D7.out.below Bn13.out).mono Bn13.out.size)
    clear D7
    have D7 := D7'
    clear D7'
    have D9' := hid ((D9.out.below Bn13.out).mono Bn13.out.size)
    clear D9
    have D9 := D9'
    clear D9'
    have D11' := hid ((D11.out.below Bn13.out).mono Bn13.out.size)
    clear D11
    have D11 := D11'
    clear D11'
    have Dl' := hid ((Dl.out.below Bn13.out).mono Bn13.out.size)
    clear Dl
    have Dl := Dl'
    clear Dl'
    have Dm' := hid ((Dm.out.below Bn13.out).mono Bn13.out.size)
    clear Dm
    have Dm := Dm'
    clear Dm'
    have B14 := hid (B12.out.trans (Bn13.out.mono B12.out.size))
    clear B12
    clear Bn13
    go_wp2_with fail
    refine (CK.out _ Dm.out).mono ?_
    rintro e w99 ⟨rfl, Bz⟩
    go_wp2_with fail
    go_ret
    exact ⟨by simp, B14.out.trans (Bz.out.mono B14.out.size)⟩
  subst hq0
  have hk6 : k.length ≤ 6 := by
    obtain ⟨_, _, _, g4, g5, _⟩ := z1
    omega
  have zm : chk m = 0 := hq.symm
  have hl25' := hl25.out
  have hm25' := hm25.out
  obtain ⟨c1, c2, c3, c4⟩ := mg_good y1 zm (by omega)
  rw [tkn_tkn] at c4
  obtain ⟨d1, d2, d3, d4⟩ := mg_good z1 (chk_both z2 zm (by omega)) (by rw [List.length_append]; omega)
  obtain ⟨f1, f2, f3, f4⟩ := mg_good z1 zm (by omega)
  have y3 := cmay_tkn z1 zm
  have y4 := tkn_len (r := m) z1
  obtain ⟨g1, g2, g3, g4⟩ := mg_good y3 z2 (by omega)
  rw [tkn_swap, tkn_tkn] at g4
  obtain ⟨t, ht⟩ : ∃ t, t = tkn o p.toNat k l := ⟨_, rfl⟩
  obtain ⟨u, hu⟩ : ∃ t, t = tkn o p.toNat k m := ⟨_, rfl⟩
  obtain ⟨v, hv⟩ : ∃ t, t = tkn o p.toNat k (l ++ m) := ⟨_, rfl⟩
  obtain ⟨s, hs⟩ : ∃ t, t = l ++ m := ⟨_, rfl⟩
  rw [← ht] at a4 b1 b2 b3 b4 c1 c2 c3 c4
  rw [← hu] at f4 g1 g2 g3 g4
  rw [← hv] at c4 d4 g4
  rw [← hs] at d1 d2 d3 d4
  have He := hid (And.intro hx.symm (And.intro a2 (And.intro a3 a4)))
  have Hf := hid (And.intro b1 (And.intro b2 (And.intro b3 b4)))
  have Hg := hid (And.intro c1 (And.intro c2 (And.intro c3 c4)))
  have Hd := hid (And.intro d1 (And.intro d2 (And.intro d3 d4)))
  have Hi := hid (And.intro f1 (And.intro f2 (And.intro f3 f4)))
  have Hj := hid (And.intro g1 (And.intro g2 (And.intro g3 g4)))
  obtain ⟨N, hN⟩ : ∃ N, N = s.length := ⟨_, rfl⟩
  have HN := hid (show s.length = N from hN.symm)
  have HS := hid hs
  clear y1 y2 y3 y4 z1 z2 z3 zm ht hu hv hs hq hx a2 a3 a4 b1 b2 b3 b4 c1 c2 c3 c4 d1 d2 d3 d4 f1 f2 f3 f4 g1 g2 g3 g4 hl25' hm25' hk6 hN
  go_enter Try.func5, Try.ntmps5
  go_upto_region 1 with fail
  rw [← HW.out]
  clear HW
  go_wp2_with fail
  refine (CA _).mono ?_
  rintro e w1 ⟨rfl, Bn⟩
  have X0' := hid (X0.out.below Bn.out X0.out.lt)
  clear X0
  have X0 := X0'
  clear X0'
  have D0' := hid ((D0.out.below Bn.out).mono Bn.out.size)
  clear D0
  have D0 := D0'
  clear D0'
  have Dl' := hid ((Dl.out.below Bn.out).mono Bn.out.size)
  clear Dl
  have Dl := Dl'
  clear Dl'
  have Dm' := hid ((Dm.out.below Bn.out).mono Bn.out.size)
  clear Dm
  have Dm := Dm'
  clear Dm'
  have B15 := hid (B0.out.trans (Bn.out.mono B0.out.size))
  clear B0
  have x3_0 := X0.out.c0
  have x3_1 := X0.out.c1
  have x3_2 := X0.out.c2
  have hM16 := hid (DM w1 o p _ _ _ _ _ _ _ _ _ _ D0.out Dl.out (Nat.le_refl _) (Nat.le_refl _))
  rw [He.out.1, He.out.2.1, He.out.2.2.1, He.out.2.2.2] at hM16
  unfold cav at hM16
  go_wp2_with fail
  refine hM16.out.mono ?_
  rintro e w16 ⟨A16, n16, c16, rfl, hv16⟩
  clear hM16 x3_0 x3_1 x3_2
  go_upto_region 5 with fail
  have Bn16 := hid (hv16.out.2.1.alloc hv16.out.2.1.size (.cells #[.int .i64 o, .int .i64 p, .slice A16 n16 c16] 24))
  have X16 := hid (show Cbox (w16.alloc (.cells #[.int .i64 o, .int .i64 p, .slice A16 n16 c16] 24)) w16.heap.size o p (.slice A16 n16 c16) from heap_alloc_new w16 _)
  have D16 := hid ((hv16.out.1.below ((Below.refl w16.heap.size w16).alloc (Nat.le_refl _) (.cells #[.int .i64 o, .int .i64 p, .slice A16 n16 c16] 24))).mono (by simp : w16.heap.size ≤ (w16.alloc (.cells #[.int .i64 o, .int .i64 p, .slice A16 n16 c16] 24)).heap.size))
  clear hv16
  generalize w16.alloc (.cells #[.int .i64 o, .int .i64 p, .slice A16 n16 c16] 24) = W16 at Bn16 X16 D16 ⊢
  have X0' := hid (X0.out.below Bn16.out X0.out.lt)
  clear X0
  have X0 := X0'
  clear X0'
  have D0' := hid ((D0.out.below Bn16.out).mono Bn16.out.size)
  clear D0
  have D0 := D0'
  clear D0'
  have Dl' := hid ((Dl.out.below Bn16.out).mono Bn16.out.size)
  clear Dl
  have Dl := Dl'
  clear Dl'
  have Dm' := hid ((Dm.out.below Bn16.out).mono Bn16.out.size)
  clear Dm
  have Dm := Dm'
  clear Dm'
  have B17 := hid (B15.out.trans (Bn16.out.mono B15.out.size))
  clear B15
  clear Bn16
  have x8_0 := X16.out.c0
  have x8_1 := X16.out.c1
  have x8_2 := X16.out.c2
  have hM18 := hid (DM W16 o p _ _ _ _ _ _ _ _ _ _ D16.out Dm.out (Nat.le_refl _) (Nat.le_refl _))
  rw [Hg.out.1, Hg.out.2.1, Hg.out.2.2.1, Hg.out.2.2.2] at hM18
  unfold cav at hM18
  go_wp2_with fail
  refine hM18.out.mono ?_
  rintro e w18 ⟨A18, n18, c18, rfl, hv18⟩
  clear hM18 x8_0 x8_1 x8_2
  go_upto_region 6 with fail
  have Bn18 := hid (hv18.out.2.1.alloc hv18.out.2.1.size (.cells #[.int .i64 o, .int .i64 p, .slice A18 n18 c18] 24))
  have X18 := hid (show Cbox (w18.alloc (.cells #[.int .i64 o, .int .i64 p, .slice A18 n18 c18] 24)) w18.heap.size o p (.slice A18 n18 c18) from heap_alloc_new w18 _)
  have D18 := hid ((hv18.out.1.below ((Below.refl w18.heap.size w18).alloc (Nat.le_refl _) (.cells #[.int .i64 o, .int .i64 p, .slice A18 n18 c18] 24))).mono (by simp : w18.heap.size ≤ (w18.alloc (.cells #[.int .i64 o, .int .i64 p, .slice A18 n18 c18] 24)).heap.size))
  clear hv18
  generalize w18.alloc (.cells #[.int .i64 o, .int .i64 p, .slice A18 n18 c18] 24) = W18 at Bn18 X18 D18 ⊢
  have X0' := hid (X0.out.below Bn18.out X0.out.lt)
  clear X0
  have X0 := X0'
  clear X0'
  have X16' := hid (X16.out.below Bn18.out X16.out.lt)
  clear X16
  have X16 := X16'
  clear X16'
  have D0' := hid ((D0.out.below Bn18.out).mono Bn18.out.size)
  clear D0
  have D0 := D0'
  clear D0'
  have D16' := hid ((D16.out.below Bn18.out).mono Bn18.out.size)
  clear D16
  have D16 := D16'
  clear D16'
  have Dl' := hid ((Dl.out.below Bn18.out).mono Bn18.out.size)
  clear Dl
  have Dl := Dl'
  clear Dl'
  have Dm' := hid ((Dm.out.below Bn18.out).mono Bn18.out.size)
  clear Dm
  have Dm := Dm'
  clear Dm'
  have B19 := hid (B17.out.trans (Bn18.out.mono B17.out.size))
  clear B17
  clear Bn18
  have x8_0 := X16.out.c0
  have x8_1 := X16.out.c1
  have x8_2 := X16.out.c2
  have hM20 := hid (DM W18 o p _ _ _ _ _ _ _ _ _ _ D16.out Dl.out (Nat.le_refl _) (Nat.le_refl _))
  rw [Hf.out.1, Hf.out.2.1, Hf.out.2.2.1, Hf.out.2.2.2] at hM20
  unfold cav at hM20
  go_wp2_with fail
  refine hM20.out.mono ?_
  rintro e w20 ⟨A20, n20, c20, rfl, hv20⟩
  clear hM20 x8_0 x8_1 x8_2
  go_upto_region 9 with fail
  have Bn20 := hid (hv20.out.2.1.alloc hv20.out.2.1.size (.cells #[.int .i64 o, .int .i64 p, .slice A20 n20 c20] 24))
  have X20 := hid (show Cbox (w20.alloc (.cells #[.int .i64 o, .int .i64 p, .slice A20 n20 c20] 24)) w20.heap.size o p (.slice A20 n20 c20) from heap_alloc_new w20 _)
  have D20 := hid ((hv20.out.1.below ((Below.refl w20.heap.size w20).alloc (Nat.le_refl _) (.cells #[.int .i64 o, .int .i64 p, .slice A20 n20 c20] 24))).mono (by simp : w20.heap.size ≤ (w20.alloc (.cells #[.int .i64 o, .int .i64 p, .slice A20 n20 c20] 24)).heap.size))
  clear hv20
  generalize w20.alloc (.cells #[.int .i64 o, .int .i64 p, .slice A20 n20 c20] 24) = W20 at Bn20 X20 D20 ⊢
  have X0' := hid (X0.out.below Bn20.out X0.out.lt)
  clear X0
  have X0 := X0'
  clear X0'
  have X16' := hid (X16.out.below Bn20.out X16.out.lt)
  clear X16
  have X16 := X16'
  clear X16'
  have X18' := hid (X18.out.below Bn20.out X18.out.lt)
  clear X18
  have X18 := X18'
  clear X18'
  have D0' := hid ((D0.out.below Bn20.out).mono Bn20.out.size)
  clear D0
  have D0 := D0'
  clear D0'
  have D16' := hid ((D16.out.below Bn20.out).mono Bn20.out.size)
  clear D16
  have D16 := D16'
  clear D16'
  have D18' := hid ((D18.out.below Bn20.out).mono Bn20.out.size)
  clear D18
  have D18 := D18'
  clear D18'
  have Dl' := hid ((Dl.out.below Bn20.out).mono Bn20.out.size)
  clear Dl
  have Dl := Dl'
  clear Dl'
  have Dm' := hid ((Dm.out.below Bn20.out).mono Bn20.out.size)
  clear Dm
  have Dm := Dm'
  clear Dm'
  have B21 := hid (B19.out.trans (Bn20.out.mono B19.out.size))
  clear B19
  clear Bn20
  have x12_0 := X20.out.c0
  have x12_1 := X20.out.c1
  have x12_2 := X20.out.c2
  have x8_0 := X16.out.c0
  have x8_1 := X16.out.c1
  have x8_2 := X16.out.c2
  have hS22 := hid (DS W20 o p o p _ _ _ _ _ _ _ _ _ _ D20.out D16.out (Nat.le_refl _) (Nat.le_refl _))
  rw [show decide (o = o ∧ p = p ∧ t = t) = true from decide_eq_true ⟨rfl, rfl, rfl⟩] at hS22
  unfold cav at hS22
  go_wp2_with fail
  refine hS22.out.mono ?_
  rintro e w22 ⟨rfl, Bn22⟩
  clear hS22 x12_0 x12_1 x12_2 x8_0 x8_1 x8_2
  have X0' := hid (X0.out.below Bn22.out X0.out.lt)
  clear X0
  have X0 := X0'
  clear X0'
  have X16' := hid (X16.out.below Bn22.out X16.out.lt)
  clear X16
  have X16 := X16'
  clear X16'
  have X18' := hid (X18.out.below Bn22.out X18.out.lt)
  clear X18
  have X18 := X18'
  clear X18'
  have X20' := hid (X20.out.below Bn22.out X20.out.lt)
  clear X20
  have X20 := X20'
  clear X20'
  have D0' := hid ((D0.out.below Bn22.out).mono Bn22.out.size)
  clear D0
  have D0 := D0'
  clear D0'
  have D16' := hid ((D16.out.below Bn22.out).mono Bn22.out.size)
  clear D16
  have D16 := D16'
  clear D16'
  have D18' := hid ((D18.out.below Bn22.out).mono Bn22.out.size)
  clear D18
  have D18 := D18'
  clear D18'
  have D20' := hid ((D20.out.below Bn22.out).mono Bn22.out.size)
  clear D20
  have D20 := D20'
  clear D20'
  have Dl' := hid ((Dl.out.below Bn22.out).mono Bn22.out.size)
  clear Dl
  have Dl := Dl'
  clear Dl'
  have Dm' := hid ((Dm.out.below Bn22.out).mono Bn22.out.size)
  clear Dm
  have Dm := Dm'
  clear Dm'
  have B23 := hid (B21.out.trans (Bn22.out.mono B21.out.size))
  clear B21
  clear Bn22
  go_upto_region 13 with fail
  have HE1 : Hid (Od ((w22.alloc (.cells #[] 29)).drew) w22.heap.size (.slice (some ⟨w22.heap.size, 0, none⟩) 0 0) []) := hid (od_at (show ((w22.alloc (.cells #[] 29)).drew).heap[w22.heap.size]? = _ from heap_alloc_new w22 _) (Nat.le_refl _))
  have HE2 : Hid (Od (((w22.alloc (.cells #[] 29)).alloc (.cells #[.int .i64 0, .int .i64 0, .slice none 0 0] 24)).drew) w22.heap.size (.slice (some ⟨w22.heap.size, 0, none⟩) 0 0) []) := hid (od_at (show (((w22.alloc (.cells #[] 29)).alloc (.cells #[.int .i64 0, .int .i64 0, .slice none 0 0] 24)).drew).heap[w22.heap.size]? = _ from heap2_0 w22 _ _) (Nat.le_refl _))
  have HE3 : Hid (Od (((w22.alloc (.cells #[.int .i64 0, .int .i64 0, .slice none 0 0] 24)).alloc (.cells #[] 29)).drew) w22.heap.size (.slice (some ⟨w22.heap.size + 1, 0, none⟩) 0 0) []) := hid (od_at (show (((w22.alloc (.cells #[.int .i64 0, .int .i64 0, .slice none 0 0] 24)).alloc (.cells #[] 29)).drew).heap[w22.heap.size + 1]? = _ from heap2_1 w22 _ _) (Nat.le_succ _))
  have CZ2 := hid (show Cbox (((w22.alloc (.cells #[] 29)).alloc (.cells #[.int .i64 0, .int .i64 0, .slice none 0 0] 24)).drew) (w22.heap.size + 1) 0 0 (.slice none 0 0) from heap2_1 w22 _ _)
  have CZ3 := hid (show Cbox (((w22.alloc (.cells #[.int .i64 0, .int .i64 0, .slice none 0 0] 24)).alloc (.cells #[] 29)).drew) w22.heap.size 0 0 (.slice none 0 0) from heap2_0 w22 _ _)
  have HB1 : Hid (Below w22.heap.size w22 ((w22.alloc (.cells #[] 29)).drew)) := hid (((Below.refl _ w22).alloc (Nat.le_refl _) _).drew)
  have HB2 : Hid (Below w22.heap.size w22 (((w22.alloc (.cells #[] 29)).alloc (.cells #[.int .i64 0, .int .i64 0, .slice none 0 0] 24)).drew)) := hid ((((Below.refl _ w22).alloc (Nat.le_refl _) _).alloc (by simp) _).drew)
  have HB3 : Hid (Below w22.heap.size w22 (((w22.alloc (.cells #[.int .i64 0, .int .i64 0, .slice none 0 0] 24)).alloc (.cells #[] 29)).drew)) := hid ((((Below.refl _ w22).alloc (Nat.le_refl _) _).alloc (by simp) _).drew)
  have HBa : Hid (Below w22.heap.size w22 (w22.alloc (.cells #[.int .i64 0, .int .i64 0, .slice none 0 0] 24)).drew) := hid (((Below.refl _ w22).alloc (Nat.le_refl _) _).drew)
  have HBz : Hid (Below w22.heap.size w22 w22.drew) := hid (Below.refl w22.heap.size w22).drew
  have CG : Hid (∀ X, Below w22.heap.size w22 X → X.cell? ⟨w.heap.size, 0, none⟩ = some (.int .i64 o) ∧ X.cell? ⟨w.heap.size, 1, none⟩ = some (.int .i64 p) ∧ X.cell? ⟨w.heap.size, 2, none⟩ = some (.slice Ac nc cc)) := hid fun X hb => by
    have h1 := X0.out.below hb X0.out.lt
    exact ⟨h1.c0, h1.c1, h1.c2⟩
  have CM := hid (fun (X : World) (hb : Below w22.heap.size w22 X) (A2 : Option Addr) (c2 : Nat) (hD : Ds X X.heap.size A2 N c2 s) => DM X o p _ _ _ _ _ _ _ _ _ _ (D0.out.below hb) hD hb.size (Nat.le_refl _))
  rw [Hd.out.1, Hd.out.2.1, Hd.out.2.2.1, Hd.out.2.2.2] at CM
  unfold cav at CM
  go_region_held3 (fun X => X.cell? ⟨w.heap.size, 0, none⟩ = some (.int .i64 o) ∧ X.cell? ⟨w.heap.size, 1, none⟩ = some (.int .i64 p) ∧ X.cell? ⟨w.heap.size, 2, none⟩ = some (.slice Ac nc cc))
    (first | with_reducible exact CG.out _ HBz.out | with_reducible exact CG.out _ HBa.out | with_reducible exact CG.out _ HB1.out | with_reducible exact CG.out _ HB2.out | with_reducible exact CG.out _ HB3.out | with_reducible exact CG.out _ (HBz.out.alloc HBz.out.size _) | exact CG.out _ (below_putC HBz.out (HZl.out)) | exact CG.out _ (HBz.out.alloc HBz.out.size _))
    (first
    | (refine step_appD rfl (.tmp 80) (.tmp 81) rfl (v := .slice (some ⟨w22.heap.size, 0, none⟩) 0 0) (B := w22.heap.size) (l := []) (r := l) rfl rfl (by first | with_reducible exact HE1.out | with_reducible exact HE2.out) (by first | with_reducible exact Dl.out.below HB1.out | with_reducible exact Dl.out.below HB2.out) (by have := hl25.out; have := HL.out; simp only [List.length_nil]; omega) (by first | with_reducible exact HB1.out.size | with_reducible exact HB2.out.size) ?_
       intro v82 w82 HT1
       have HO82 : Hid (Od w82 w22.heap.size v82 l) := hid HT1.out.own
       have HBz : Hid (Below w22.heap.size w22 w82) := hid (by first | with_reducible exact HB1.out.trans (HT1.out.below (own_new (Nat.le_refl _)) HB1.out.size) | with_reducible exact HB2.out.trans (HT1.out.below (own_new (Nat.le_refl _)) HB2.out.size))
       try (have HZ := hid (HT1.out.box HE2.out CZ2.out); have HZl : Hid (w22.heap.size ≤ w22.heap.size + 1) := hid (Nat.le_succ _)))
    | (refine step_appD rfl (.tmp 80) (.tmp 81) rfl (v := .slice (some ⟨w22.heap.size + 1, 0, none⟩) 0 0) (B := w22.heap.size) (l := []) (r := l) rfl rfl (by with_reducible exact HE3.out) (by with_reducible exact Dl.out.below HB3.out) (by have := hl25.out; have := HL.out; simp only [List.length_nil]; omega) (by with_reducible exact HB3.out.size) ?_
       intro v82 w82 HT1
       have HO82 : Hid (Od w82 w22.heap.size v82 l) := hid HT1.out.own
       have HBz : Hid (Below w22.heap.size w22 w82) := hid (HB3.out.trans (HT1.out.below (own_new (Nat.le_succ _)) HB3.out.size))
       have HZ := hid (HT1.out.box HE3.out CZ3.out)
       have HZl : Hid (w22.heap.size ≤ w22.heap.size) := hid (Nat.le_refl _))
    | (refine step_appD rfl (.tmp 82) (.tmp 83) rfl (v := v82) (B := w22.heap.size) (l := l) (r := m) rfl rfl (by first | with_reducible exact HO82.out | with_reducible exact HO82.out.below ((Below.refl _ _).alloc (Nat.le_refl _) _)) (by first | with_reducible exact Dm.out.below HBz.out | with_reducible exact Dm.out.below (HBz.out.alloc HBz.out.size _)) (by have := hl25.out; have := hm25.out; have := HM.out; omega) (by first | with_reducible exact HBz.out.size | with_reducible exact (HBz.out.alloc HBz.out.size _).size) ?_
       intro v84 w84 HT2
       have HO84 : Hid (Od w84 w22.heap.size v84 s) := hid (by rw [HS.out]; exact HT2.out.own)
       try (have HZ := hid (HT2.out.box HO82.out HZ.out))
       try (have HZ := hid (HT2.out.box (HO82.out.below ((Below.refl _ _).alloc (Nat.le_refl _) _)) (cache_new w82)); have HZl : Hid (w22.heap.size ≤ w82.heap.size) := hid HBz.out.size)
       have HBz : Hid (Below w22.heap.size w22 w84) := hid (by first | with_reducible exact HBz.out.trans (HT2.out.below (fun k hk => (own_lt HO82.out k hk).1) HBz.out.size) | with_reducible exact (HBz.out.alloc HBz.out.size _).trans (HT2.out.below (fun k hk => (own_lt HO82.out k hk).1) (HBz.out.alloc HBz.out.size _).size))
       obtain ⟨A84, c84, hv84, hD84, _, _⟩ := HO84.out.form
       rw [HN.out] at hv84 hD84
       subst hv84
       have HD84 := hid hD84
       clear hD84)
    | (go_at_call 11
       with_reducible refine (CM.out _ (by first | with_reducible exact HBz.out | with_reducible exact HBz.out.alloc HBz.out.size _) _ _ (by first | with_reducible exact HD84.out | with_reducible exact (HD84.out.below ((Below.refl _ _).alloc (Nat.le_refl _) _)).mono (Nat.le_succ _) | exact (HD84.out.below ((Below.refl _ _).alloc (Nat.le_refl _) _)).mono (by simp))).mono ?_
       rintro e' w' ⟨A85, n85, c85, rfl, hv85⟩
       try (have HZp := HZ; have HZ := hid (HZp.out.below hv85.out.2.1 HZp.out.lt); have hNe := hid (fun (a : Addr) (ha : A85 = some a) => Nat.ne_of_gt (Nat.lt_of_lt_of_le HZp.out.lt (hv85.out.2.2 a ha))))
       try (have HZ := hid ((cache_new w84).below hv85.out.2.1 (cache_new w84).lt); have HZl : Hid (w22.heap.size ≤ w84.heap.size) := hid HBz.out.size; have hNe := hid (fun (a : Addr) (ha : A85 = some a) => Nat.ne_of_gt (Nat.lt_of_lt_of_le (cache_new w84).lt (hv85.out.2.2 a ha))))
       have HBz : Hid (Below w22.heap.size w22 w') := hid (by first | with_reducible exact HBz.out.trans (hv85.out.2.1.mono HBz.out.size) | with_reducible exact (HBz.out.alloc HBz.out.size _).trans (hv85.out.2.1.mono (HBz.out.alloc HBz.out.size _).size))
       try (have zc0 := HZ.out.c0; have zc1 := HZ.out.c1; have zc2 := HZ.out.c2; have zf0 := HZ.out.frozen 0; have zf1 := HZ.out.frozen 1; have zf2 := HZ.out.frozen 2)))
  all_goals
    go_upto_region 14 with fail
    try clear zc0 zc1 zc2 zf0 zf1 zf2
    first
    | (refine putC_out (Q := fun W => Code.wp _ _ _ _ W) HZ.out ?_
       intro W14 X14' hW14
       have X14 := hid X14'
       have BN : Hid (Below w22.heap.size w22 W14) := hid (by rw [hW14]; exact below_putC HBz.out HZl.out)
       have D14 : Hid (Ds W14 W14.heap.size A85 n85 c85 v) := hid (by rw [hW14]; exact (hv85.out.1.putC hNe.out).mono (Nat.le_of_eq putC_size.symm))
       clear X14' hW14)
    | (refine alloc_out (Q := fun W => Code.wp _ _ _ _ W) ?_
       intro W14 X14' hW14
       have X14 := hid X14'
       have BN : Hid (Below w22.heap.size w22 W14) := hid (by rw [hW14]; exact HBz.out.alloc HBz.out.size _)
       have D14 : Hid (Ds W14 W14.heap.size A85 n85 c85 v) := hid (by rw [hW14]; exact (hv85.out.1.below ((Below.refl _ _).alloc (Nat.le_refl _) _)).mono (by simp))
       clear X14' hW14)
    clear HBz hv85
    have X0' := hid (X0.out.below BN.out X0.out.lt)
    clear X0
    have X0 := X0'
    clear X0'
    have X16' := hid (X16.out.below BN.out X16.out.lt)
    clear X16
    have X16 := X16'
    clear X16'
    have X18' := hid (X18.out.below BN.out X18.out.lt)
    clear X18
    have X18 := X18'
    clear X18'
    have X20' := hid (X20.out.below BN.out X20.out.lt)
    clear X20
    have X20 := X20'
    clear X20'
    have D0' := hid ((D0.out.below BN.out).mono BN.out.size)
    clear D0
    have D0 := D0'
    clear D0'
    have D16' := hid ((D16.out.below BN.out).mono BN.out.size)
    clear D16
    have D16 := D16'
    clear D16'
    have D18' := hid ((D18.out.below BN.out).mono BN.out.size)
    clear D18
    have D18 := D18'
    clear D18'
    have D20' := hid ((D20.out.below BN.out).mono BN.out.size)
    clear D20
    have D20 := D20'
    clear D20'
    have Dl' := hid ((Dl.out.below BN.out).mono BN.out.size)
    clear Dl
    have Dl := Dl'
    clear Dl'
    have Dm' := hid ((Dm.out.below BN.out).mono BN.out.size)
    clear Dm
    have Dm := Dm'
    clear Dm'
    have B24 := hid (B23.out.trans (BN.out.mono B23.out.size))
    clear B23
    have x3_0 := X0.out.c0
    have x3_1 := X0.out.c1
    have x3_2 := X0.out.c2
    have hM25 := hid (DM W14 o p _ _ _ _ _ _ _ _ _ _ D0.out Dm.out (Nat.le_refl _) (Nat.le_refl _))
    rw [Hi.out.1, Hi.out.2.1, Hi.out.2.2.1, Hi.out.2.2.2] at hM25
    unfold cav at hM25
    go_wp2_with fail
    refine hM25.out.mono ?_
    rintro e w25 ⟨A25, n25, c25, rfl, hv25⟩
    clear hM25 x3_0 x3_1 x3_2
    go_upto_region 15 with fail
    have Bn25 := hid (hv25.out.2.1.alloc hv25.out.2.1.size (.cells #[.int .i64 o, .int .i64 p, .slice A25 n25 c25] 24))
    have X25 := hid (show Cbox (w25.alloc (.cells #[.int .i64 o, .int .i64 p, .slice A25 n25 c25] 24)) w25.heap.size o p (.slice A25 n25 c25) from heap_alloc_new w25 _)
    have D25 := hid ((hv25.out.1.below ((Below.refl w25.heap.size w25).alloc (Nat.le_refl _) (.cells #[.int .i64 o, .int .i64 p, .slice A25 n25 c25] 24))).mono (by simp : w25.heap.size ≤ (w25.alloc (.cells #[.int .i64 o, .int .i64 p, .slice A25 n25 c25] 24)).heap.size))
    clear hv25
    generalize w25.alloc (.cells #[.int .i64 o, .int .i64 p, .slice A25 n25 c25] 24) = W25 at Bn25 X25 D25 ⊢
    have X0' := hid (X0.out.below Bn25.out X0.out.lt)
    clear X0
    have X0 := X0'
    clear X0'
    have X16' := hid (X16.out.below Bn25.out X16.out.lt)
    clear X16
    have X16 := X16'
    clear X16'
    have X18' := hid (X18.out.below Bn25.out X18.out.lt)
    clear X18
    have X18 := X18'
    clear X18'
    have X20' := hid (X20.out.below Bn25.out X20.out.lt)
    clear X20
    have X20 := X20'
    clear X20'
    have X14' := hid (X14.out.below Bn25.out X14.out.lt)
    clear X14
    have X14 := X14'
    clear X14'
    have D0' := hid ((D0.out.below Bn25.out).mono Bn25.out.size)
    clear D0
    have D0 := D0'
    clear D0'
    have D16' := hid ((D16.out.below Bn25.out).mono Bn25.out.size)
    clear D16
    have D16 := D16'
    clear D16'
    have D18' := hid ((D18.out.below Bn25.out).mono Bn25.out.size)
    clear D18
    have D18 := D18'
    clear D18'
    have D20' := hid ((D20.out.below Bn25.out).mono Bn25.out.size)
    clear D20
    have D20 := D20'
    clear D20'
    have D14' := hid ((D14.out.below Bn25.out).mono Bn25.out.size)
    clear D14
    have D14 := D14'
    clear D14'
    have Dl' := hid ((Dl.out.below Bn25.out).mono Bn25.out.size)
    clear Dl
    have Dl := Dl'
    clear Dl'
    have Dm' := hid ((Dm.out.below Bn25.out).mono Bn25.out.size)
    clear Dm
    have Dm := Dm'
    clear Dm'
    have B26 := hid (B24.out.trans (Bn25.out.mono B24.out.size))
    clear B24
    clear Bn25
    have x16_0 := X25.out.c0
    have x16_1 := X25.out.c1
    have x16_2 := X25.out.c2
    have hM27 := hid (DM W25 o p _ _ _ _ _ _ _ _ _ _ D25.out Dl.out (Nat.le_refl _) (Nat.le_refl _))
    rw [Hj.out.1, Hj.out.2.1, Hj.out.2.2.1, Hj.out.2.2.2] at hM27
    unfold cav at hM27
    go_wp2_with fail
    refine hM27.out.mono ?_
    rintro e w27 ⟨A27, n27, c27, rfl, hv27⟩
    clear hM27 x16_0 x16_1 x16_2
    go_upto_region 16 with fail
    have Bn27 := hid (hv27.out.2.1.alloc hv27.out.2.1.size (.cells #[.int .i64 o, .int .i64 p, .slice A27 n27 c27] 24))
    have X27 := hid (show Cbox (w27.alloc (.cells #[.int .i64 o, .int .i64 p, .slice A27 n27 c27] 24)) w27.heap.size o p (.slice A27 n27 c27) from heap_alloc_new w27 _)
    have D27 := hid ((hv27.out.1.below ((Below.refl w27.heap.size w27).alloc (Nat.le_refl _) (.cells #[.int .i64 o, .int .i64 p, .slice A27 n27 c27] 24))).mono (by simp : w27.heap.size ≤ (w27.alloc (.cells #[.int .i64 o, .int .i64 p, .slice A27 n27 c27] 24)).heap.size))
    clear hv27
    generalize w27.alloc (.cells #[.int .i64 o, .int .i64 p, .slice A27 n27 c27] 24) = W27 at Bn27 X27 D27 ⊢
    have X0' := hid (X0.out.below Bn27.out X0.out.lt)
    clear X0
    have X0 := X0'
    clear X0'
    have X16' := hid (X16.out.below Bn27.out X16.out.lt)
    clear X16
    have X16 := X16'
    clear X16'
    have X18' := hid (X18.out.below Bn27.out X18.out.lt)
    clear X18
    have X18 := X18'
    clear X18'
    have X20' := hid (X20.out.below Bn27.out X20.out.lt)
    clear X20
    have X20 := X20'
    clear X20'
    have X14' := hid (X14.out.below Bn27.out X14.out.lt)
    clear X14
    have X14 := X14'
    clear X14'
    have X25' := hid (X25.out.below Bn27.out X25.out.lt)
    clear X25
    have X25 := X25'
    clear X25'
    have D0' := hid ((D0.out.below Bn27.out).mono Bn27.out.size)
    clear D0
    have D0 := D0'
    clear D0'
    have D16' := hid ((D16.out.below Bn27.out).mono Bn27.out.size)
    clear D16
    have D16 := D16'
    clear D16'
    have D18' := hid ((D18.out.below Bn27.out).mono Bn27.out.size)
    clear D18
    have D18 := D18'
    clear D18'
    have D20' := hid ((D20.out.below Bn27.out).mono Bn27.out.size)
    clear D20
    have D20 := D20'
    clear D20'
    have D14' := hid ((D14.out.below Bn27.out).mono Bn27.out.size)
    clear D14
    have D14 := D14'
    clear D14'
    have D25' := hid ((D25.out.below Bn27.out).mono Bn27.out.size)
    clear D25
    have D25 := D25'
    clear D25'
    have Dl' := hid ((Dl.out.below Bn27.out).mono Bn27.out.size)
    clear Dl
    have Dl := Dl'
    clear Dl'
    have Dm' := hid ((Dm.out.below Bn27.out).mono Bn27.out.size)
    clear Dm
    have Dm := Dm'
    clear Dm'
    have B28 := hid (B26.out.trans (Bn27.out.mono B26.out.size))
    clear B26
    clear Bn27
    have x14_0 := X14.out.c0
    have x14_1 := X14.out.c1
    have x14_2 := X14.out.c2
    have x10_0 := X18.out.c0
    have x10_1 := X18.out.c1
    have x10_2 := X18.out.c2
    have hS29 := hid (DS W27 o p o p _ _ _ _ _ _ _ _ _ _ D14.out D18.out (Nat.le_refl _) (Nat.le_refl _))
    rw [show decide (o = o ∧ p = p ∧ v = v) = true from decide_eq_true ⟨rfl, rfl, rfl⟩] at hS29
    unfold cav at hS29
    go_wp2_with fail
    refine hS29.out.mono ?_
    rintro e w29 ⟨rfl, Bn29⟩
    clear hS29 x14_0 x14_1 x14_2 x10_0 x10_1 x10_2
    have X0' := hid (X0.out.below Bn29.out X0.out.lt)
    clear X0
    have X0 := X0'
    clear X0'
    have X16' := hid (X16.out.below Bn29.out X16.out.lt)
    clear X16
    have X16 := X16'
    clear X16'
    have X18' := hid (X18.out.below Bn29.out X18.out.lt)
    clear X18
    have X18 := X18'
    clear X18'
    have X20' := hid (X20.out.below Bn29.out X20.out.lt)
    clear X20
    have X20 := X20'
    clear X20'
    have X14' := hid (X14.out.below Bn29.out X14.out.lt)
    clear X14
    have X14 := X14'
    clear X14'
    have X25' := hid (X25.out.below Bn29.out X25.out.lt)
    clear X25
    have X25 := X25'
    clear X25'
    have X27' := hid (X27.out.below Bn29.out X27.out.lt)
    clear X27
    have X27 := X27'
    clear X27'
    have D0' := hid ((D0.out.below Bn29.out).mono Bn29.out.size)
    clear D0
    have D0 := D0'
    clear D0'
    have D16' := hid ((D16.out.below Bn29.out).mono Bn29.out.size)
    clear D16
    have D16 := D16'
    clear D16'
    have D18' := hid ((D18.out.below Bn29.out).mono Bn29.out.size)
    clear D18
    have D18 := D18'
    clear D18'
    have D20' := hid ((D20.out.below Bn29.out).mono Bn29.out.size)
    clear D20
    have D20 := D20'
    clear D20'
    have D14' := hid ((D14.out.below Bn29.out).mono Bn29.out.size)
    clear D14
    have D14 := D14'
    clear D14'
    have D25' := hid ((D25.out.below Bn29.out).mono Bn29.out.size)
    clear D25
    have D25 := D25'
    clear D25'
    have D27' := hid ((D27.out.below Bn29.out).mono Bn29.out.size)
    clear D27
    have D27 := D27'
    clear D27'
    have Dl' := hid ((Dl.out.below Bn29.out).mono Bn29.out.size)
    clear Dl
    have Dl := Dl'
    clear Dl'
    have Dm' := hid ((Dm.out.below Bn29.out).mono Bn29.out.size)
    clear Dm
    have Dm := Dm'
    clear Dm'
    have B30 := hid (B28.out.trans (Bn29.out.mono B28.out.size))
    clear B28
    clear Bn29
    have x18_0 := X27.out.c0
    have x18_1 := X27.out.c1
    have x18_2 := X27.out.c2
    have x10_0 := X18.out.c0
    have x10_1 := X18.out.c1
    have x10_2 := X18.out.c2
    have hS31 := hid (DS w29 o p o p _ _ _ _ _ _ _ _ _ _ D27.out D18.out (Nat.le_refl _) (Nat.le_refl _))
    rw [show decide (o = o ∧ p = p ∧ v = v) = true from decide_eq_true ⟨rfl, rfl, rfl⟩] at hS31
    unfold cav at hS31
    go_wp2_with fail
    refine hS31.out.mono ?_
    rintro e w31 ⟨rfl, Bn31⟩
    clear hS31 x18_0 x18_1 x18_2 x10_0 x10_1 x10_2
    have X0' := hid (X0.out.below Bn31.out X0.out.lt)
    clear X0
    have X0 := X0'
    clear X0'
    have X16' := hid (X16.out.below Bn31.out X16.out.lt)
    clear X16
    have X16 := X16'
    clear X16'
    have X18' := hid (X18.out.below Bn31.out X18.out.lt)
    clear X18
    have X18 := X18'
    clear X18'
    have X20' := hid (X20.out.below Bn31.out X20.out.lt)
    clear X20
    have X20 := X20'
    clear X20'
    have X14' := hid (X14.out.below Bn31.out X14.out.lt)
    clear X14
    have X14 := X14'
    clear X14'
    have X25' := hid (X25.out.below Bn31.out X25.out.lt)
    clear X25
    have X25 := X25'
    clear X25'
    have X27' := hid (X27.out.below Bn31.out X27.out.lt)
    clear X27
    have X27 := X27'
    clear X27'
    have D0' := hid ((D0.out.below Bn31.out).mono Bn31.out.size)
    clear D0
    have D0 := D0'
    clear D0'
    have D16' := hid ((D16.out.below Bn31.out).mono Bn31.out.size)
    clear D16
    have D16 := D16'
    clear D16'
    have D18' := hid ((D18.out.below Bn31.out).mono Bn31.out.size)
    clear D18
    have D18 := D18'
    clear D18'
    have D20' := hid ((D20.out.below Bn31.out).mono Bn31.out.size)
    clear D20
    have D20 := D20'
    clear D20'
    have D14' := hid ((D14.out.below Bn31.out).mono Bn31.out.size)
    clear D14
    have D14 := D14'
    clear D14'
    have D25' := hid ((D25.out.below Bn31.out).mono Bn31.out.size)
    clear D25
    have D25 := D25'
    clear D25'
    have D27' := hid ((D27.out.below Bn31.out).mono Bn31.out.size)
    clear D27
    have D27 := D27'
    clear D27'
    have Dl' := hid ((Dl.out.below Bn31.out).mono Bn31.out.size)
    clear Dl
    have Dl := Dl'
    clear Dl'
    have Dm' := hid ((Dm.out.below Bn31.out).mono Bn31.out.size)
    clear Dm
    have Dm := Dm'
    clear Dm'
    have B32 := hid (B30.out.trans (Bn31.out.mono B30.out.size))
    clear B30
    clear Bn31
    go_wp2_with fail
    go_ret
    exact ⟨rfl, B32.out⟩
end Go.Proofs.Ythklhhgkklpbkaa
